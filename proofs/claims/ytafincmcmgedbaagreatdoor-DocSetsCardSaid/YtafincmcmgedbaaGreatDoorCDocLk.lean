/-
  The program's Link of a document, where the link may be.
-/
import Derived.Test.YtafincmcmgedbaaGreatDoorCDocK
import Derived.Test.YtafincmcmgedbaaGreatDoorCLink

namespace Go.Proofs.YtafincmcmgedbaaGreatDoor
open Go.RowKit Go.Lib

def linkU (s : ByteArray) (r : Row) (f t : Nat) : Row := turnR (linkC s) r f t

set_option maxHeartbeats 2000000 in
theorem dlinkFn_any (v : Value) (cs : Row) (f t B : Nat) (s : ByteArray) (w : World) (hv : RowAt w v cs) (hl : cs.length ≤ 50000) (hft : f ≤ t) (ht : t ≤ cs.length) (hs : s.size ≤ 1000000) (hE : Tg.Env w) (hL : linkS s = true) (h1 : w.cell? ⟨B, 0, none⟩ = some (.string s)) :
    Calls Tryz.prog 88 #[v, .int .i64 (f : Int), .int .i64 (t : Int), .pointer (some ⟨B, 0, none⟩)] w (RowPost (linkU s cs f t) w) := by
  have hc := link_on v cs f t s w hv hl hft ht hs hE hL
  unfold linkU
  obtain ⟨a, cc, rfl⟩ := hv.len
  obtain ⟨R, hR⟩ : ∃ R, turnR (linkC s) cs f t = R := ⟨_, rfl⟩
  obtain ⟨n, hn⟩ : ∃ n, cs.length = n := ⟨_, rfl⟩
  rw [hR, hn] at hc
  rw [hR, hn]
  clear hv hR hn hl ht hE hL hs
  go_enter Tryz.func88, Tryz.ntmps88
  go_wp2_with (go_at_call 89; ((with_reducible refine hc.mono ?_); rintro e w2 ⟨v', rfl, own, hb⟩))
  go_ret2
  exact ⟨v', rfl, own, hb⟩

abbrev boxes3 (w : World) (al aa bl ba : Int) (s : ByteArray) : World :=
  ((w.alloc (.cells #[.int .i64 al, .int .i64 aa] 24)).alloc (.cells #[.int .i64 bl, .int .i64 ba] 24)).alloc (.cells #[.string s] 9)
theorem three_new (w : World) (al aa bl ba : Int) (s : ByteArray) : Below w.heap.size w (boxes3 w al aa bl ba s) ∧ (boxes3 w al aa bl ba s).cell? ⟨w.heap.size + 1 + 1, 0, none⟩ = some (.string s) := by
  unfold boxes3
  have hX := two_allocs w (.cells #[.int .i64 al, .int .i64 aa] 24) (.cells #[.int .i64 bl, .int .i64 ba] 24)
  have hs : ((w.alloc (.cells #[.int .i64 al, .int .i64 aa] 24)).alloc (.cells #[.int .i64 bl, .int .i64 ba] 24)).heap.size = w.heap.size + 1 + 1 := by simp
  obtain ⟨W, hW⟩ : ∃ W, (w.alloc (.cells #[.int .i64 al, .int .i64 aa] 24)).alloc (.cells #[.int .i64 bl, .int .i64 ba] 24) = W := ⟨_, rfl⟩
  rw [hW] at hX hs ⊢
  have k1 := (blk_new W #[.string s] 9 _ 0 _ hs rfl).1
  have b1 := below_alloc1 W (.cells #[.string s] 9)
  exact ⟨hX.trans (b1.mono hX.size), k1⟩

set_option maxRecDepth 20000 in
set_option maxHeartbeats 8000000 in
theorem dlink_any (v : Value) (l : List Lw) (p1 p2 q1 q2 : Int) (s : ByteArray) (w : World) (h : DocAt w v l) (hf : Fine (pl l)) (hE : Tg.Env w) (hs : s.size ≤ 1000000) (hL : linkS s = true) :
    Calls Tryz.prog 47 #[v, psV (p1, p2), psV (q1, q2), .string s] w (DocE (chD (pl l) (p1, p2) (q1, q2) (linkU s)).1 (chD (pl l) (p1, p2) (q1, q2) (linkU s)).2 w) := by
  obtain ⟨hX, k1⟩ := three_new w p1 p2 q1 q2 s
  have hgf := enters_of Tryz.func88 (by kernel_rfl) rfl
  have cH : Calls Tryz.prog 83 #[v, psV (p1, p2), psV (q1, q2), .func (.func 88) #[] #[.pointer (some ⟨w.heap.size + 1 + 1, 0, none⟩)]] (boxes3 w p1 p2 q1 q2 s) (DocE (chD (pl l) (p1, p2) (q1, q2) (linkU s)).1 (chD (pl l) (p1, p2) (q1, q2) (linkU s)).2 (boxes3 w p1 p2 q1 q2 s)) := by
    unfold chD
    cases hA : askedD (pl l) (p1, p2) (q1, q2) with
    | false =>
      exact change_off v _ _ l p1 p2 q1 q2 _ (fun w1 h1 => deach_off v _ _ l p1 p2 q1 q2 w1 (h.below (hX.trans (h1.mono hX.size))) hf (hE.below (hX.trans (h1.mono hX.size))) hA) (h.below hX)
    | true =>
      obtain ⟨al, aa, bl, ba, hp, hq, hsp, hmay⟩ := askedD_span hA
      simp only [Prod.mk.injEq] at hp hq
      obtain ⟨rfl, rfl⟩ := hp
      obtain ⟨rfl, rfl⟩ := hq
      have hdo : DoOk 88 #[.pointer (some ⟨w.heap.size + 1 + 1, 0, none⟩)] (linkU s) (boxes3 w (al : Int) (aa : Int) (bl : Int) (ba : Int) s) (pl l) := by
        intro V v' cs f t h1 h2 h3 h4 h5
        obtain ⟨x, hx, rfl⟩ := h3
        exact dlinkFn_any v' x.cs f t _ s V h2 (hf.z x hx).2.1 h4 h5 hs (hE.below (hX.trans (h1.mono hX.size))) hL ((h1.cell (lt_of_cell' k1)).trans k1)
      have h9 := change_ok v l al aa bl ba _ _ _ _ (h.below hX) hf (hE.below hX) hsp hmay hdo hgf
      simp only [if_true, Int.toNat_natCast]
      by_cases h0 : countD (pl l) al aa bl ba = 0
      · rw [if_pos h0, if_pos h0] at h9
        rw [if_pos h0]
        exact h9
      · rw [if_neg h0, if_neg h0] at h9
        rw [if_neg h0]
        exact h9
  obtain ⟨a, cc, rfl⟩ := h.s.len
  obtain ⟨⟨D, er⟩, hD⟩ : ∃ D, chD (pl l) (p1, p2) (q1, q2) (linkU s) = D := ⟨_, rfl⟩
  rw [hD] at cH ⊢
  dsimp only at cH ⊢
  obtain ⟨n, hn⟩ : ∃ n, l.length = n := ⟨_, rfl⟩
  unfold psV at *
  dsimp only at *
  rw [hn] at cH ⊢
  have HX := Lib.hid hX
  clear h hf hE hX k1 hs hL hD hn hgf
  go_enter Tryz.func47, Tryz.ntmps47
  go_wp2_with (go_at_call 83; ((with_reducible refine cH.mono ?_); rintro e w2 ⟨v2, m, rfl, o2, p2, hk⟩; have O2 := Lib.hid (And.intro (o2.mono HX.out.size) (And.intro p2 (HX.out.trans (hk.mono HX.out.size)))); clear o2 p2 hk))
  go_ret2
  exact ⟨_, m, rfl, O2.out.1, O2.out.2.1, O2.out.2.2⟩

end Go.Proofs.YtafincmcmgedbaaGreatDoor
