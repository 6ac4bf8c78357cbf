/-
  The document's Outdent.
-/
import Derived.Test.YtmlipcedkgfmiaaDoorDocOps
namespace Go.Proofs.YtmlipcedkgfmiaaDoor
open Go.RowKit Go.Lib

set_option maxRecDepth 20000 in
set_option maxHeartbeats 16000000 in
theorem Outdent_doc (q k : Int) (sl sc : Value) (ls : IRow) (cs : Row) (w : World) (h : LnAt w sl sc ls cs) (hls : ls.length ≤ 50000) (hcs : cs.length ≤ 50000) (hf : Fair cs) :
    Calls Tryd.prog 27 #[.agg #[.int .i64 q, sl, .int .i64 k, sc]] w (DocPost (opS (outdentS) ⟨q, ls, k, cs⟩) w) := by
  obtain ⟨a1, c1, e1, hnc, hcm⟩ := h.z.cap
  subst e1
  unfold maxLen at hcm
  obtain ⟨a2, c2, rfl⟩ := h.r.len
  have HZ := Lib.hid h.z
  have cM : ∀ w1, Below w.heap.size w w1 → Calls Tryd.prog 13 #[.agg #[.int .i64 q, .slice a1 ls.length c1, .int .i64 k, .slice a2 cs.length c2]] w1 fun e w' => e = .returned (.bool (mayS ⟨q, ls, k, cs⟩)) ∧ Below w1.heap.size w1 w' := fun w1 h1 => rlmay_any q k _ _ ls cs w1 (h.below h1) hcs hf
  have cO : ∀ w1, Below w.heap.size w w1 → Calls Tryd.prog 11 #[.agg #[.int .i64 q, .slice a1 ls.length c1, .int .i64 k, .slice a2 cs.length c2]] w1 fun e w' => ∃ sl' sc', e = .returned (.agg #[.int .i64 q, sl', .int .i64 k, sc']) ∧ OwnLn w1.heap.size w' sl' sc' ls cs ∧ Below w1.heap.size w1 w' := fun w1 h1 => rlown_any q k _ _ ls cs w1 (h.below h1) hls hcs
  have HX := Lib.hid (box_two w q k 0 0 (.slice a1 ls.length c1) (.slice a2 cs.length c2) (.slice none 0 0) (.slice none 0 0))
  unfold opS
  have hfacts := @mayS_facts q k ls cs
  obtain ⟨n1, hn1⟩ : ∃ n, ls.length = n := ⟨_, rfl⟩
  obtain ⟨n2, hn2⟩ : ∃ n, cs.length = n := ⟨_, rfl⟩
  have N1 := Lib.hid hn1
  have N2 := Lib.hid hn2
  rw [hn1] at cM cO HX HZ hnc hfacts ⊢
  rw [hn2] at cM cO HX ⊢
  have hu : w.heap.size < w.heap.size + 1 := by omega
  obtain ⟨M, hM⟩ : ∃ M, mayS ⟨q, ls, k, cs⟩ = M := ⟨_, rfl⟩
  rw [hM] at cM hfacts ⊢
  clear h hls hcs hf hn1 hn2 hM
  cases M with
  | false =>
    rw [if_neg (by decide)]
    clear hfacts
    go_enter Tryd.func27, Tryd.ntmps27
    go_wp2_with (first
      | (go_at_call 13; ((with_reducible refine (cM _ HX.out.1).mono ?_); rintro e w1 ⟨rfl, hb⟩; obtain ⟨b2, B0, B1⟩ := HX.out; have bW := Lib.hid (b2.trans (hb.mono b2.size)); have HB0 := Lib.hid (B0.below hb); have HB1 := Lib.hid (B1.below hb); have hs1 := HB1.out.lt; obtain ⟨l0, x0, x1, x2, x3, _, _, _, _⟩ := HB0.out; obtain ⟨l1, u0, u1, u2, u3, v0, v1, v2, v3⟩ := HB1.out; clear b2 B0 B1 hb)))
    exact bodyPost_ret (v := .tuple #[.agg #[.int .i64 0, .slice none 0 0, .int .i64 0, .slice none 0 0], .int .i64 1]) (by simp [results, Tryd.results27, go_sem, *]) rfl ⟨_, _, rfl, own_nil _ _, put4_below bW.out (Nat.le_of_lt hu)⟩
  | true =>
    rw [if_pos rfl]
    obtain ⟨⟨hq1, hq2⟩, hls6⟩ := hfacts rfl
    clear hfacts
    unfold outdentS
    dsimp only
    rw [N1.out]
    by_cases h0 : n1 = 0
    · subst h0
      rw [if_neg (by decide)]
      by_cases hq0 : q = 0
      · subst hq0
        rw [if_neg (by decide)]
        go_enter Tryd.func27, Tryd.ntmps27
        go_wp2_with (first
          | (go_at_call 13; ((with_reducible refine (cM _ HX.out.1).mono ?_); rintro e w1 ⟨rfl, hb⟩; obtain ⟨b2, B0, B1⟩ := HX.out; have bW := Lib.hid (b2.trans (hb.mono b2.size)); have HB0 := Lib.hid (B0.below hb); have HB1 := Lib.hid (B1.below hb); have hs1 := HB1.out.lt; obtain ⟨l0, x0, x1, x2, x3, _, _, _, _⟩ := HB0.out; obtain ⟨l1, u0, u1, u2, u3, v0, v1, v2, v3⟩ := HB1.out; clear b2 B0 B1 hb))
          | (go_at_call 11; ((with_reducible refine (cO _ bW.out).mono ?_); rintro e w2 ⟨sl', sc', rfl, ho, hb2⟩; have hs2 := hb2.size; have bW2 := Lib.hid (bW.out.trans (hb2.mono (by omega))); have HO := Lib.hid ho; have HBB := Lib.hid hb2; obtain ⟨a3, c3, e3⟩ := own_len ho.1; obtain ⟨a4, c4, e4⟩ := own_len ho.2; rw [N1.out] at e3; rw [N2.out] at e4; subst e3 e4; have HC0 := Lib.hid (HB0.out.below hb2); have HC1 := Lib.hid (HB1.out.below hb2); obtain ⟨l0, x0, x1, x2, x3, _, _, _, _⟩ := HC0.out; obtain ⟨l1, u0, u1, u2, u3, v0, v1, v2, v3⟩ := HC1.out; have hHP := Lib.hid (box_new w2 0 k (.slice a3 0 c3) (.slice a4 n2 c4)); clear ho hb2)))
        exact bodyPost_ret (v := .tuple #[.agg #[.int .i64 0, .slice none 0 0, .int .i64 0, .slice none 0 0], .int .i64 7]) (by simp [results, Tryd.results27, go_sem, *]) rfl ⟨_, _, rfl, (own_nil _ _), (put4_below bW2.out (Nat.le_of_lt hu)).alloc (by rw [put4_size]; exact bW2.out.size) _⟩
      · rw [if_pos (show 0 < q by omega)]
        have hq7 : (q == 0) = false := by simpa using hq0
        have hw1 : IntKind.i64.wrap (q - 1) = q - 1 := IntWalk.i64_in _ (by omega)
        go_enter Tryd.func27, Tryd.ntmps27
        go_wp2_with (first
          | (go_at_call 13; ((with_reducible refine (cM _ HX.out.1).mono ?_); rintro e w1 ⟨rfl, hb⟩; obtain ⟨b2, B0, B1⟩ := HX.out; have bW := Lib.hid (b2.trans (hb.mono b2.size)); have HB0 := Lib.hid (B0.below hb); have HB1 := Lib.hid (B1.below hb); have hs1 := HB1.out.lt; obtain ⟨l0, x0, x1, x2, x3, _, _, _, _⟩ := HB0.out; obtain ⟨l1, u0, u1, u2, u3, v0, v1, v2, v3⟩ := HB1.out; clear b2 B0 B1 hb))
          | (go_at_call 11; ((with_reducible refine (cO _ bW.out).mono ?_); rintro e w2 ⟨sl', sc', rfl, ho, hb2⟩; have hs2 := hb2.size; have bW2 := Lib.hid (bW.out.trans (hb2.mono (by omega))); have HO := Lib.hid ho; have HBB := Lib.hid hb2; obtain ⟨a3, c3, e3⟩ := own_len ho.1; obtain ⟨a4, c4, e4⟩ := own_len ho.2; rw [N1.out] at e3; rw [N2.out] at e4; subst e3 e4; have HC0 := Lib.hid (HB0.out.below hb2); have HC1 := Lib.hid (HB1.out.below hb2); obtain ⟨l0, x0, x1, x2, x3, _, _, _, _⟩ := HC0.out; obtain ⟨l1, u0, u1, u2, u3, v0, v1, v2, v3⟩ := HC1.out; have hHP := Lib.hid (box_new w2 q k (.slice a3 0 c3) (.slice a4 n2 c4)); clear ho hb2)))
        exact bodyPost_ret (v := .tuple #[.agg #[.int .i64 (q - 1), .slice a3 0 c3, .int .i64 k, .slice a4 n2 c4], .int .i64 0]) (by simp [results, Tryd.results27, go_sem, *]) rfl ⟨_, _, rfl, (doc_one HO.out hs1 bW2.out (Nat.le_of_lt hu) _ _ _ _ _).1, (doc_one HO.out hs1 bW2.out (Nat.le_of_lt hu) _ _ _ _ _).2⟩
    · rw [if_pos (show 0 < n1 by omega)]
      obtain ⟨g, o, c', e2, _, _, hgl, hIn⟩ := HZ.out.lies (by rw [N1.out]; omega)
      rw [N1.out] at e2
      simp only [Value.slice.injEq, true_and] at e2
      obtain ⟨rfl, rfl⟩ := e2
      obtain ⟨n, rfl⟩ : ∃ n, n1 = n + 1 := ⟨n1 - 1, by omega⟩
      rw [Nat.add_sub_cancel]
      have E1 : Hid ((ls.take n).length = n) := Lib.hid (by rw [List.length_take, N1.out]; omega)
      have HT : Hid (IntsAt w (.slice (some ⟨g, o, none⟩) n c1) (ls.take n)) := Lib.hid (by
        by_cases hz : n = 0
        · subst hz; exact .inl ⟨_, _, rfl, (fun h => by cases h), (by unfold maxLen; omega), by simp⟩
        · refine .inr ⟨g, o, c1, by rw [E1.out], by rw [E1.out]; omega, (by unfold maxLen; omega), hgl, ?_⟩
          have := hIn.part 0 n (by rw [N1.out]; omega)
          simpa using this)
      have hw1 : IntKind.i64.wrap (((n + 1 : Nat) : Int) - 1) = (n : Int) := by rw [IntWalk.i64_in _ (by omega)]; omega
      have n0 : ¬ ((n : Int) + 1 = 0) := by omega
      have nn : (0 : Int) < (n : Int) + 1 := by omega
      have nc : (n : Int) ≤ (c1 : Int) := by omega
      clear h0 hIn
      have hown0 : ∀ (w2 : World) (a3 a4 : Option Addr) (c3 c4 : Nat), ((w2.alloc (.cells #[.int .i64 q, .slice a3 (n + 1) c3, .int .i64 k, .slice a4 n2 c4] 25)).alloc (.cells #[] 3)).ownsRow w2.heap.size 3 1 (.slice (some ⟨w2.heap.size + 1, 0, none⟩) 0 0) 0 [] := fun w2 a3 a4 c3 c4 => by
        have h : ((w2.alloc (.cells #[.int .i64 q, .slice a3 (n + 1) c3, .int .i64 k, .slice a4 n2 c4] 25)).alloc (.cells #[] 3)).ownsRow w2.heap.size 3 1 (.slice (some ⟨(w2.alloc (.cells #[.int .i64 q, .slice a3 (n + 1) c3, .int .i64 k, .slice a4 n2 c4] 25)).heap.size, 0, none⟩) 0 0) 0 [] := World.ownsRow_made _ #[] 0 (by simp) (Nat.zero_le _) (by simp)
        rw [show (w2.alloc (.cells #[.int .i64 q, .slice a3 (n + 1) c3, .int .i64 k, .slice a4 n2 c4] 25)).heap.size = w2.heap.size + 1 by simp] at h
        exact h
      go_enter Tryd.func27, Tryd.ntmps27
      go_wp2_with (first
        | (go_at_call 13; ((with_reducible refine (cM _ HX.out.1).mono ?_); rintro e w1 ⟨rfl, hb⟩; obtain ⟨b2, B0, B1⟩ := HX.out; have bW := Lib.hid (b2.trans (hb.mono b2.size)); have HB0 := Lib.hid (B0.below hb); have HB1 := Lib.hid (B1.below hb); have hs1 := HB1.out.lt; obtain ⟨l0, x0, x1, x2, x3, _, _, _, _⟩ := HB0.out; obtain ⟨l1, u0, u1, u2, u3, v0, v1, v2, v3⟩ := HB1.out; clear b2 B0 B1 hb))
        | (go_at_call 11; ((with_reducible refine (cO _ bW.out).mono ?_); rintro e w2 ⟨sl', sc', rfl, ho, hb2⟩; have hs2 := hb2.size; have bW2 := Lib.hid (bW.out.trans (hb2.mono (by omega))); have HO := Lib.hid ho; have HBB := Lib.hid hb2; obtain ⟨a3, c3, e3⟩ := own_len ho.1; obtain ⟨a4, c4, e4⟩ := own_len ho.2; rw [N1.out] at e3; rw [N2.out] at e4; subst e3 e4; have HC0 := Lib.hid (HB0.out.below hb2); have HC1 := Lib.hid (HB1.out.below hb2); obtain ⟨l0, x0, x1, x2, x3, _, _, _, _⟩ := HC0.out; obtain ⟨l1, u0, u1, u2, u3, v0, v1, v2, v3⟩ := HC1.out; have hHP := Lib.hid (box_new w2 q k (.slice a3 (n + 1) c3) (.slice a4 n2 c4)); clear ho hb2))
        | (at_builtin; refine wpList_append_ints rfl _ _ rfl w2.heap.size _ [] rfl (hown0 w2 a3 a4 c3 c4) _ (ls.take n) rfl (HT.out.below (bW2.out.trans (Below.mono (show Below w2.heap.size w2 _ by (repeat (first | (with_reducible exact Below.refl _ _) | assumption | (with_reducible refine Below.drew ?_) | (with_reducible refine Below.alloc ?_ ?_ _) | omega | (simp <;> omega)))) (by omega)))) (by have := E1.out; simp; omega) (by first | omega | (simp <;> omega)) ?_; intro v3 w3 own3 grow3; have b23 : Below w2.heap.size w2 w3 := (show Below w2.heap.size w2 _ by (repeat (first | (with_reducible exact Below.refl _ _) | assumption | (with_reducible refine Below.drew ?_) | (with_reducible refine Below.alloc ?_ ?_ _) | omega | (simp <;> omega)))).grown grow3 (by first | omega | (simp <;> omega)) (fun k e => by cases e; exact Nat.le_succ _); have HW3 := Lib.hid (bW2.out.trans (b23.mono (by omega))); have HOC := Lib.hid (own_grown grow3 (ownsRow_below HO.out.2 (show Below w2.heap.size w2 _ by (repeat (first | (with_reducible exact Below.refl _ _) | assumption | (with_reducible refine Below.drew ?_) | (with_reducible refine Below.alloc ?_ ?_ _) | omega | (simp <;> omega))))) (fun g e => by cases e; exact own_ne2 HO.out.2 (Nat.le_succ _))); have HOZ := Lib.hid (show w3.ownsRow w2.heap.size 3 1 v3 (ls.take n).length (cellsZ (ls.take n)) from own3); obtain ⟨a5, c5, e5⟩ := own_len HOZ.out; rw [E1.out] at e5; subst e5; have HPB := Lib.hid ((grow3.block w2.heap.size (by simp <;> omega) (fun e => by have e2 : w2.heap.size = w2.heap.size + 1 := Option.some.inj e; omega)).trans (((show Below (w2.heap.size + 1) (w2.alloc (.cells #[.int .i64 q, .slice a3 (n + 1) c3, .int .i64 k, .slice a4 n2 c4] 25)) _ by (repeat (first | (with_reducible exact Below.refl _ _) | assumption | (with_reducible refine Below.drew ?_) | (with_reducible refine Below.alloc ?_ ?_ _) | omega | (simp <;> omega)))).block w2.heap.size (by omega)).trans (World.alloc_heap_new w2 _))); obtain ⟨_, g0, g1, g2, g3, g4, g5, g6, g7⟩ := box_blk HPB.out; obtain ⟨_, u0, u1, u2, u3, v0, v1, v2, v3⟩ := HC1.out.below b23; clear own3 grow3 b23))
      have hE := doc_two (w := w) (r := w.heap.size + 1) (p := w2.heap.size) (j := 1) HW3.out (by omega) (by omega) (by omega) (by omega) HOZ.out HOC.out (own_ne HOZ.out (by omega)) (own_ne3 HOZ.out HPB.out (by decide)) (own_ne HOC.out hs1) (own_ne2 HO.out.2 (Nat.le_refl _)) q k (.slice a5 n c5) (.slice a4 n2 c4) (.slice a5 n c5)
      exact bodyPost_ret (v := .tuple #[.agg #[.int .i64 q, .slice a5 n c5, .int .i64 k, .slice a4 n2 c4], .int .i64 0]) (by simp [results, Tryd.results27, go_sem, *]) rfl ⟨_, _, rfl, hE.1, hE.2⟩

end Go.Proofs.YtmlipcedkgfmiaaDoor
