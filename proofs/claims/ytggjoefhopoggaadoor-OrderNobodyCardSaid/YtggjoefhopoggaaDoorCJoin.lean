/-
  join, at any place.
-/
import Derived.Test.YtggjoefhopoggaaDoorCAtt

namespace Go.Proofs.YtggjoefhopoggaaDoor
open Go.RowKit Go.Lib

theorem own_kids {w : World} {B : Nat} {v : Value} {K : List Int} (h : w.ownsRow B 3 1 v K.length (cellsZ K)) : ∃ ka kc, v = .slice ka K.length kc ∧ KidsAt w ka K := by
  rcases h.2 with ⟨e, h0⟩ | ⟨g, cap, cur, rfl, _, hg, _, _, _, ht⟩
  · exact ⟨none, 0, by rw [e, h0], .inl (List.eq_nil_of_length_eq_zero h0)⟩
  · refine ⟨_, cap, rfl, .inr ⟨g, 0, rfl, fun j hj => ?_⟩⟩
    have h2 := cellsZ_at hj
    rw [← ht, List.getElem?_take, if_pos (by omega), Array.getElem?_toList] at h2
    rw [Nat.zero_add]
    simp only [World.cell?, hg]
    simpa using h2
theorem grown_set (w : World) (b j : Nat) (u : Value) : w.grownBy (w.setCell ⟨b, j, none⟩ u) (some b) :=
  ⟨rfl, rfl, rfl, by simp [World.setCell], fun k _ hn => Below.heap_setCell w ⟨b, j, none⟩ u k (fun e => hn (by rw [e]))⟩
/-- A kid has come in. -/
def joinedZ (l : List (Option Nd)) (i : Nat) (x : Nd) (at_ j : Nat) (y : Nd) (ka : Option Addr) (kc : Nat) : List (Option Nd) := (l.set i (some { x with ka := ka, kc := kc, kids := insZ x.kids at_ j })).set j (some { y with up := i })
set_option maxRecDepth 20000 in
set_option maxHeartbeats 4000000 in
theorem join_any (B : Nat) (w : World) (p nb : Nat) (deep : Int) (l : List (Option Nd)) (h : Full B w p nb deep l) (i at_ j : Nat) (x y : Nd) (hi : l[i]? = some (some x)) (hj : l[j]? = some (some y)) (hij : i ≠ j) (hat : at_ ≤ x.kids.length) (hlen : x.kids.length < 2000) :
    Calls Tryd.prog 69 #[.pointer (some ⟨p, 0, none⟩), .int .i64 i, .int .i64 at_, .int .i64 j] w fun e w' => e = .returned (.tuple #[]) ∧ Below B w w' ∧ ∃ ka kc, Full B w' p nb deep (joinedZ l i x at_ j y ka kc) := by
  have hpl : p < w.heap.size := lt_of_cell' h.t.c0
  have hsz : (w.alloc (.cells #[.int .i64 (j : Int)] 3)).heap.size = w.heap.size + 1 := by simp
  have hxo := h.own i x hi
  have cS := sins_any B (w.alloc (.cells #[.int .i64 (j : Int)] 3)) x.ks x.kids at_ w.heap.size j (hxo.alloc _) (by rw [hsz]; have := h.bn; have := h.ln; omega) hat (by omega) (heap_alloc_new w _) (fun e => by have := (hxo.lt _ e).2; omega)
  have hil : i < l.length := (List.getElem?_eq_some_iff.1 hi).1
  have hjl : j < l.length := (List.getElem?_eq_some_iff.1 hj).1
  obtain ⟨x0, x1, x2⟩ := h.ab i x hi
  obtain ⟨y0, y1, y2⟩ := h.ab j y hj
  have xy := h.aa i j x y hi hj hij
  have kp : x.ks.ownBlock ≠ some p := fun e => (h.kb i x p hi e).1 rfl
  have kn : x.ks.ownBlock ≠ some nb := fun e => (h.kb i x nb hi e).2.1 rfl
  have kx : x.ks.ownBlock ≠ some x.ab := fun e => ((h.kb i x x.ab hi e).2.2 i x hi).1 rfl
  have ky : x.ks.ownBlock ≠ some y.ab := fun e => ((h.kb i x y.ab hi e).2.2 j y hj).1 rfl
  have hxl : x.ab < w.heap.size := lt_of_cell' (h.t.yes i x hi).2.c0
  have hyl : y.ab < w.heap.size := lt_of_cell' (h.t.yes j y hj).2.c0
  obtain ⟨xc, xn⟩ := h.t.yes i x hi
  obtain ⟨yc, yn⟩ := h.t.yes j y hj
  have c1 := h.t.c1
  have c5 : w.cell? ⟨x.ab, 5, none⟩ = some x.ks := xn.c5
  have y4 := yn.c4
  have f5 := xn.f 5
  have f4 := yn.f 4
  have hle := h.t.le
  -- what stands behind Insert
  have KW : Hid (∀ w1, (w.alloc (.cells #[.int .i64 (j : Int)] 3)).grownBy w1 x.ks.ownBlock → ∀ b, b < w.heap.size → x.ks.ownBlock ≠ some b → w1.heap[b]? = w.heap[b]?) := Lib.hid (fun w1 hg b hb hn => (hg.block b (by rw [hsz]; omega) (fun e => hn e.symm)).trans (Below.heap_alloc w _ b hb))
  have HF := Lib.hid h
  have HI := Lib.hid hi
  have HJ := Lib.hid hj
  have HX := Lib.hid (And.intro x0 (And.intro x1 x2))
  have HY := Lib.hid (And.intro y0 (And.intro y1 y2))
  have HXY := Lib.hid xy
  have HK := Lib.hid (And.intro kp (And.intro kn (And.intro kx ky)))
  have HL := Lib.hid (And.intro hpl (And.intro h.ln (And.intro hxl hyl)))
  have HXN := Lib.hid xn
  have HLen : Hid ((insZ x.kids at_ j).length ≤ 2000 ∧ i ≠ j) := Lib.hid ⟨by unfold insZ; simp; omega, hij⟩
  have HYN := Lib.hid yn
  obtain ⟨n, hn⟩ : ∃ n, l.length = n := ⟨_, rfl⟩
  rw [hn] at hil hjl c1 hle
  have hiI : (i : Int) < (n : Int) := by omega
  have hjI : (j : Int) < (n : Int) := by omega
  obtain ⟨bx, hbx⟩ : ∃ b, x.ab = b := ⟨_, rfl⟩
  obtain ⟨by_, hby⟩ : ∃ b, y.ab = b := ⟨_, rfl⟩
  obtain ⟨kv, hkv⟩ : ∃ v, x.ks = v := ⟨_, rfl⟩
  rw [hbx] at xc c5 f5
  rw [hby] at yc y4 f4
  rw [hkv] at c5 cS
  have HBX := Lib.hid hbx
  have HBY := Lib.hid hby
  have HKV := Lib.hid hkv
  have hxyb : bx ≠ by_ := by rw [← hbx, ← hby]; exact xy
  have hxp : bx ≠ p := by rw [← hbx]; exact x1
  have hxn : bx ≠ nb := by rw [← hbx]; exact x2
  clear h hi hj hxo hbx hby hkv hn x0 x1 x2 y0 y1 y2 xy kp kn kx ky xn yn hxl hyl hpl hat hlen hij
  go_enter Tryd.func69, Tryd.ntmps69
  go_upto_region 1 with fail
  go_wp2_with (go_at_call 84; ((with_reducible refine (cS).mono ?_); rintro e w1 ⟨v', rfl, ownv, hgr, hbl⟩; obtain ⟨ka, kc, rfl, hkz⟩ := own_kids ownv; have KZ := Lib.hid hkz; have hW := KW.out w1 (by rw [HKV.out]; exact hgr); have d1 : w1.cell? ⟨p, 1, none⟩ = some (.slice (some ⟨nb, 0, none⟩) n n) := (World.cell?_of_block (w := w) (hW p HL.out.1 HK.out.1)).trans c1; have dx : w1.cell? ⟨bx, 5, none⟩ = some kv := (World.cell?_of_block (w := w) (hW bx (by have := HL.out.2.2.1; rw [HBX.out] at this; exact this) (by have := HK.out.2.2.1; rw [HBX.out] at this; exact this))).trans c5; have dy : w1.cell? ⟨nb, j, none⟩ = some (.pointer (some ⟨by_, 0, none⟩)) := (World.cell?_of_block (w := w) (hW nb HL.out.2.1 HK.out.2.1)).trans yc; have d4 : w1.cell? ⟨by_, 4, none⟩ = some (.int .i64 y.up) := (World.cell?_of_block (w := w) (hW by_ (by have := HL.out.2.2.2; rw [HBY.out] at this; exact this) (by have := HK.out.2.2.2; rw [HBY.out] at this; exact this))).trans y4; have g5 : w1.frozen? ⟨bx, 5, none⟩ = false := (World.frozen?_of_block (w := w) (hW bx (by have := HL.out.2.2.1; rw [HBX.out] at this; exact this) (by have := HK.out.2.2.1; rw [HBX.out] at this; exact this))).trans f5; have g4 : w1.frozen? ⟨by_, 4, none⟩ = false := (World.frozen?_of_block (w := w) (hW by_ (by have := HL.out.2.2.2; rw [HBY.out] at this; exact this) (by have := HK.out.2.2.2; rw [HBY.out] at this; exact this))).trans f4; have OV := Lib.hid ownv; have GR := Lib.hid hgr; have BL := Lib.hid hbl; have HWW := Lib.hid hW; clear ownv hgr hbl hW hkz))
  go_end0
  have ex := HBX.out
  have ey := HBY.out
  have ek := HKV.out
  subst ex
  subst ey
  have hW := HWW.out
  have hgs : w.heap.size + 1 ≤ w1.heap.size := by have := GR.out.size; rw [hsz] at this; exact this
  have hb1 : Below B w w1 := by
    have h0 := (Below.refl B w).alloc (by have := HF.out.bn; have := HF.out.ln; omega) (.cells #[.int .i64 (j : Int)] 3)
    exact h0.grown GR.out (by rw [hsz]; have := HF.out.bn; have := HF.out.ln; omega) (fun k e => by
      rw [← ek] at e
      exact ((HF.out.own i x HI.out).lt k e).1)
  have hvx : (Value.slice ka (insZ x.kids at_ j).length kc).ownBlock ≠ some x.ab := by
    rcases BL.out with e | e
    · rw [e, ← ek]; exact HK.out.2.2.1
    · rw [e, hsz]
      intro e2
      have := HL.out.2.2.1
      simp only [Option.some.injEq] at e2
      omega
  have hvy : (Value.slice ka (insZ x.kids at_ j).length kc).ownBlock ≠ some y.ab := by
    rcases BL.out with e | e
    · rw [e, ← ek]; exact HK.out.2.2.2
    · rw [e, hsz]
      intro e2
      have := HL.out.2.2.2
      simp only [Option.some.injEq] at e2
      omega
  refine ⟨rfl, ((hb1.setCell (p := ⟨x.ab, 5, none⟩) HX.out.1 _).setCell (p := ⟨y.ab, 4, none⟩) HY.out.1 _), ka, kc, ?_⟩
  have T1 : Turned x w w1 := ⟨by omega, fun b hb _ hn => hW b hb hn⟩
  have T2 : Turned x w (w1.setCell ⟨x.ab, 5, none⟩ (.slice ka (insZ x.kids at_ j).length kc)) :=
    ⟨by simpa [World.setCell] using T1.size, fun b hb hn hk => (Below.heap_setCell w1 ⟨x.ab, 5, none⟩ _ b hn).trans (T1.block b hb hn hk)⟩
  have hxw : ∀ k, w1.cell? ⟨x.ab, k, none⟩ = w.cell? ⟨x.ab, k, none⟩ := fun k => World.cell?_of_block (w := w) (hW x.ab HL.out.2.2.1 HK.out.2.2.1)
  have hc : ∀ k, k ≠ 5 → (w1.setCell ⟨x.ab, 5, none⟩ (.slice ka (insZ x.kids at_ j).length kc)).cell? ⟨x.ab, k, none⟩ = w.cell? ⟨x.ab, k, none⟩ := fun k hk => (World.cell?_setCell_other _ _ _ _ (fun e => hk (congrArg Addr.off e).symm)).trans (hxw k)
  have xn := HXN.out
  have NX : NodeAt (w1.setCell ⟨x.ab, 5, none⟩ (.slice ka (insZ x.kids at_ j).length kc)) { x with ka := ka, kc := kc, kids := insZ x.kids at_ j } := by
    refine ⟨(hc 0 (by decide)).trans xn.c0, (hc 1 (by decide)).trans xn.c1, (hc 2 (by decide)).trans xn.c2, (hc 3 (by decide)).trans xn.c3, (hc 4 (by decide)).trans xn.c4, World.cell?_setCell_same _ _ _ ((hxw 5).trans xn.c5), fun k => by rw [World.frozen?_setCell]; exact (World.frozen?_of_block (w := w) (hW x.ab HL.out.2.2.1 HK.out.2.2.1)).trans (xn.f k), ?_, HLen.out.1⟩
    rcases KZ.out with h0 | ⟨b, o, e, h0⟩
    · exact .inl h0
    · subst e
      exact .inr ⟨b, o, rfl, fun k hk => (World.cell?_setCell_far w1 ⟨x.ab, 5, none⟩ _ _ (fun e2 => hvx (by rw [show x.ab = b from e2]; rfl))).trans (h0 k hk)⟩
  have F2 := Full.turn HF.out HI.out { x with ka := ka, kc := kc, kids := insZ x.kids at_ j } rfl T2 NX (OV.out.kept (grown_set w1 x.ab 5 _) (.inr hvx)) (by
    rcases BL.out with e | e
    · exact .inl (e.trans (by rw [← ek]))
    · refine .inr (fun b e2 => ?_)
      have e3 : (Value.slice ka (insZ x.kids at_ j).length kc).ownBlock = some b := e2
      rw [e, hsz] at e3
      simp only [Option.some.injEq] at e3
      omega)
  have hj2 : (l.set i (some { x with ka := ka, kc := kc, kids := insZ x.kids at_ j }))[j]? = some (some y) := by
    rw [List.getElem?_set, if_neg HLen.out.2]; exact HJ.out
  have hyy : ∀ b, y.ks.ownBlock = some b → b ≠ y.ab := fun b e => ((HF.out.kb j y b HJ.out e).2.2 j y HJ.out).1
  have NY := (F2.t.yes j y hj2).2.setUp (fun b o e1 _ => hyy b (ks_block e1)) i
  exact Full.turn F2 hj2 { y with up := (i : Int) } rfl ⟨by simp [World.setCell], fun b _ hn _ => Below.heap_setCell _ ⟨y.ab, 4, none⟩ _ b hn⟩ NY ((F2.own j y hj2).kept (grown_set _ y.ab 4 _) (.inr (fun e => hyy _ e rfl))) (.inl rfl)


end Go.Proofs.YtggjoefhopoggaaDoor
