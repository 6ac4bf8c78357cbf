/-
  Graft.
-/
import Derived.Test.YtggjoefhopoggaaDoorCPlant
import Derived.Test.YtggjoefhopoggaaDoorCLookB

namespace Go.Proofs.YtggjoefhopoggaaDoor
open Go.RowKit Go.Lib

theorem hP_pos (t : Pn) : 0 ≤ hP t := by rw [hP_eq]; exact hPs_pos _
theorem hP_max (t : Pn) : max (0 : Int) (0 + hP t) = hP t := by have := hP_pos t; omega
mutual
theorem hP_size : ∀ t : Pn, hP t + 1 ≤ (sizeP t : Int)
  | .mk tag aa an ac tx ka kn kc ats kids => by
    have := hPs_size kids
    rw [hP, sizeP]
    omega
theorem hPs_size : ∀ l : List Pn, hPs l ≤ (sizePs l : Int)
  | [] => by rw [hPs, sizePs]; exact Int.le_refl _
  | t :: r => by
    have := hP_size t
    have := hPs_size r
    rw [hPs, sizePs]
    omega
end
theorem countF_le (l : List (Option Nd)) : countF l ≤ l.length := List.length_filter_le _ _
section
variable {deep : Int} {l l' : List (Option Nd)}
/-- The root of what was there is what was there. -/
theorem Grows.root (h : Grows l l') (hI : Inv deep l) : ∀ (n j : Nat) (y : Nd), l[j]? = some (some y) → ∃ (m : Nat) (z : Nd), rootF l' n (j : Int) = (m : Int) ∧ l[m]? = some (some z)
  | 0, j, y, hj => ⟨j, y, rfl, hj⟩
  | n + 1, j, y, hj => by
    rw [rootF, (nd_some (h.old j y hj)).2]
    split
    · exact ⟨j, y, rfl, hj⟩
    · rename_i hne
      rcases hI.par j y hj with h0 | ⟨i, x, e, hi, _⟩
      · exact absurd h0 hne
      · rw [e]
        exact h.root hI n i x hi
theorem Grows.depth (h : Grows l l') (hI : Inv deep l) : ∀ (n j : Nat) (y : Nd), l[j]? = some (some y) → depthF l' n (j : Int) = depthF l n (j : Int)
  | 0, j, y, hj => rfl
  | n + 1, j, y, hj => by
    rw [depthF, depthF, (nd_some (h.old j y hj)).1, (nd_some hj).1, (nd_some (h.old j y hj)).2, (nd_some hj).2, if_pos rfl, if_pos rfl]
    rcases hI.par j y hj with h0 | ⟨i, x, e, hi, _⟩
    · rw [h0]
      have hn : ∀ (q : List (Option Nd)) (n : Nat), depthF q n (-1) = -1 := fun q n => by
        cases n with
        | zero => rfl
        | succ n => rw [depthF, (nd_none (nd_neg q)).1, if_neg (by decide)]
      rw [hn, hn]
    · rw [e, h.depth hI n i x hi]
end

set_option maxRecDepth 20000 in
set_option maxHeartbeats 8000000 in
theorem graft_keep (B : Nat) (w : World) (p nb : Nat) (deep : Int) (l : List (Option Nd)) (h : Full B w p nb deep l) (hI : Inv deep l) (hd0 : 0 ≤ deep) (hd : deep ≤ 40) (hT : OwnT w) (w0 : World) (hB0 : w0.heap.size = B) (hb0 : Below B w0 w) (t : Pn) (hPt : PlAt w0 t) (hsl : slimP t = true) (hn : sizeP t ≤ 50000) (pa at_ : Int) :
    Calls Tryd.prog 46 #[.pointer (some ⟨p, 0, none⟩), .int .i64 pa, .int .i64 at_, t.v] w (Kept B w p deep l.length) := by
  have KP := Lib.hid (fun (e : Ending) (w' : World) (he : ∃ v, e = .returned v) (hb : Below w.heap.size w w') => kept_of (w' := w') h hI he hb)
  have hnb := h.ln
  have hbn := h.bn
  have hb1 := (Below.refl _ w).alloc (Nat.le_refl _) (.cells #[.int .i64 t.tag, .slice t.aa t.an t.ac, .string t.tx, .slice t.ka t.kn t.kc] 67)
  have HTB := fun (w1 : World) (hb : Below w.heap.size w w1) => h.t.below hnb hb
  have hnB := fun (w1 : World) (hb : Below w.heap.size w w1) => Nat.lt_of_lt_of_le hnb hb.size
  have cE := fun (w1 : World) (hb : Below w.heap.size w w1) => element_any w1 p nb deep l (HTB w1 hb) pa (hnB w1 hb)
  have hPw : PlAt w t := hPt.stay (by rw [hB0]; exact hb0)
  have cL := fun (w1 : World) (hb : Below w.heap.size w w1) => look_any w1 t (hT.below hb) (hPw.stay hb) hn
  have HB1 := Lib.hid hb1
  have KX : Hid (∀ w2, Below (w.alloc (.cells #[.int .i64 t.tag, .slice t.aa t.an t.ac, .string t.tx, .slice t.ka t.kn t.kc] 67)).heap.size (w.alloc (.cells #[.int .i64 t.tag, .slice t.aa t.an t.ac, .string t.tx, .slice t.ka t.kn t.kc] 67)) w2 → w2.cell? ⟨w.heap.size, 0, none⟩ = some (.int .i64 t.tag) ∧ w2.cell? ⟨w.heap.size, 1, none⟩ = some (.slice t.aa t.an t.ac) ∧ w2.cell? ⟨w.heap.size, 2, none⟩ = some (.string t.tx) ∧ w2.cell? ⟨w.heap.size, 3, none⟩ = some (.slice t.ka t.kn t.kc)) := Lib.hid (fun w2 h => ⟨(h.cell (p := ⟨w.heap.size, 0, none⟩) (by simp)).trans (by simp [go_sem]), (h.cell (p := ⟨w.heap.size, 1, none⟩) (by simp)).trans (by simp [go_sem]), (h.cell (p := ⟨w.heap.size, 2, none⟩) (by simp)).trans (by simp [go_sem]), (h.cell (p := ⟨w.heap.size, 3, none⟩) (by simp)).trans (by simp [go_sem])⟩)
  have hv : t.v = .agg #[.int .i64 t.tag, .slice t.aa t.an t.ac, .string t.tx, .slice t.ka t.kn t.kc] := rfl
  rw [hv] at cL ⊢
  by_cases hel : ∃ (i : Nat) (x : Nd), pa = (i : Int) ∧ l[i]? = some (some x) ∧ x.tag ≠ 0
  · obtain ⟨i, x, rfl, hi, ht⟩ := hel
    have e3 : elemT l (i : Int) = (some x, 0) := by unfold elemT; rw [ndAt_of hi]; exact if_neg ht
    rw [e3] at cE
    unfold ndV at cE
    dsimp only at cE
    have cT := fun (w1 : World) (hb : Below w.heap.size w w1) => takes_any w1 x at_ ((HTB w1 hb).yes i x hi).2
    by_cases hk : takesT x at_ = true
    · rw [hk] at cT
      by_cases hg : goodP t = true
      · have cL : ∀ (w1 : World), Below w.heap.size w w1 → Calls Tryd.prog 65 #[.agg #[.int .i64 t.tag, .slice t.aa t.an t.ac, .string t.tx, .slice t.ka t.kn t.kc]] w1 fun e w' => e = .returned (.agg #[.bool false, .bool (!shortP t), .int .i64 (hP t), .int .i64 (sizeP t : Int)]) ∧ Below w1.heap.size w1 w' := fun w1 hb => (cL w1 hb).mono (by
          rintro e w' ⟨lg, h3, c3, rfl, hb3, hq⟩
          obtain ⟨rfl, rfl, rfl⟩ := hq hg
          rw [hg, highP_is, hP_max]
          exact ⟨rfl, hb3⟩)
        by_cases hs : shortP t = true
        · rw [hs] at cL
          have hh1 := hP_size t
          have hh0 := hP_pos t
          have cF := fun (w1 : World) (hb : Below w.heap.size w w1) => fits_any w1 p nb deep l (HTB w1 hb) (hnB w1 hb) i (hP t) 41 (by omega) (by omega) (hI.endsDa hd _)
          by_cases hf : depthF l 41 (i : Int) + 1 + hP t ≤ deep
          · rw [decide_eq_true hf] at cF
            have cC := fun (w1 : World) (hb : Below w.heap.size w w1) => count_any w1 p nb deep l (HTB w1 hb)
            have c1 := h.t.c1
            have hle := h.t.le
            have hpl : p < w.heap.size := lt_of_cell' c1
            have hcl := countF_le l
            have cP : ∀ (w1 : World), countF l + sizeP t ≤ l.length → Below w.heap.size w w1 → Calls Tryd.prog 68 #[.pointer (some ⟨p, 0, none⟩), .agg #[.int .i64 t.tag, .slice t.aa t.an t.ac, .string t.tx, .slice t.ka t.kn t.kc]] w1 fun e w' => ∃ j : Nat, e = .returned (.int .i64 j) ∧ Calls Tryd.prog 69 #[.pointer (some ⟨p, 0, none⟩), .int .i64 i, .int .i64 at_, .int .i64 j] w' fun e2 w2 => e2 = .returned (.tuple #[]) ∧ Hid (∀ e' w', (∃ v, e' = .returned v) → Below w2.heap.size w2 w' → Kept B w p deep l.length e' w') := fun w1 hc hb => by
              have hd1 := depthF_le l 41 (i : Int)
              have hBw : Below B w w1 := hb.mono (by omega)
              refine (plant_any B p nb deep hd0 hd w0 hB0 (sizeP t) t (Nat.le_refl _) hPt hg hs hsl (by omega) w1 l (hb0.trans hBw) (h.below hb) hI hc).mono ?_
              rintro e w' ⟨j, l2, y, rfl, q1, q2, q3, q4, q5, q6, q7, q8, q9⟩
              unfold takesT at hk
              simp only [Bool.and_eq_true, decide_eq_true_eq] at hk
              obtain ⟨a, rfl⟩ : ∃ a : Nat, at_ = (a : Int) := ⟨at_.toNat, by omega⟩
              have hij : i ≠ j := fun e => by rw [e, q5] at hi; cases hi
              have hi2 := q4.old i x hi
              have hj0 : j ≠ 0 := fun e => by obtain ⟨x0, hx0, _⟩ := hI.host; rw [e, hx0] at q5; cases q5
              have hkl := q3.kidsLt hi2 q6 q7
              have hl2 := q4.len
              refine ⟨j, rfl, (join_any B w' p nb deep l2 q2 i a j x y hi2 q6 hij (by omega) (by omega)).mono ?_⟩
              rintro e2 w2 ⟨rfl, r1, ka2, kc2, r2⟩
              have hr : rootF l2 41 (i : Int) ≠ (j : Int) := by
                obtain ⟨m, z, e5, hz⟩ := q4.root hI 41 i x hi
                rw [e5]
                intro e6
                obtain rfl : m = j := by omega
                rw [q5] at hz; cases hz
              have hJ := q3.join hd (a := a) hi2 q6 ht q7 hj0 hr (by rw [q4.depth hI 41 i x hi]; omega) ka2 kc2
              have hF2 : Tr B w2 p deep l.length := ⟨nb, _, r2, hJ, by unfold joinedZ; rw [List.length_set, List.length_set, hl2]⟩
              refine ⟨rfl, Lib.hid (fun e' w' he hb' => ⟨he, ((hBw.trans q1).trans r1).trans (hb'.mono (by have := r2.bn; have := r2.ln; omega)), nb, _, r2.below hb', hJ, by unfold joinedZ; rw [List.length_set, List.length_set, hl2]⟩)⟩
            obtain ⟨n, hn2⟩ : ∃ n, l.length = n := ⟨_, rfl⟩
            obtain ⟨cf, hcf⟩ : ∃ n, countF l = n := ⟨_, rfl⟩
            obtain ⟨sz, hsz⟩ : ∃ n, sizeP t = n := ⟨_, rfl⟩
            rw [hn2] at c1 hle hcl cP KP ⊢
            rw [hcf] at hcl cC cP
            rw [hsz] at hn cL cP
            have HPL := Lib.hid hpl
            have hwk : IntKind.i64.wrap ((n : Int) - (cf : Int)) = (n : Int) - (cf : Int) := IntWalk.i64_in _ (by omega)
            have TB := Lib.hid (fun (w1 : World) (hb : Below w.heap.size w w1) => show w1.cell? ⟨p, 1, none⟩ = some (.slice (some ⟨nb, 0, none⟩) n n) by have hq := (HTB w1 hb).c1; rw [hn2] at hq; exact hq)
            obtain ⟨xb, hxb⟩ : ∃ b, x.ab = b := ⟨_, rfl⟩
            rw [hxb] at cE cT
            obtain ⟨hx2, hhx⟩ : ∃ z, hP t = z := ⟨_, rfl⟩
            rw [hhx] at cL cF
            have HBSZ := Lib.hid (show (w.alloc (.cells #[.int .i64 t.tag, .slice t.aa t.an t.ac, .string t.tx, .slice t.ka t.kn t.kc] 67)).heap.size = w.heap.size + 1 by simp)
            by_cases hr : cf + sz ≤ n
            · have hgt : ¬ ((n : Int) - (cf : Int) < (sz : Int)) := by omega
              have hgt2 : decide ((n : Int) - (cf : Int) < (sz : Int)) = false := decide_eq_false hgt
              have cP := fun w1 => cP w1 hr
              clear h hI hnb hbn hb1 HTB hnB hT hB0 hb0 hPt hsl hPw hv hd0 hd e3 hi ht hk hg hs hxb hh1 hh0 hf hhx hn2 hcf hsz KP
              go_enter Tryd.func46, Tryd.ntmps46
              go_upto_region 12 with (first
                | (go_at_call 64; ((with_reducible refine (cE _ HB1.out).mono ?_); rintro e w2 ⟨rfl, hb2⟩; obtain ⟨x0, x1, x2, x3⟩ := KX.out w2 hb2; have hb := HB1.out.trans (hb2.mono (by simp)); have hbB := Lib.hid hb2; clear hb2))
                | (go_at_call 65; ((with_reducible refine (cL _ hb).mono ?_); rintro e w3 ⟨rfl, hb3⟩; replace hb := hb.trans (hb3.mono hb.size); have hz3 := hb.size; have hbC := Lib.hid (hbB.out.trans (hb3.mono hbB.out.size)); clear hbB; have hbB := hbC; clear hbC hb3 x0 x1 x2 x3))
                | (go_at_call 66; ((with_reducible refine (cT _ (by (repeat (first | (with_reducible exact hb) | (with_reducible exact Below.refl _ _) | (with_reducible refine Below.drew ?_) | (with_reducible refine Below.alloc ?_ ?_ _) | (with_reducible refine Below.setCell ?_ ?_ _) | omega | (simp <;> omega))))).mono ?_); rintro e w4 ⟨rfl, rfl⟩))
                | (go_at_call 67; ((with_reducible refine (cF _ (by (repeat (first | (with_reducible exact hb) | (with_reducible exact Below.refl _ _) | (with_reducible refine Below.drew ?_) | (with_reducible refine Below.alloc ?_ ?_ _) | (with_reducible refine Below.setCell ?_ ?_ _) | omega | (simp <;> omega))))).mono ?_); rintro e w5 ⟨rfl, hb5⟩; have hb' := (show Below w.heap.size w _ by (repeat (first | (with_reducible exact hb) | (with_reducible exact Below.refl _ _) | (with_reducible refine Below.drew ?_) | (with_reducible refine Below.alloc ?_ ?_ _) | (with_reducible refine Below.setCell ?_ ?_ _) | omega | (simp <;> omega)))).trans (hb5.mono (by simp; omega)); have hbC := Lib.hid ((show Below (w.alloc (.cells #[.int .i64 t.tag, .slice t.aa t.an t.ac, .string t.tx, .slice t.ka t.kn t.kc] 67)).heap.size (w.alloc (.cells #[.int .i64 t.tag, .slice t.aa t.an t.ac, .string t.tx, .slice t.ka t.kn t.kc] 67)) _ by (have hq := hbB.out.size; (repeat (first | (with_reducible exact hbB.out) | (with_reducible exact Below.refl _ _) | (with_reducible refine Below.drew ?_) | (with_reducible refine Below.alloc ?_ ?_ _) | (with_reducible refine Below.setCell ?_ ?_ _) | omega | (simp <;> omega))))).trans (hb5.mono (by have hq := hbB.out.size; simp at hq ⊢; omega))); have y3 : w5.cell? ⟨w3.heap.size, 3, none⟩ = some (.int .i64 (sz : Int)) := (hb5.cell (p := ⟨w3.heap.size, 3, none⟩) (by simp)).trans (by simp [go_sem]); clear hb hbB; have hb := hb'; have hbB := hbC; clear hb' hbC; have hyl : w3.heap.size < w5.heap.size := lt_of_cell' y3; have c5 := TB.out w5 hb; clear hb5)))
              have hS : (w5.cell? ⟨w3.heap.size, 3, none⟩ = some (.int .i64 (sz : Int)) ∧ w5.cell? ⟨p, 1, none⟩ = some (.slice (some ⟨nb, 0, none⟩) n n)) := ⟨y3, c5⟩
              have KS : Hid (∀ W', Below w5.heap.size w5 W' → (W'.cell? ⟨w3.heap.size, 3, none⟩ = some (.int .i64 (sz : Int)) ∧ W'.cell? ⟨p, 1, none⟩ = some (.slice (some ⟨nb, 0, none⟩) n n))) := Lib.hid (fun W' h => ⟨(h.cell (p := ⟨w3.heap.size, 3, none⟩) hyl).trans y3, (h.cell (p := ⟨p, 1, none⟩) (show p < _ by have := hb.size; have := HPL.out; omega)).trans c5⟩)
              clear y3 c5
              go_region_held3 (fun W' => (W'.cell? ⟨w3.heap.size, 3, none⟩ = some (.int .i64 (sz : Int)) ∧ W'.cell? ⟨p, 1, none⟩ = some (.slice (some ⟨nb, 0, none⟩) n n))) (first | (with_reducible exact hS) | (refine KS.out _ ?_; (repeat (first | (with_reducible exact Below.refl _ _) | (with_reducible refine Below.drew ?_))); done)) (first | (go_at_call 28; ((with_reducible refine (cC _ (by (repeat (first | (with_reducible exact hb) | (with_reducible refine Below.drew ?_))))).mono ?_); rintro e w6 ⟨rfl, rfl⟩)))
              all_goals obtain ⟨x0, x1, x2, x3⟩ := KX.out w5 hbB.out
              all_goals go_wp2_with (first
                | (go_at_call 68; ((with_reducible refine (cP _ (by (repeat (first | (with_reducible exact hb) | (with_reducible refine Below.drew ?_))))).mono ?_); rintro e w7 ⟨j, rfl, cJ⟩))
                | (go_at_call 69; ((with_reducible refine (cJ).mono ?_); rintro e w8 ⟨rfl, HK8⟩)))
              all_goals go_ret2
              all_goals exact HK8.out _ _ ⟨_, rfl⟩ (Below.refl _ _)
            · have hgt : (n : Int) - (cf : Int) < (sz : Int) := by omega
              have hgt2 : decide ((n : Int) - (cf : Int) < (sz : Int)) = true := decide_eq_true hgt
              clear h hI hnb hbn hb1 HTB hnB hT hB0 hb0 hPt hsl hPw hv hd0 hd e3 hi ht hk hg hs hxb hh1 hh0 hf hhx hn2 hcf hsz cP
              go_enter Tryd.func46, Tryd.ntmps46
              go_upto_region 12 with (first
                | (go_at_call 64; ((with_reducible refine (cE _ HB1.out).mono ?_); rintro e w2 ⟨rfl, hb2⟩; obtain ⟨x0, x1, x2, x3⟩ := KX.out w2 hb2; have hb := HB1.out.trans (hb2.mono (by simp)); have hbB := Lib.hid hb2; clear hb2))
                | (go_at_call 65; ((with_reducible refine (cL _ hb).mono ?_); rintro e w3 ⟨rfl, hb3⟩; replace hb := hb.trans (hb3.mono hb.size); have hz3 := hb.size; have hbC := Lib.hid (hbB.out.trans (hb3.mono hbB.out.size)); clear hbB; have hbB := hbC; clear hbC hb3 x0 x1 x2 x3))
                | (go_at_call 66; ((with_reducible refine (cT _ (by (repeat (first | (with_reducible exact hb) | (with_reducible exact Below.refl _ _) | (with_reducible refine Below.drew ?_) | (with_reducible refine Below.alloc ?_ ?_ _) | (with_reducible refine Below.setCell ?_ ?_ _) | omega | (simp <;> omega))))).mono ?_); rintro e w4 ⟨rfl, rfl⟩))
                | (go_at_call 67; ((with_reducible refine (cF _ (by (repeat (first | (with_reducible exact hb) | (with_reducible exact Below.refl _ _) | (with_reducible refine Below.drew ?_) | (with_reducible refine Below.alloc ?_ ?_ _) | (with_reducible refine Below.setCell ?_ ?_ _) | omega | (simp <;> omega))))).mono ?_); rintro e w5 ⟨rfl, hb5⟩; have hb' := (show Below w.heap.size w _ by (repeat (first | (with_reducible exact hb) | (with_reducible exact Below.refl _ _) | (with_reducible refine Below.drew ?_) | (with_reducible refine Below.alloc ?_ ?_ _) | (with_reducible refine Below.setCell ?_ ?_ _) | omega | (simp <;> omega)))).trans (hb5.mono (by simp; omega)); have hbC := Lib.hid ((show Below (w.alloc (.cells #[.int .i64 t.tag, .slice t.aa t.an t.ac, .string t.tx, .slice t.ka t.kn t.kc] 67)).heap.size (w.alloc (.cells #[.int .i64 t.tag, .slice t.aa t.an t.ac, .string t.tx, .slice t.ka t.kn t.kc] 67)) _ by (have hq := hbB.out.size; (repeat (first | (with_reducible exact hbB.out) | (with_reducible exact Below.refl _ _) | (with_reducible refine Below.drew ?_) | (with_reducible refine Below.alloc ?_ ?_ _) | (with_reducible refine Below.setCell ?_ ?_ _) | omega | (simp <;> omega))))).trans (hb5.mono (by have hq := hbB.out.size; simp at hq ⊢; omega))); have y3 : w5.cell? ⟨w3.heap.size, 3, none⟩ = some (.int .i64 (sz : Int)) := (hb5.cell (p := ⟨w3.heap.size, 3, none⟩) (by simp)).trans (by simp [go_sem]); clear hb hbB; have hb := hb'; have hbB := hbC; clear hb' hbC; have hyl : w3.heap.size < w5.heap.size := lt_of_cell' y3; have c5 := TB.out w5 hb; clear hb5)))
              have hS : (w5.cell? ⟨w3.heap.size, 3, none⟩ = some (.int .i64 (sz : Int)) ∧ w5.cell? ⟨p, 1, none⟩ = some (.slice (some ⟨nb, 0, none⟩) n n)) := ⟨y3, c5⟩
              have KS : Hid (∀ W', Below w5.heap.size w5 W' → (W'.cell? ⟨w3.heap.size, 3, none⟩ = some (.int .i64 (sz : Int)) ∧ W'.cell? ⟨p, 1, none⟩ = some (.slice (some ⟨nb, 0, none⟩) n n))) := Lib.hid (fun W' h => ⟨(h.cell (p := ⟨w3.heap.size, 3, none⟩) hyl).trans y3, (h.cell (p := ⟨p, 1, none⟩) (show p < _ by have := hb.size; have := HPL.out; omega)).trans c5⟩)
              clear y3 c5
              go_region_held3 (fun W' => (W'.cell? ⟨w3.heap.size, 3, none⟩ = some (.int .i64 (sz : Int)) ∧ W'.cell? ⟨p, 1, none⟩ = some (.slice (some ⟨nb, 0, none⟩) n n))) (first | (with_reducible exact hS) | (refine KS.out _ ?_; (repeat (first | (with_reducible exact Below.refl _ _) | (with_reducible refine Below.drew ?_))); done)) (first | (go_at_call 28; ((with_reducible refine (cC _ (by (repeat (first | (with_reducible exact hb) | (with_reducible refine Below.drew ?_))))).mono ?_); rintro e w6 ⟨rfl, rfl⟩)))
              all_goals go_wp2
              all_goals go_ret2
              all_goals exact KP.out _ _ ⟨_, rfl⟩ (by (repeat (first | (with_reducible exact hb) | (with_reducible refine Below.drew ?_))))
          · rw [decide_eq_false hf] at cF
            obtain ⟨xb, hxb⟩ : ∃ b, x.ab = b := ⟨_, rfl⟩
            rw [hxb] at cE cT
            obtain ⟨hx2, hhx⟩ : ∃ z, hP t = z := ⟨_, rfl⟩
            rw [hhx] at cL cF
            clear h hI hnb hbn hb1 HTB hnB hT hB0 hb0 hPt hsl hPw hv hd0 hd e3 hn hi ht hk hg hs hxb hh1 hh0 hf hhx
            go_enter Tryd.func46, Tryd.ntmps46
            go_wp2_with (first
              | (go_at_call 64; ((with_reducible refine (cE _ HB1.out).mono ?_); rintro e w2 ⟨rfl, hb2⟩; obtain ⟨x0, x1, x2, x3⟩ := KX.out w2 hb2; have hb := HB1.out.trans (hb2.mono (by simp)); clear hb2))
              | (go_at_call 65; ((with_reducible refine (cL _ hb).mono ?_); rintro e w3 ⟨rfl, hb3⟩; replace hb := hb.trans (hb3.mono hb.size); have hz3 := hb.size; clear hb3))
              | (go_at_call 66; ((with_reducible refine (cT _ (by (repeat (first | (with_reducible exact hb) | (with_reducible exact Below.refl _ _) | (with_reducible refine Below.drew ?_) | (with_reducible refine Below.alloc ?_ ?_ _) | (with_reducible refine Below.setCell ?_ ?_ _) | omega | (simp <;> omega))))).mono ?_); rintro e w4 ⟨rfl, rfl⟩))
              | (go_at_call 67; ((with_reducible refine (cF _ (by (repeat (first | (with_reducible exact hb) | (with_reducible exact Below.refl _ _) | (with_reducible refine Below.drew ?_) | (with_reducible refine Below.alloc ?_ ?_ _) | (with_reducible refine Below.setCell ?_ ?_ _) | omega | (simp <;> omega))))).mono ?_); rintro e w5 ⟨rfl, hb5⟩; have hb' := (show Below w.heap.size w _ by (repeat (first | (with_reducible exact hb) | (with_reducible exact Below.refl _ _) | (with_reducible refine Below.drew ?_) | (with_reducible refine Below.alloc ?_ ?_ _) | (with_reducible refine Below.setCell ?_ ?_ _) | omega | (simp <;> omega)))).trans (hb5.mono (by simp; omega)); clear hb; have hb := hb'; clear hb')))
            go_ret2
            exact KP.out _ _ ⟨_, rfl⟩ (by (repeat (first | (with_reducible exact hb) | (with_reducible exact Below.refl _ _) | (with_reducible refine Below.drew ?_) | (with_reducible refine Below.alloc ?_ ?_ _) | (with_reducible refine Below.setCell ?_ ?_ _) | omega | (simp <;> omega))))
        · rw [Bool.eq_false_iff.2 hs] at cL
          obtain ⟨xb, hxb⟩ : ∃ b, x.ab = b := ⟨_, rfl⟩
          rw [hxb] at cE cT
          clear h hI hnb hbn hb1 HTB hnB hT hB0 hb0 hPt hsl hPw hv hd0 hd e3 hn hi ht hk hg hs hxb
          go_enter Tryd.func46, Tryd.ntmps46
          go_wp2_with (first
            | (go_at_call 64; ((with_reducible refine (cE _ HB1.out).mono ?_); rintro e w2 ⟨rfl, hb2⟩; obtain ⟨x0, x1, x2, x3⟩ := KX.out w2 hb2; have hb := HB1.out.trans (hb2.mono (by simp)); clear hb2))
            | (go_at_call 65; ((with_reducible refine (cL _ hb).mono ?_); rintro e w3 ⟨rfl, hb3⟩; replace hb := hb.trans (hb3.mono hb.size); have hz3 := hb.size; clear hb3))
            | (go_at_call 66; ((with_reducible refine (cT _ (by (repeat (first | (with_reducible exact hb) | (with_reducible exact Below.refl _ _) | (with_reducible refine Below.drew ?_) | (with_reducible refine Below.alloc ?_ ?_ _) | (with_reducible refine Below.setCell ?_ ?_ _) | omega | (simp <;> omega))))).mono ?_); rintro e w4 ⟨rfl, rfl⟩)))
          go_ret2
          exact KP.out _ _ ⟨_, rfl⟩ (by (repeat (first | (with_reducible exact hb) | (with_reducible exact Below.refl _ _) | (with_reducible refine Below.drew ?_) | (with_reducible refine Below.alloc ?_ ?_ _) | (with_reducible refine Below.setCell ?_ ?_ _) | omega | (simp <;> omega))))
      · have cL : ∀ (w1 : World), Below w.heap.size w w1 → Calls Tryd.prog 65 #[.agg #[.int .i64 t.tag, .slice t.aa t.an t.ac, .string t.tx, .slice t.ka t.kn t.kc]] w1 fun e w' => ∃ lg h3 c3, e = .returned (.agg #[.bool true, .bool lg, .int .i64 h3, .int .i64 c3]) ∧ Below w1.heap.size w1 w' := fun w1 hb => (cL w1 hb).mono (by
          rintro e w' ⟨lg, h3, c3, rfl, hb3, _⟩
          rw [Bool.eq_false_iff.2 hg]
          exact ⟨lg, h3, c3, rfl, hb3⟩)
        obtain ⟨xb, hxb⟩ : ∃ b, x.ab = b := ⟨_, rfl⟩
        rw [hxb] at cE cT
        clear h hI hnb hbn hb1 HTB hnB hT hB0 hb0 hPt hsl hPw hv hd0 hd e3 hn hi ht hk hg hxb
        go_enter Tryd.func46, Tryd.ntmps46
        go_wp2_with (first
          | (go_at_call 64; ((with_reducible refine (cE _ HB1.out).mono ?_); rintro e w2 ⟨rfl, hb2⟩; obtain ⟨x0, x1, x2, x3⟩ := KX.out w2 hb2; have hb := HB1.out.trans (hb2.mono (by simp)); clear hb2))
          | (go_at_call 65; ((with_reducible refine (cL _ hb).mono ?_); rintro e w3 ⟨lg, h3, c3, rfl, hb3⟩; replace hb := hb.trans (hb3.mono hb.size); have hz3 := hb.size; clear hb3))
          | (go_at_call 66; ((with_reducible refine (cT _ (by (repeat (first | (with_reducible exact hb) | (with_reducible exact Below.refl _ _) | (with_reducible refine Below.drew ?_) | (with_reducible refine Below.alloc ?_ ?_ _) | (with_reducible refine Below.setCell ?_ ?_ _) | omega | (simp <;> omega))))).mono ?_); rintro e w4 ⟨rfl, rfl⟩)))
        go_ret2
        exact KP.out _ _ ⟨_, rfl⟩ (by (repeat (first | (with_reducible exact hb) | (with_reducible exact Below.refl _ _) | (with_reducible refine Below.drew ?_) | (with_reducible refine Below.alloc ?_ ?_ _) | (with_reducible refine Below.setCell ?_ ?_ _) | omega | (simp <;> omega))))
    · rw [Bool.eq_false_iff.2 hk] at cT
      have cL : ∀ (w1 : World), Below w.heap.size w w1 → Calls Tryd.prog 65 #[.agg #[.int .i64 t.tag, .slice t.aa t.an t.ac, .string t.tx, .slice t.ka t.kn t.kc]] w1 fun e w' => ∃ v0 lg h3 c3, e = .returned (.agg #[.bool v0, .bool lg, .int .i64 h3, .int .i64 c3]) ∧ Below w1.heap.size w1 w' := fun w1 hb => (cL w1 hb).mono (by
        rintro e w' ⟨lg, h3, c3, rfl, hb3, _⟩
        exact ⟨_, lg, h3, c3, rfl, hb3⟩)
      obtain ⟨xb, hxb⟩ : ∃ b, x.ab = b := ⟨_, rfl⟩
      rw [hxb] at cE cT
      clear h hI hnb hbn hb1 HTB hnB hT hB0 hb0 hPt hsl hPw hv hd0 hd e3 hn hi ht hk hxb
      go_enter Tryd.func46, Tryd.ntmps46
      go_wp2_with (first
        | (go_at_call 64; ((with_reducible refine (cE _ HB1.out).mono ?_); rintro e w2 ⟨rfl, hb2⟩; obtain ⟨x0, x1, x2, x3⟩ := KX.out w2 hb2; have hb := HB1.out.trans (hb2.mono (by simp)); clear hb2))
        | (go_at_call 65; ((with_reducible refine (cL _ hb).mono ?_); rintro e w3 ⟨v0, lg, h3, c3, rfl, hb3⟩; replace hb := hb.trans (hb3.mono hb.size); have hz3 := hb.size; clear hb3))
        | (go_at_call 66; ((with_reducible refine (cT _ (by (repeat (first | (with_reducible exact hb) | (with_reducible exact Below.refl _ _) | (with_reducible refine Below.drew ?_) | (with_reducible refine Below.alloc ?_ ?_ _) | (with_reducible refine Below.setCell ?_ ?_ _) | omega | (simp <;> omega))))).mono ?_); rintro e w4 ⟨rfl, rfl⟩)))
      go_ret2
      exact KP.out _ _ ⟨_, rfl⟩ (by (repeat (first | (with_reducible exact hb) | (with_reducible exact Below.refl _ _) | (with_reducible refine Below.drew ?_) | (with_reducible refine Below.alloc ?_ ?_ _) | (with_reducible refine Below.setCell ?_ ?_ _) | omega | (simp <;> omega))))
  · obtain ⟨er, hne, e3⟩ : ∃ er : Int, (er = 2 ∨ er = 6) ∧ elemT l pa = (none, er) := by
      unfold elemT
      cases hx : ndAt l pa with
      | none => exact ⟨2, by decide, rfl⟩
      | some x =>
        obtain ⟨i, rfl, hi⟩ := nd_id hx
        by_cases ht : x.tag = 0
        · exact ⟨6, by decide, by dsimp only; rw [if_pos ht]⟩
        · exact absurd ⟨i, x, rfl, hi, ht⟩ hel
    rw [e3] at cE
    unfold ndV at cE
    dsimp only at cE
    rcases hne with rfl | rfl
    · skip
      clear h hI hnb hbn hb1 HTB hnB hT hB0 hb0 hPt hsl hPw hv hd0 hd e3 cL hn hel
      go_enter Tryd.func46, Tryd.ntmps46
      go_wp2_with (first
        | (go_at_call 64; ((with_reducible refine (cE _ HB1.out).mono ?_); rintro e w2 ⟨rfl, hb2⟩; obtain ⟨x0, x1, x2, x3⟩ := KX.out w2 hb2; have hb := HB1.out.trans (hb2.mono (by simp)); clear hb2)))
      go_ret2
      exact KP.out _ _ ⟨_, rfl⟩ (by (repeat (first | (with_reducible exact hb) | (with_reducible exact Below.refl _ _) | (with_reducible refine Below.drew ?_) | (with_reducible refine Below.alloc ?_ ?_ _) | (with_reducible refine Below.setCell ?_ ?_ _) | omega | (simp <;> omega))))
    · skip
      clear h hI hnb hbn hb1 HTB hnB hT hB0 hb0 hPt hsl hPw hv hd0 hd e3 cL hn hel
      go_enter Tryd.func46, Tryd.ntmps46
      go_wp2_with (first
        | (go_at_call 64; ((with_reducible refine (cE _ HB1.out).mono ?_); rintro e w2 ⟨rfl, hb2⟩; obtain ⟨x0, x1, x2, x3⟩ := KX.out w2 hb2; have hb := HB1.out.trans (hb2.mono (by simp)); clear hb2)))
      go_ret2
      exact KP.out _ _ ⟨_, rfl⟩ (by (repeat (first | (with_reducible exact hb) | (with_reducible exact Below.refl _ _) | (with_reducible refine Below.drew ?_) | (with_reducible refine Below.alloc ?_ ?_ _) | (with_reducible refine Below.setCell ?_ ?_ _) | omega | (simp <;> omega))))

end Go.Proofs.YtggjoefhopoggaaDoor
