/-
  The law of Moved.
-/
import Derived.Test.YtfjngijmncbnbaaTwoP
namespace Go.Proofs.Ytfjngijmncbnbaa
open Go.RowKit Go.Lib

theorem small4 {a b c d : Int} : ∀ w' k, w'.cell? ⟨k, 0, none⟩ = some (.int .i64 a) → w'.cell? ⟨k, 1, none⟩ = some (.int .i64 b) → w'.cell? ⟨k, 2, none⟩ = some (.int .i64 c) → w'.cell? ⟨k, 3, none⟩ = some (.int .i64 d) → Calls Try.prog 6 #[.slice (some ⟨k, 0, none⟩) 4 4] w' fun e w2 => e = .returned (.bool (smallB [a, b, c, d])) ∧ w2 = w' := fun w' k h0 h1 h2 h3 => small_any w' k [a, b, c, d] (fun j hj => by
    match j, hj with
    | 0, _ => exact h0
    | 1, _ => exact h1
    | 2, _ => exact h2
    | 3, _ => exact h3) (Nat.le_of_ble_eq_true rfl)

set_option maxRecDepth 20000 in
set_option maxHeartbeats 8000000 in
theorem lawMoved_walk (n k f t : Int) (w : World) :
    Calls Try.prog 5 #[.int .i64 n, .int .i64 k, .int .i64 f, .int .i64 t] w fun e w' => e = .returned (.bool true) ∧ Below w.heap.size w w' := by
  have cS := small4 (a := n) (b := k) (c := f) (d := t)
  have haw := awake_any
  have cT := at_any
  have hq := eqPlace
  cases hS : smallB [n, k, f, t] with
  | false =>
    rw [hS] at cS
    clear hS
    go_enter Try.func5, Try.ntmps5
    go_wp2_with (first
      | (go_at_call 6; ((with_reducible refine (cS _ _ (by simp [go_sem]) (by simp [go_sem]) (by simp [go_sem]) (by simp [go_sem])).mono ?_); rintro e w1 ⟨rfl, rfl⟩))
      | (go_at_call 7; ((with_reducible refine (haw _).mono ?_); rintro e w1 ⟨rfl, hb⟩; have HB := Lib.hid ((show Below w.heap.size w _ by (repeat (first | (with_reducible exact Below.refl _ _) | (with_reducible refine Below.drew ?_) | (with_reducible refine Below.alloc ?_ ?_ _) | (with_reducible refine Below.setCell ?_ ?_ _) | omega | (simp <;> omega)))).trans (hb.mono (by simp <;> omega))))))
    go_ret
    exact ⟨rfl, HB.out⟩
  | true =>
    rw [hS] at cS
    have hS2 := hS
    simp only [smallB, List.all_cons, List.all_nil, Bool.and_true, Bool.and_eq_true, decide_eq_true_eq] at hS2
    obtain ⟨⟨n1, n2⟩, ⟨k1, k2⟩, ⟨f1, f2⟩, ⟨t1, t2⟩⟩ := hS2
    have R : ∀ x : Int, 0 ≤ x → x ≤ 10000 → InR x := fun x h1 h2 => ⟨by omega, by omega⟩
    have Rn := R n n1 n2
    have Rk := R k k1 k2
    have Rf := R f f1 f2
    have Rt := R t t1 t2
    obtain ⟨want, hw⟩ : ∃ z, (if k = f + 1 then f else k) = z := ⟨_, rfl⟩
    have e1 : movP n k n f n f = (n, want) := by
      rw [← hw]; unfold movP; rw [rem_same]; dsimp only; rw [ins_same]
      simp only [Prod.mk.injEq, true_and]
      repeat' split
      all_goals omega
    obtain ⟨m, hm⟩ : ∃ m, (if t < (if f < k then k - 1 else k) then (if f < k then k - 1 else k) + 1 else (if f < k then k - 1 else k)) = m := ⟨_, rfl⟩
    have e2 : movP n k n f n t = (n, m) := by
      rw [← hm]; unfold movP; rw [rem_same]; dsimp only; rw [ins_same]
    have hm2 : 0 ≤ m ∧ m ≤ 10001 := by
      rw [← hm]
      repeat' split
      all_goals omega
    have e3 : movP n m n t n f = (n, want) := by
      rw [← hw, ← hm]; unfold movP; rw [rem_same]; dsimp only; rw [ins_same]
      simp only [Prod.mk.injEq, true_and]
      clear hm hw e1 e2 hm2
      repeat' split
      all_goals omega
    have Rm : InR m := ⟨by omega, by omega⟩
    have c1 := fun w => moved_any w n k n f n f Rn Rk Rn Rf Rn Rf
    have c2 := fun w => moved_any w n k n f n t Rn Rk Rn Rf Rn Rt
    have c3 := fun w => moved_any w n m n t n f Rn Rm Rn Rt Rn Rf
    rw [e1] at c1
    rw [e2] at c2
    rw [e3] at c3
    clear e1 e2 e3 R Rn Rk Rf Rt Rm hS hm hm2
    go_enter Try.func5, Try.ntmps5
    go_upto_region 4 with (first
      | (go_at_call 6; ((with_reducible refine (cS _ _ (by simp [go_sem]) (by simp [go_sem]) (by simp [go_sem]) (by simp [go_sem])).mono ?_); rintro e w1 ⟨rfl, rfl⟩))
      | (go_at_call 14; ((with_reducible refine (cT _ _ _).mono ?_); rintro e w1 ⟨rfl, hb⟩; (first | (replace HB := Lib.hid (HB.out.trans (hb.mono HB.out.size))) | (have HB := Lib.hid ((show Below w.heap.size w _ by (repeat (first | (with_reducible exact Below.refl _ _) | (with_reducible refine Below.drew ?_) | (with_reducible refine Below.alloc ?_ ?_ _) | (with_reducible refine Below.setCell ?_ ?_ _) | omega | (simp <;> omega)))).trans (hb.mono (by simp))))); clear hb)))
    obtain ⟨W, hW⟩ : ∃ W, ((w1.alloc (.cells #[.int .i64 n, .int .i64 k] 23)).alloc (.cells #[.int .i64 n, .int .i64 k] 23)) = W := ⟨_, rfl⟩
    rw [hW]
    obtain ⟨p, hp⟩ : ∃ p, w1.heap.size = p := ⟨_, rfl⟩
    have hpw : w.heap.size ≤ p := by rw [← hp]; exact HB.out.size
    have HB1 : Hid (Below w.heap.size w W) := Lib.hid (by rw [← hW]; exact (HB.out.alloc HB.out.size _).alloc (by simp; have := HB.out.size; omega) _)
    have a0 : W.cell? ⟨p, 0, none⟩ = some (.int .i64 n) := by rw [← hW, ← hp]; simp [go_sem]
    have a1 : W.cell? ⟨p, 1, none⟩ = some (.int .i64 k) := by rw [← hW, ← hp]; simp [go_sem]
    have b0 : W.cell? ⟨p + 1, 0, none⟩ = some (.int .i64 n) := by rw [← hW, ← hp]; simp [go_sem]
    have b1 : W.cell? ⟨p + 1, 1, none⟩ = some (.int .i64 k) := by rw [← hW, ← hp]; simp [go_sem]
    have z0 : W.frozen? ⟨p + 1, 0, none⟩ = false := by rw [← hW, ← hp]; simp [go_sem]
    have z1 : W.frozen? ⟨p + 1, 1, none⟩ = false := by rw [← hW, ← hp]; simp [go_sem]
    rw [hp]
    clear hW HB cS hp w1
    have hpl := lt_of_cell' b0
    by_cases hkf : k = f + 1
    · have hd : (k == f + 1) = true := by simp [hkf]
      rw [if_pos hkf] at hw
      subst hw
      clear hkf
      go_upto_region 6 with (first
        | (go_at_call 14; ((with_reducible refine (cT _ _ _).mono ?_); rintro e w3 ⟨rfl, hb⟩; replace a0 := (hb.cell (p := ⟨p, 0, none⟩) (lt_of_cell' a0)).trans a0; replace a1 := (hb.cell (p := ⟨p, 1, none⟩) (lt_of_cell' a1)).trans a1; replace z0 := (hb.frozen (p := ⟨p + 1, 0, none⟩) (lt_of_cell' b0)).trans z0; replace z1 := (hb.frozen (p := ⟨p + 1, 1, none⟩) (lt_of_cell' b1)).trans z1; replace b0 := (hb.cell (p := ⟨p + 1, 0, none⟩) (lt_of_cell' b0)).trans b0; replace b1 := (hb.cell (p := ⟨p + 1, 1, none⟩) (lt_of_cell' b1)).trans b1; replace HB1 := Lib.hid (HB1.out.trans (hb.mono HB1.out.size)); replace hpl := lt_of_cell' b0; clear hb)))
      replace HB1 : Hid (Below w.heap.size w ((w3.setCell ⟨p + 1, 0, none⟩ (.int .i64 n)).setCell ⟨p + 1, 1, none⟩ (.int .i64 f))) := Lib.hid ((HB1.out.setCell (by simp; omega) _).setCell (by simp; omega) _)
      have x0 : ((w3.setCell ⟨p + 1, 0, none⟩ (.int .i64 n)).setCell ⟨p + 1, 1, none⟩ (.int .i64 f)).cell? ⟨p, 0, none⟩ = some (.int .i64 n) := by simp [go_sem, *]
      have x1 : ((w3.setCell ⟨p + 1, 0, none⟩ (.int .i64 n)).setCell ⟨p + 1, 1, none⟩ (.int .i64 f)).cell? ⟨p, 1, none⟩ = some (.int .i64 k) := by simp [go_sem, *]
      have y0 : ((w3.setCell ⟨p + 1, 0, none⟩ (.int .i64 n)).setCell ⟨p + 1, 1, none⟩ (.int .i64 f)).cell? ⟨p + 1, 0, none⟩ = some (.int .i64 n) := by simp [go_sem, *]
      have y1 : ((w3.setCell ⟨p + 1, 0, none⟩ (.int .i64 n)).setCell ⟨p + 1, 1, none⟩ (.int .i64 f)).cell? ⟨p + 1, 1, none⟩ = some (.int .i64 f) := by simp [go_sem, *]
      have v0 : ((w3.setCell ⟨p + 1, 0, none⟩ (.int .i64 n)).setCell ⟨p + 1, 1, none⟩ (.int .i64 f)).frozen? ⟨p + 1, 0, none⟩ = false := by simp [go_sem, *]
      have v1 : ((w3.setCell ⟨p + 1, 0, none⟩ (.int .i64 n)).setCell ⟨p + 1, 1, none⟩ (.int .i64 f)).frozen? ⟨p + 1, 1, none⟩ = false := by simp [go_sem, *]
      clear a0 a1 b0 b1 z0 z1
      obtain ⟨W2, hW2⟩ : ∃ W2, ((w3.setCell ⟨p + 1, 0, none⟩ (.int .i64 n)).setCell ⟨p + 1, 1, none⟩ (.int .i64 f)) = W2 := ⟨_, rfl⟩
      rw [hW2] at x0 x1 y0 y1 v0 v1 HB1
      rw [hW2]
      have a0 := x0
      have a1 := x1
      have b0 := y0
      have b1 := y1
      have z0 := v0
      have z1 := v1
      replace hpl := lt_of_cell' b0
      clear hW2 x0 x1 y0 y1 v0 v1 w3

      go_upto_region 7 with (first
        | (go_at_call 16; (first | (with_reducible refine (c2 _).mono ?_) | (with_reducible refine (c3 _).mono ?_)); rintro e w4 ⟨rfl, hb⟩; replace a0 := (hb.cell (p := ⟨p, 0, none⟩) (lt_of_cell' a0)).trans a0; replace a1 := (hb.cell (p := ⟨p, 1, none⟩) (lt_of_cell' a1)).trans a1; replace z0 := (hb.frozen (p := ⟨p + 1, 0, none⟩) (lt_of_cell' b0)).trans z0; replace z1 := (hb.frozen (p := ⟨p + 1, 1, none⟩) (lt_of_cell' b1)).trans z1; replace b0 := (hb.cell (p := ⟨p + 1, 0, none⟩) (lt_of_cell' b0)).trans b0; replace b1 := (hb.cell (p := ⟨p + 1, 1, none⟩) (lt_of_cell' b1)).trans b1; replace HB1 := Lib.hid (HB1.out.trans (hb.mono HB1.out.size)); replace hpl := lt_of_cell' b0; clear hb))
      have hpl2 : p < w4.heap.size := by omega
      have d0 : (w4.alloc (.cells #[.int .i64 n, .int .i64 f] 23)).cell? ⟨w4.heap.size, 0, none⟩ = some (.int .i64 n) := by simp [go_sem]
      have d1 : (w4.alloc (.cells #[.int .i64 n, .int .i64 f] 23)).cell? ⟨w4.heap.size, 1, none⟩ = some (.int .i64 f) := by simp [go_sem]
      have hb : Below w4.heap.size w4 (w4.alloc (.cells #[.int .i64 n, .int .i64 f] 23)) := (Below.refl _ _).alloc (Nat.le_refl _) _
      replace a0 := (hb.cell (p := ⟨p, 0, none⟩) (lt_of_cell' a0)).trans a0; replace a1 := (hb.cell (p := ⟨p, 1, none⟩) (lt_of_cell' a1)).trans a1; replace z0 := (hb.frozen (p := ⟨p + 1, 0, none⟩) (lt_of_cell' b0)).trans z0; replace z1 := (hb.frozen (p := ⟨p + 1, 1, none⟩) (lt_of_cell' b1)).trans z1; replace b0 := (hb.cell (p := ⟨p + 1, 0, none⟩) (lt_of_cell' b0)).trans b0; replace b1 := (hb.cell (p := ⟨p + 1, 1, none⟩) (lt_of_cell' b1)).trans b1; replace HB1 := Lib.hid (HB1.out.trans (hb.mono HB1.out.size)); replace hpl := lt_of_cell' b0; clear hb
      obtain ⟨W5, hW5⟩ : ∃ W5, (w4.alloc (.cells #[.int .i64 n, .int .i64 f] 23)) = W5 := ⟨_, rfl⟩
      obtain ⟨r, hr⟩ : ∃ r, w4.heap.size = r := ⟨_, rfl⟩
      rw [hW5] at a0 a1 b0 b1 d0 d1 HB1
      rw [hr] at d0 d1
      rw [hW5, hr]
      clear hW5 hr z0 z1 hpl hpl2 c2 c3 cT
      have hS : (W5.cell? ⟨p, 0, none⟩ = some (.int .i64 n) ∧ W5.cell? ⟨p, 1, none⟩ = some (.int .i64 k) ∧ W5.cell? ⟨p + 1, 0, none⟩ = some (.int .i64 n) ∧ W5.cell? ⟨p + 1, 1, none⟩ = some (.int .i64 f) ∧ W5.cell? ⟨r, 0, none⟩ = some (.int .i64 n) ∧ W5.cell? ⟨r, 1, none⟩ = some (.int .i64 f)) := ⟨a0, a1, b0, b1, d0, d1⟩
      have KS : Hid (∀ W', Below W5.heap.size W5 W' → (W'.cell? ⟨p, 0, none⟩ = some (.int .i64 n) ∧ W'.cell? ⟨p, 1, none⟩ = some (.int .i64 k) ∧ W'.cell? ⟨p + 1, 0, none⟩ = some (.int .i64 n) ∧ W'.cell? ⟨p + 1, 1, none⟩ = some (.int .i64 f) ∧ W'.cell? ⟨r, 0, none⟩ = some (.int .i64 n) ∧ W'.cell? ⟨r, 1, none⟩ = some (.int .i64 f))) := Lib.hid (fun W' h => ⟨(h.cell (lt_of_cell' a0)).trans a0, (h.cell (lt_of_cell' a1)).trans a1, (h.cell (lt_of_cell' b0)).trans b0, (h.cell (lt_of_cell' b1)).trans b1, (h.cell (lt_of_cell' d0)).trans d0, (h.cell (lt_of_cell' d1)).trans d1⟩)
      have hb : Hid (Below W5.heap.size W5 W5) := Lib.hid (Below.refl _ _)
      clear a0 a1 b0 b1 d0 d1
      go_region_held3 (fun W' => (W'.cell? ⟨p, 0, none⟩ = some (.int .i64 n) ∧ W'.cell? ⟨p, 1, none⟩ = some (.int .i64 k) ∧ W'.cell? ⟨p + 1, 0, none⟩ = some (.int .i64 n) ∧ W'.cell? ⟨p + 1, 1, none⟩ = some (.int .i64 f) ∧ W'.cell? ⟨r, 0, none⟩ = some (.int .i64 n) ∧ W'.cell? ⟨r, 1, none⟩ = some (.int .i64 f))) (first | (with_reducible exact hS) | exact KS.out _ (by (repeat (first | (with_reducible exact hb.out) | (with_reducible exact Below.refl _ _) | (with_reducible refine Below.drew ?_) | (with_reducible refine Below.alloc ?_ ?_ _) | omega | (simp <;> omega))))) (first
        | (go_at_call 16; ((with_reducible refine (c1 _).mono ?_); rintro e w6 ⟨rfl, hb2⟩; have hd2 := Lib.hid ((show Below W5.heap.size W5 _ by (repeat (first | (with_reducible exact hb.out) | (with_reducible exact Below.refl _ _) | (with_reducible refine Below.drew ?_) | omega | (simp <;> omega)))).trans (hb2.mono (by (first | omega | (simp; done) | exact hb.out.size | (simp; exact hb.out.size) | (simp; omega))))); clear hb hb2; have hb := hd2; clear hd2; replace hS := KS.out _ hb.out))
        | (go_at_call 7; ((with_reducible refine (haw _).mono ?_); rintro e w6 ⟨rfl, hb2⟩; have hd2 := Lib.hid ((show Below W5.heap.size W5 _ by (repeat (first | (with_reducible exact hb.out) | (with_reducible exact Below.refl _ _) | (with_reducible refine Below.drew ?_) | omega | (simp <;> omega)))).trans (hb2.mono (by (first | omega | (simp; done) | exact hb.out.size | (simp; exact hb.out.size) | (simp; omega))))); clear hb hb2; have hb := hd2; clear hd2; replace hS := KS.out _ hb.out)))
      all_goals go_wp2_with fail
      all_goals go_ret
      all_goals exact ⟨rfl, HB1.out.trans ((show Below W5.heap.size W5 _ by (repeat (first | (with_reducible exact hb.out) | (with_reducible refine Below.drew ?_)))).mono HB1.out.size)⟩

    · have hd : (k == f + 1) = false := by simp [hkf]
      rw [if_neg hkf] at hw
      subst hw
      clear hkf
      go_upto_region 6 with (fail)

      go_upto_region 7 with (first
        | (go_at_call 16; (first | (with_reducible refine (c2 _).mono ?_) | (with_reducible refine (c3 _).mono ?_)); rintro e w4 ⟨rfl, hb⟩; replace a0 := (hb.cell (p := ⟨p, 0, none⟩) (lt_of_cell' a0)).trans a0; replace a1 := (hb.cell (p := ⟨p, 1, none⟩) (lt_of_cell' a1)).trans a1; replace z0 := (hb.frozen (p := ⟨p + 1, 0, none⟩) (lt_of_cell' b0)).trans z0; replace z1 := (hb.frozen (p := ⟨p + 1, 1, none⟩) (lt_of_cell' b1)).trans z1; replace b0 := (hb.cell (p := ⟨p + 1, 0, none⟩) (lt_of_cell' b0)).trans b0; replace b1 := (hb.cell (p := ⟨p + 1, 1, none⟩) (lt_of_cell' b1)).trans b1; replace HB1 := Lib.hid (HB1.out.trans (hb.mono HB1.out.size)); replace hpl := lt_of_cell' b0; clear hb))
      have hpl2 : p < w4.heap.size := by omega
      have d0 : (w4.alloc (.cells #[.int .i64 n, .int .i64 k] 23)).cell? ⟨w4.heap.size, 0, none⟩ = some (.int .i64 n) := by simp [go_sem]
      have d1 : (w4.alloc (.cells #[.int .i64 n, .int .i64 k] 23)).cell? ⟨w4.heap.size, 1, none⟩ = some (.int .i64 k) := by simp [go_sem]
      have hb : Below w4.heap.size w4 (w4.alloc (.cells #[.int .i64 n, .int .i64 k] 23)) := (Below.refl _ _).alloc (Nat.le_refl _) _
      replace a0 := (hb.cell (p := ⟨p, 0, none⟩) (lt_of_cell' a0)).trans a0; replace a1 := (hb.cell (p := ⟨p, 1, none⟩) (lt_of_cell' a1)).trans a1; replace z0 := (hb.frozen (p := ⟨p + 1, 0, none⟩) (lt_of_cell' b0)).trans z0; replace z1 := (hb.frozen (p := ⟨p + 1, 1, none⟩) (lt_of_cell' b1)).trans z1; replace b0 := (hb.cell (p := ⟨p + 1, 0, none⟩) (lt_of_cell' b0)).trans b0; replace b1 := (hb.cell (p := ⟨p + 1, 1, none⟩) (lt_of_cell' b1)).trans b1; replace HB1 := Lib.hid (HB1.out.trans (hb.mono HB1.out.size)); replace hpl := lt_of_cell' b0; clear hb
      obtain ⟨W5, hW5⟩ : ∃ W5, (w4.alloc (.cells #[.int .i64 n, .int .i64 k] 23)) = W5 := ⟨_, rfl⟩
      obtain ⟨r, hr⟩ : ∃ r, w4.heap.size = r := ⟨_, rfl⟩
      rw [hW5] at a0 a1 b0 b1 d0 d1 HB1
      rw [hr] at d0 d1
      rw [hW5, hr]
      clear hW5 hr z0 z1 hpl hpl2 c2 c3 cT
      have hS : (W5.cell? ⟨p, 0, none⟩ = some (.int .i64 n) ∧ W5.cell? ⟨p, 1, none⟩ = some (.int .i64 k) ∧ W5.cell? ⟨p + 1, 0, none⟩ = some (.int .i64 n) ∧ W5.cell? ⟨p + 1, 1, none⟩ = some (.int .i64 k) ∧ W5.cell? ⟨r, 0, none⟩ = some (.int .i64 n) ∧ W5.cell? ⟨r, 1, none⟩ = some (.int .i64 k)) := ⟨a0, a1, b0, b1, d0, d1⟩
      have KS : Hid (∀ W', Below W5.heap.size W5 W' → (W'.cell? ⟨p, 0, none⟩ = some (.int .i64 n) ∧ W'.cell? ⟨p, 1, none⟩ = some (.int .i64 k) ∧ W'.cell? ⟨p + 1, 0, none⟩ = some (.int .i64 n) ∧ W'.cell? ⟨p + 1, 1, none⟩ = some (.int .i64 k) ∧ W'.cell? ⟨r, 0, none⟩ = some (.int .i64 n) ∧ W'.cell? ⟨r, 1, none⟩ = some (.int .i64 k))) := Lib.hid (fun W' h => ⟨(h.cell (lt_of_cell' a0)).trans a0, (h.cell (lt_of_cell' a1)).trans a1, (h.cell (lt_of_cell' b0)).trans b0, (h.cell (lt_of_cell' b1)).trans b1, (h.cell (lt_of_cell' d0)).trans d0, (h.cell (lt_of_cell' d1)).trans d1⟩)
      have hb : Hid (Below W5.heap.size W5 W5) := Lib.hid (Below.refl _ _)
      clear a0 a1 b0 b1 d0 d1
      go_region_held3 (fun W' => (W'.cell? ⟨p, 0, none⟩ = some (.int .i64 n) ∧ W'.cell? ⟨p, 1, none⟩ = some (.int .i64 k) ∧ W'.cell? ⟨p + 1, 0, none⟩ = some (.int .i64 n) ∧ W'.cell? ⟨p + 1, 1, none⟩ = some (.int .i64 k) ∧ W'.cell? ⟨r, 0, none⟩ = some (.int .i64 n) ∧ W'.cell? ⟨r, 1, none⟩ = some (.int .i64 k))) (first | (with_reducible exact hS) | exact KS.out _ (by (repeat (first | (with_reducible exact hb.out) | (with_reducible exact Below.refl _ _) | (with_reducible refine Below.drew ?_) | (with_reducible refine Below.alloc ?_ ?_ _) | omega | (simp <;> omega))))) (first
        | (go_at_call 16; ((with_reducible refine (c1 _).mono ?_); rintro e w6 ⟨rfl, hb2⟩; have hd2 := Lib.hid ((show Below W5.heap.size W5 _ by (repeat (first | (with_reducible exact hb.out) | (with_reducible exact Below.refl _ _) | (with_reducible refine Below.drew ?_) | omega | (simp <;> omega)))).trans (hb2.mono (by (first | omega | (simp; done) | exact hb.out.size | (simp; exact hb.out.size) | (simp; omega))))); clear hb hb2; have hb := hd2; clear hd2; replace hS := KS.out _ hb.out))
        | (go_at_call 7; ((with_reducible refine (haw _).mono ?_); rintro e w6 ⟨rfl, hb2⟩; have hd2 := Lib.hid ((show Below W5.heap.size W5 _ by (repeat (first | (with_reducible exact hb.out) | (with_reducible exact Below.refl _ _) | (with_reducible refine Below.drew ?_) | omega | (simp <;> omega)))).trans (hb2.mono (by (first | omega | (simp; done) | exact hb.out.size | (simp; exact hb.out.size) | (simp; omega))))); clear hb hb2; have hb := hd2; clear hd2; replace hS := KS.out _ hb.out)))
      all_goals go_wp2_with fail
      all_goals go_ret
      all_goals exact ⟨rfl, HB1.out.trans ((show Below W5.heap.size W5 _ by (repeat (first | (with_reducible exact hb.out) | (with_reducible refine Below.drew ?_)))).mono HB1.out.size)⟩


end Go.Proofs.Ytfjngijmncbnbaa
