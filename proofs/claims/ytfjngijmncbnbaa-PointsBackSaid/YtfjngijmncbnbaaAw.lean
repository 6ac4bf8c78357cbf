/-
  Moved; at; places compared; the chapter's examples.
-/
import Derived.Test.YtfjngijmncbnbaaPts
namespace Go.Proofs.Ytfjngijmncbnbaa
open Go.RowKit Go.Lib

theorem at_any (x y : Int) (w : World) :
    Calls Try.prog 14 #[.int .i64 x, .int .i64 y] w fun e w' => e = .returned (.agg #[.int .i64 x, .int .i64 y]) ∧ Below w.heap.size w w' := by
  go_enter Try.func14, Try.ntmps14
  go_wp2
  refine bodyPost_ret (v := .agg #[.int .i64 _, .int .i64 _]) (by simp [results, Try.results14, go_sem, *]; done) rfl ⟨rfl, ?_⟩
  (repeat (first | (with_reducible exact Below.refl _ _) | (with_reducible refine Below.drew ?_) | (with_reducible refine Below.alloc ?_ ?_ _) | (with_reducible refine Below.setCell ?_ ?_ _) | omega | (simp <;> omega)))

theorem eqPlace (a b c d : Int) (W : World) : (binOp .eql 23 (.agg #[.int .i64 a, .int .i64 b]) (.agg #[.int .i64 c, .int .i64 d])).run Try.prog W = .ok (.bool (decide (a = c) && decide (b = d))) W := by
  have hS : Try.prog.underlying 23 = some (.struct (Try.prog.fieldsOf 23)) := by kernel_rfl
  have hp : Try.prog.stoodInHeld 23 = false := by kernel_rfl
  rw [run_eql_struct, show (10000 : Nat) = 9999 + 1 from rfl, run_equalIn_agg W 9999 23 _ _ hS hp]
  simp only [Program.fieldsOf, Try.underlying23]
  go_simp
  by_cases k1 : a = c <;> by_cases k2 : b = d <;> simp_all
theorem nePlace (a b c d : Int) (W : World) : (binOp .neq 23 (.agg #[.int .i64 a, .int .i64 b]) (.agg #[.int .i64 c, .int .i64 d])).run Try.prog W = .ok (.bool (!(decide (a = c) && decide (b = d)))) W := by
  have hS : Try.prog.underlying 23 = some (.struct (Try.prog.fieldsOf 23)) := by kernel_rfl
  have hp : Try.prog.stoodInHeld 23 = false := by kernel_rfl
  rw [run_neq_struct, show (10000 : Nat) = 9999 + 1 from rfl, run_equalIn_agg W 9999 23 _ _ hS hp]
  simp only [Program.fieldsOf, Try.underlying23]
  go_simp
  by_cases k1 : a = c <;> by_cases k2 : b = d <;> simp_all

def movP (x y f a t i : Int) : Int × Int := insP (remP x y f a false).1 (remP x y f a false).2 t i 1
theorem remP_in (x y f a : Int) (hx : InR x) (hy : InR y) (hf : InR f) (ha : InR a) : InR (remP x y f a false).1 ∧ InR (remP x y f a false).2 := by
  unfold remP InR at *
  rw [if_neg (by simp)]
  split
  · rename_i h
    simp only [Bool.and_eq_true, decide_eq_true_eq] at h
    exact ⟨hx, by dsimp only; omega, by dsimp only; omega⟩
  · exact ⟨hx, hy⟩

set_option maxRecDepth 20000 in
theorem moved_any (w : World) (x y f a t i : Int) (hx : InR x) (hy : InR y) (hf : InR f) (ha : InR a) (ht : InR t) (hi : InR i) :
    Calls Try.prog 16 #[.agg #[.int .i64 x, .int .i64 y], .int .i64 f, .int .i64 a, .int .i64 t, .int .i64 i] w fun e w' => e = .returned (.agg #[.int .i64 (movP x y f a t i).1, .int .i64 (movP x y f a t i).2]) ∧ Below w.heap.size w w' := by
  have hr : ∀ z ∈ [f, a, t, i], InR z := by
    intro z hz
    simp only [List.mem_cons, List.not_mem_nil, or_false] at hz
    rcases hz with rfl | rfl | rfl | rfl
    · exact hf
    · exact ha
    · exact ht
    · exact hi
  have cB : ∀ w' b, w'.cell? ⟨b, 0, none⟩ = some (.int .i64 f) → w'.cell? ⟨b, 1, none⟩ = some (.int .i64 a) → w'.cell? ⟨b, 2, none⟩ = some (.int .i64 t) → w'.cell? ⟨b, 3, none⟩ = some (.int .i64 i) → Calls Try.prog 21 #[.slice (some ⟨b, 0, none⟩) 4 4] w' fun e w2 => e = .returned (.bool false) ∧ w2 = w' := fun w' b h0 h1 h2 h3 => beyond_any w' b [f, a, t, i] (fun j hj => by
    match j, hj with
    | 0, _ => exact h0
    | 1, _ => exact h1
    | 2, _ => exact h2
    | 3, _ => exact h3) (Nat.le_of_ble_eq_true rfl) hr
  obtain ⟨g1, g2⟩ := remP_in x y f a hx hy hf ha
  have cR := fun w => rem_any w x y f a false hx hy hf ha
  have cI := fun w => ins_any w _ _ t i 1 g1 g2 ht hi (⟨by decide, by decide⟩ : InR 1)
  unfold movP
  obtain ⟨r1, hr1⟩ : ∃ r, (remP x y f a false).1 = r := ⟨_, rfl⟩
  obtain ⟨r2, hr2⟩ : ∃ r, (remP x y f a false).2 = r := ⟨_, rfl⟩
  rw [hr1, hr2] at cR cI
  rw [hr1, hr2]
  obtain ⟨m1, hm1⟩ : ∃ r, (insP r1 r2 t i 1).1 = r := ⟨_, rfl⟩
  obtain ⟨m2, hm2⟩ : ∃ r, (insP r1 r2 t i 1).2 = r := ⟨_, rfl⟩
  rw [hm1, hm2] at cI
  rw [hm1, hm2]
  clear hr hx hy hf ha ht hi g1 g2 hr1 hr2 hm1 hm2
  go_enter Try.func16, Try.ntmps16
  go_wp2_with (first
    | (go_at_call 21; ((with_reducible refine (cB _ _ (by simp [go_sem]) (by simp [go_sem]) (by simp [go_sem]) (by simp [go_sem])).mono ?_); rintro e w1 ⟨rfl, rfl⟩))
    | (go_at_call 8; ((with_reducible refine (cR _).mono ?_); rintro e w2 ⟨rfl, hb⟩; have s0 := (hb.cell (p := ⟨w.heap.size + 1, 0, none⟩) (by simp)); have s1 := (hb.cell (p := ⟨w.heap.size + 1, 1, none⟩) (by simp)); have t0 := (hb.frozen (p := ⟨w.heap.size + 1, 0, none⟩) (by simp)); have t1 := (hb.frozen (p := ⟨w.heap.size + 1, 1, none⟩) (by simp)); simp [go_sem] at s0 s1 t0 t1; have HB := Lib.hid ((show Below w.heap.size w _ by (repeat (first | (with_reducible exact Below.refl _ _) | (with_reducible refine Below.drew ?_) | (with_reducible refine Below.alloc ?_ ?_ _) | (with_reducible refine Below.setCell ?_ ?_ _) | omega | (simp <;> omega)))).trans (hb.mono (by simp <;> omega))); clear hb; have hwb := lt_of_cell' s0))
    | (go_at_call 9; ((with_reducible refine (cI _).mono ?_); rintro e w3 ⟨rfl, hb⟩; replace s0 := (hb.cell (p := ⟨w.heap.size + 1, 0, none⟩) hwb).trans s0; replace s1 := (hb.cell (p := ⟨w.heap.size + 1, 1, none⟩) hwb).trans s1; replace t0 := (hb.frozen (p := ⟨w.heap.size + 1, 0, none⟩) hwb).trans t0; replace t1 := (hb.frozen (p := ⟨w.heap.size + 1, 1, none⟩) hwb).trans t1; replace HB := Lib.hid (HB.out.trans (hb.mono HB.out.size)); clear hb; replace hwb := lt_of_cell' s0)))
  refine bodyPost_ret (v := .agg #[.int .i64 _, .int .i64 _]) (by simp [results, Try.results16, go_sem, *]; done) rfl ⟨rfl, ?_⟩
  exact (HB.out.setCell (by simp) _).setCell (by simp) _

theorem inR_small {x : Int} (h : 0 ≤ x) (h2 : x ≤ 100000) : InR x := ⟨by omega, by omega⟩
set_option maxRecDepth 20000 in
set_option maxHeartbeats 4000000 in
theorem awake_any (w : World) :
    Calls Try.prog 7 #[] w fun e w' => e = .returned (.bool true) ∧ Below w.heap.size w w' := by
  have R : ∀ x : Int, 0 ≤ x → x ≤ 100000 → InR x := fun x => inR_small
  have cT := at_any
  have c1 := fun w => ins_any w 5 2 5 1 3 (R _ (by decide) (by decide)) (R _ (by decide) (by decide)) (R _ (by decide) (by decide)) (R _ (by decide) (by decide)) (R _ (by decide) (by decide))
  have c2 := fun w => rem_any w 7 9 5 2 true (R _ (by decide) (by decide)) (R _ (by decide) (by decide)) (R _ (by decide) (by decide)) (R _ (by decide) (by decide))
  have c3 := fun w => rep_any w 4 6 4 2 3 1 (R _ (by decide) (by decide)) (R _ (by decide) (by decide)) (R _ (by decide) (by decide)) (R _ (by decide) (by decide)) (R _ (by decide) (by decide)) (R _ (by decide) (by decide))
  have c4 := fun w => spt_any w 4 6 4 2 9 5 0 (R _ (by decide) (by decide)) (R _ (by decide) (by decide)) (R _ (by decide) (by decide)) (R _ (by decide) (by decide)) (R _ (by decide) (by decide)) (R _ (by decide) (by decide)) (R _ (by decide) (by decide))
  have c5 := fun w => wra_any w 5 4 5 1 3 9 (R _ (by decide) (by decide)) (R _ (by decide) (by decide)) (R _ (by decide) (by decide)) (R _ (by decide) (by decide)) (R _ (by decide) (by decide)) (R _ (by decide) (by decide))
  have e1 : insP 5 2 5 1 3 = (5, 5) := by decide
  have e2 : remP 7 9 5 2 true = (5, 2) := by decide
  have e3 : repP 4 6 4 2 3 1 = (4, 4) := by decide
  have e4 : sptP 4 6 4 2 9 5 0 = (9, 4) := by decide
  have e5 : wraP 5 4 5 1 3 9 = (5, 2) := by decide
  rw [e1] at c1
  rw [e2] at c2
  rw [e3] at c3
  rw [e4] at c4
  rw [e5] at c5
  have hq := eqPlace
  have HB := Lib.hid (Below.refl w.heap.size w)
  clear R e1 e2 e3 e4 e5
  go_enter Try.func7, Try.ntmps7
  go_wp2_with (first
    | (go_at_call 14; ((with_reducible refine (cT _ _ _).mono ?_); rintro e w1 ⟨rfl, hb⟩; replace HB := Lib.hid (HB.out.trans (hb.mono HB.out.size)); clear hb))
    | (go_at_call 9; ((with_reducible refine (c1 _).mono ?_); rintro e w1 ⟨rfl, hb⟩; replace HB := Lib.hid (HB.out.trans (hb.mono HB.out.size)); clear hb))
    | (go_at_call 8; ((with_reducible refine (c2 _).mono ?_); rintro e w1 ⟨rfl, hb⟩; replace HB := Lib.hid (HB.out.trans (hb.mono HB.out.size)); clear hb))
    | (go_at_call 15; ((with_reducible refine (c3 _).mono ?_); rintro e w1 ⟨rfl, hb⟩; replace HB := Lib.hid (HB.out.trans (hb.mono HB.out.size)); clear hb))
    | (go_at_call 12; ((with_reducible refine (c4 _).mono ?_); rintro e w1 ⟨rfl, hb⟩; replace HB := Lib.hid (HB.out.trans (hb.mono HB.out.size)); clear hb))
    | (go_at_call 10; ((with_reducible refine (c5 _).mono ?_); rintro e w1 ⟨rfl, hb⟩; replace HB := Lib.hid (HB.out.trans (hb.mono HB.out.size)); clear hb)))
  go_ret
  exact ⟨rfl, HB.out⟩

end Go.Proofs.Ytfjngijmncbnbaa
