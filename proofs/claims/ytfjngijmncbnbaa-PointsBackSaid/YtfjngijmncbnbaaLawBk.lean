/-
  The law of there and back.
-/
import Derived.Test.YtfjngijmncbnbaaTwoP
import Derived.Test.YtfjngijmncbnbaaPlanP
namespace Go.Proofs.Ytfjngijmncbnbaa
open Go.RowKit Go.Lib

theorem small7 {a b c d e f g : Int} : ∀ w' k, w'.cell? ⟨k, 0, none⟩ = some (.int .i64 a) → w'.cell? ⟨k, 1, none⟩ = some (.int .i64 b) → w'.cell? ⟨k, 2, none⟩ = some (.int .i64 c) → w'.cell? ⟨k, 3, none⟩ = some (.int .i64 d) → w'.cell? ⟨k, 4, none⟩ = some (.int .i64 e) → w'.cell? ⟨k, 5, none⟩ = some (.int .i64 f) → w'.cell? ⟨k, 6, none⟩ = some (.int .i64 g) → Calls Try.prog 6 #[.slice (some ⟨k, 0, none⟩) 7 7] w' fun e1 w2 => e1 = .returned (.bool (smallB [a, b, c, d, e, f, g])) ∧ w2 = w' := fun w' k h0 h1 h2 h3 h4 h5 h6 => small_any w' k [a, b, c, d, e, f, g] (fun j hj => by
    match j, hj with
    | 0, _ => exact h0
    | 1, _ => exact h1
    | 2, _ => exact h2
    | 3, _ => exact h3
    | 4, _ => exact h4
    | 5, _ => exact h5
    | 6, _ => exact h6) (Nat.le_of_ble_eq_true rfl)

section
variable {x y d k n f i : Int}
theorem bk_ins (hy : 0 ≤ y) (hy2 : y ≤ 10000) : ∃ y2, insP x y d k 1 = (x, y2) ∧ 0 ≤ y2 ∧ y2 ≤ 10001 ∧ remP x y2 d k false = (x, y) := by
  unfold insP remP
  by_cases h1 : x = d
  · by_cases h2 : k < y
    · exact ⟨y + 1, by simp [h1, h2], by omega, by omega, by rw [if_neg (by simp), if_pos (by simp [h1]; omega)]; simp⟩
    · exact ⟨y, by simp [h1, h2], by omega, by omega, by rw [if_neg (by simp), if_neg (by simp [h1, h2])]⟩
  · exact ⟨y, by simp [h1], by omega, by omega, by rw [if_neg (by simp), if_neg (by simp [h1])]⟩
theorem bk_wra (hy : 0 ≤ y) (hy2 : y ≤ 10000) (hn : 0 ≤ n) (hn2 : n ≤ 10000) (hk : 0 ≤ k) (hx : 0 ≤ x) (hx2 : x ≤ 10000) (hf : 0 ≤ f) (hf2 : f ≤ 10000) (hfx : f ≠ x) : ∃ x2 y2, wraP x y d k n f = (x2, y2) ∧ InR x2 ∧ InR y2 ∧ (0 < n → unwP x2 y2 f n d k = (x, y) ∧ (x2 == f) = (decide (x = d) && decide (k < y) && decide (y < k + n))) := by
  unfold wraP unwP InR
  by_cases h1 : x = d
  · by_cases h2 : n ≤ y - k
    · refine ⟨x, y + (1 - n), by simp [h1, h2], by omega, by omega, fun h0 => ⟨?_, ?_⟩⟩
      · rw [if_neg (by simp [Ne.symm hfx]), if_pos (by simp [h1]; omega)]
        simp only [Prod.mk.injEq, true_and]; omega
      · have e : ¬ y < k + n := by omega
        simp [e, Ne.symm hfx]
    · by_cases h3 : k < y
      · refine ⟨f, y - k, by simp [h1, h2, h3], by omega, by omega, fun h0 => ⟨?_, ?_⟩⟩
        · rw [if_pos (by simp), h1]
          simp only [Prod.mk.injEq, true_and]; omega
        · have e : y < k + n := by omega
          simp [h1, h3, e]
      · refine ⟨x, y, by simp [h1, h2, h3], by omega, by omega, fun h0 => ⟨?_, ?_⟩⟩
        · rw [if_neg (by simp [Ne.symm hfx]), if_neg (by simp [h3])]
        · simp [h3, Ne.symm hfx]
  · refine ⟨x, y, by simp [h1], by omega, by omega, fun h0 => ⟨?_, ?_⟩⟩
    · rw [if_neg (by simp [Ne.symm hfx]), if_neg (by simp [h1])]
    · simp [h1, Ne.symm hfx]
theorem bk_spt (hy : 0 ≤ y) (hy2 : y ≤ 10000) (hk : 0 ≤ k) (hk2 : k ≤ 10000) (hx : 0 ≤ x) (hx2 : x ≤ 10000) (hf : 0 ≤ f) (hf2 : f ≤ 10000) (hfx : f ≠ x) : ∃ x2 y2, sptP x y d k f 20000 i = (x2, y2) ∧ InR x2 ∧ InR y2 ∧ jotP x2 y2 d f k 20000 (i + 1) = (x, y) ∧ (x2 == f) = (decide (x = d) && decide (k < y)) := by
  have hxp : ¬ x = 20000 := by omega
  unfold sptP jotP InR
  by_cases h1 : x = d
  · by_cases h2 : k < y
    · refine ⟨f, y - k, by simp [h1, h2], by omega, by omega, ?_, by simp [h1, h2]⟩
      rw [if_pos (by simp), h1]
      simp only [Prod.mk.injEq, true_and]; omega
    · refine ⟨x, y, by rw [if_neg (by simp [h2]), if_neg (by simp), if_neg (by simp [hxp])], by omega, by omega, ?_, by simp [h2, Ne.symm hfx]⟩
      rw [if_neg (by simp [Ne.symm hfx]), if_neg (by simp [hxp]), if_neg (by simp [hxp])]
  · refine ⟨x, y, by rw [if_neg (by simp [h1]), if_neg (by simp), if_neg (by simp [hxp])], by omega, by omega, ?_, by simp [h1, Ne.symm hfx]⟩
    rw [if_neg (by simp [Ne.symm hfx]), if_neg (by simp [hxp]), if_neg (by simp [hxp])]
theorem bk_up (hy : 0 ≤ y) (hy2 : y ≤ 10000) (hd : d ≤ 10000) (hf2 : f ≤ 10000) : ∃ y2, sptP 20000 y d k f 20000 i = (20000, y2) ∧ InR y2 ∧ jotP 20000 y2 d f k 20000 (i + 1) = (20000, y) ∧ decide (y2 = y) = decide (y ≤ i) ∧ y2 ≠ i + 1 := by
  have e1 : ¬ (20000 : Int) = d := by omega
  have e2 : ¬ (20000 : Int) = f := by omega
  unfold sptP jotP InR
  by_cases h : i < y
  · refine ⟨y + 1, by simp [e1, h], by omega, ?_, ?_, by omega⟩
    · rw [if_neg (by simp [e2]), if_pos (by simp; omega)]; simp
    · rw [decide_eq_false (by omega), decide_eq_false (by omega)]
  · refine ⟨y, by simp [e1, h], by omega, ?_, ?_, by omega⟩
    · rw [if_neg (by simp [e2]), if_neg (by simp; omega), if_pos (by simp), if_neg (by simp; omega)]
    · rw [decide_eq_true rfl, decide_eq_true (by omega)]
end

set_option maxRecDepth 20000 in
set_option maxHeartbeats 16000000 in
theorem lawBack_walk (x y d k n f i : Int) (w : World) :
    Calls Try.prog 3 #[.agg #[.int .i64 x, .int .i64 y], .int .i64 d, .int .i64 k, .int .i64 n, .int .i64 f, .int .i64 i] w fun e w' => e = .returned (.bool true) ∧ Below w.heap.size w w' := by
  have cS := small7 (a := x) (b := y) (c := d) (d := k) (e := n) (f := f) (g := i)
  have haw := awake_any
  have cT := at_any
  have hq := eqPlace
  have hn := nePlace
  cases hS : smallB [x, y, d, k, n, f, i] with
  | false =>
    rw [hS] at cS
    clear hS
    go_enter Try.func3, Try.ntmps3
    go_wp2_with (first
      | (go_at_call 6; ((with_reducible refine (cS _ _ (by simp [go_sem]) (by simp [go_sem]) (by simp [go_sem]) (by simp [go_sem]) (by simp [go_sem]) (by simp [go_sem]) (by simp [go_sem])).mono ?_); rintro e w1 ⟨rfl, rfl⟩))
      | (go_at_call 7; ((with_reducible refine (haw _).mono ?_); rintro e w1 ⟨rfl, hb⟩; have HB := Lib.hid ((show Below w.heap.size w _ by (repeat (first | (with_reducible exact Below.refl _ _) | (with_reducible refine Below.drew ?_) | (with_reducible refine Below.alloc ?_ ?_ _) | (with_reducible refine Below.setCell ?_ ?_ _) | omega | (simp <;> omega)))).trans (hb.mono (by simp <;> omega))))))
    go_ret
    exact ⟨rfl, HB.out⟩
  | true =>
    rw [hS] at cS
    have hS2 := hS
    simp only [smallB, List.all_cons, List.all_nil, Bool.and_true, Bool.and_eq_true, decide_eq_true_eq] at hS2
    obtain ⟨⟨x1, x2⟩, ⟨y1, y2⟩, ⟨d1, d2⟩, ⟨k1, k2⟩, ⟨n1, n2⟩, ⟨f1, f2⟩, ⟨i1, i2⟩⟩ := hS2
    clear hS
    by_cases hfd : f = d
    · have e1 : (f == d) = true := by simp [hfd]
      clear hfd
      go_enter Try.func3, Try.ntmps3
      go_wp2_with (first
        | (go_at_call 6; ((with_reducible refine (cS _ _ (by simp [go_sem]) (by simp [go_sem]) (by simp [go_sem]) (by simp [go_sem]) (by simp [go_sem]) (by simp [go_sem]) (by simp [go_sem])).mono ?_); rintro e w1 ⟨rfl, rfl⟩))
        | (go_at_call 7; ((with_reducible refine (haw _).mono ?_); rintro e w1 ⟨rfl, hb⟩; have HB := Lib.hid ((show Below w.heap.size w _ by (repeat (first | (with_reducible exact Below.refl _ _) | (with_reducible refine Below.drew ?_) | (with_reducible refine Below.alloc ?_ ?_ _) | (with_reducible refine Below.setCell ?_ ?_ _) | omega | (simp <;> omega)))).trans (hb.mono (by simp <;> omega))))))
      go_ret
      exact ⟨rfl, HB.out⟩
    by_cases hfx : f = x
    · have e1 : (f == x) = true := by simp [hfx]
      have e2 : (f == d) = false := by simp [hfd]
      clear hfd hfx
      go_enter Try.func3, Try.ntmps3
      go_wp2_with (first
        | (go_at_call 6; ((with_reducible refine (cS _ _ (by simp [go_sem]) (by simp [go_sem]) (by simp [go_sem]) (by simp [go_sem]) (by simp [go_sem]) (by simp [go_sem]) (by simp [go_sem])).mono ?_); rintro e w1 ⟨rfl, rfl⟩))
        | (go_at_call 7; ((with_reducible refine (haw _).mono ?_); rintro e w1 ⟨rfl, hb⟩; have HB := Lib.hid ((show Below w.heap.size w _ by (repeat (first | (with_reducible exact Below.refl _ _) | (with_reducible refine Below.drew ?_) | (with_reducible refine Below.alloc ?_ ?_ _) | (with_reducible refine Below.setCell ?_ ?_ _) | omega | (simp <;> omega)))).trans (hb.mono (by simp <;> omega))))))
      go_ret
      exact ⟨rfl, HB.out⟩
    have R : ∀ x : Int, 0 ≤ x → x ≤ 20000 → InR x := fun x h1 h2 => ⟨by omega, by omega⟩
    obtain ⟨qy, eq1, qy1, qy2, eq2⟩ := bk_ins (x := x) (d := d) (k := k) y1 y2
    obtain ⟨wx, wy, ew1, rwx, rwy, ew2⟩ := bk_wra (x := x) (d := d) (k := k) y1 y2 n1 n2 k1 x1 x2 f1 f2 hfx
    obtain ⟨sx, sy, es1, rsx, rsy, es2, es3⟩ := bk_spt (x := x) (d := d) (k := k) (i := i) y1 y2 k1 k2 x1 x2 f1 f2 hfx
    obtain ⟨uy, eu1, ruy, eu2, eu3, eu4⟩ := bk_up (y := y) (d := d) (k := k) (f := f) (i := i) y1 y2 d2 f2
    have r1 : InR (1 : Int) := R _ (by decide) (by decide)
    have rp : InR (20000 : Int) := R _ (by decide) (by decide)
    have ri1 : InR (i + 1) := R _ (by omega) (by omega)
    have c1 := fun w => ins_any w x y d k 1 (R x x1 (by omega)) (R y y1 (by omega)) (R d d1 (by omega)) (R k k1 (by omega)) r1
    have c2 := fun w => rem_any w x qy d k false (R x x1 (by omega)) (R qy qy1 (by omega)) (R d d1 (by omega)) (R k k1 (by omega))
    have c3 := fun w => wra_any w x y d k n f (R x x1 (by omega)) (R y y1 (by omega)) (R d d1 (by omega)) (R k k1 (by omega)) (R n n1 (by omega)) (R f f1 (by omega))
    have c4 := fun w => unw_any w wx wy f n d k rwx rwy (R f f1 (by omega)) (R n n1 (by omega)) (R d d1 (by omega)) (R k k1 (by omega))
    have c5 := fun w => spt_any w x y d k f 20000 i (R x x1 (by omega)) (R y y1 (by omega)) (R d d1 (by omega)) (R k k1 (by omega)) (R f f1 (by omega)) rp (R i i1 (by omega))
    have c6 := fun w => jot_any w sx sy d f k 20000 (i + 1) rsx rsy (R d d1 (by omega)) (R f f1 (by omega)) (R k k1 (by omega)) rp ri1
    have c7 := fun w => spt_any w 20000 y d k f 20000 i rp (R y y1 (by omega)) (R d d1 (by omega)) (R k k1 (by omega)) (R f f1 (by omega)) rp (R i i1 (by omega))
    have c8 := fun w => jot_any w 20000 uy d f k 20000 (i + 1) rp ruy (R d d1 (by omega)) (R f f1 (by omega)) (R k k1 (by omega)) rp ri1
    rw [eq1] at c1
    rw [eq2] at c2
    rw [ew1] at c3
    rw [es1] at c5
    rw [es2] at c6
    rw [eu1] at c7
    rw [eu2] at c8
    dsimp only at c1 c2 c3 c5 c6 c7 c8
    have e1 : (f == d) = false := by simp [hfd]
    have e2 : (f == x) = false := by simp [hfx]
    have HW := Lib.hid ew2
    have HS := Lib.hid es3
    have HU := Lib.hid (And.intro eu3 eu4)
    clear eq1 eq2 ew1 es1 es2 eu1 eu2 R r1 rp ri1 rwx rwy rsx rsy ruy ew2 es3 eu3 eu4 hfd hfx qy1 qy2
    go_enter Try.func3, Try.ntmps3
    go_upto_region 3 with (first
      | (go_at_call 6; ((with_reducible refine (cS _ _ (by simp [go_sem]) (by simp [go_sem]) (by simp [go_sem]) (by simp [go_sem]) (by simp [go_sem]) (by simp [go_sem]) (by simp [go_sem])).mono ?_); rintro e w1 ⟨rfl, rfl⟩)))
    obtain ⟨W, hW⟩ : ∃ W, ((w.alloc (.cells #[.int .i64 x, .int .i64 y] 23)).alloc (.cells #[.int .i64 x, .int .i64 y, .int .i64 d, .int .i64 k, .int .i64 n, .int .i64 f, .int .i64 i] 3)) = W := ⟨_, rfl⟩
    have HB : Hid (Below w.heap.size w W) := Lib.hid (by rw [← hW]; exact ((Below.refl _ _).alloc (Nat.le_refl _) _).alloc (by simp) _)
    have b0 : PlAt W w.heap.size x y := by rw [← hW]; exact ⟨by simp [go_sem], by simp [go_sem]⟩
    rw [hW]
    clear hW cS
    obtain ⟨p, hp⟩ : ∃ p, w.heap.size = p := ⟨_, rfl⟩
    have hpw : w.heap.size ≤ p := Nat.le_of_eq hp
    rw [hp] at b0
    rw [hp]
    obtain ⟨p0, p1⟩ := b0
    have hpl := lt_of_cell' p0
    go_upto_region 4 with (first
      | (go_at_call 9; ((with_reducible refine (c1 _).mono ?_); rintro e w3 ⟨rfl, hb⟩; replace p0 := (hb.cell (p := ⟨p, 0, none⟩) (lt_of_cell' p0)).trans p0; replace p1 := (hb.cell (p := ⟨p, 1, none⟩) (lt_of_cell' p1)).trans p1; replace HB := Lib.hid (HB.out.trans (hb.mono HB.out.size)); replace hpl := lt_of_cell' p0; clear hb))
      | (go_at_call 8; ((with_reducible refine (c2 _).mono ?_); rintro e w3 ⟨rfl, hb⟩; replace p0 := (hb.cell (p := ⟨p, 0, none⟩) (lt_of_cell' p0)).trans p0; replace p1 := (hb.cell (p := ⟨p, 1, none⟩) (lt_of_cell' p1)).trans p1; replace HB := Lib.hid (HB.out.trans (hb.mono HB.out.size)); replace hpl := lt_of_cell' p0; clear hb)))
    obtain ⟨W4, hWW⟩ : ∃ z, (w3.alloc (.cells #[.int .i64 x, .int .i64 y] 23)) = z := ⟨_, rfl⟩
    have hb : Below w3.heap.size w3 W4 := by rw [← hWW]; exact (Below.refl _ _).alloc (Nat.le_refl _) _
    obtain ⟨q, hbl⟩ : ∃ z, w3.heap.size = z := ⟨_, rfl⟩
    have q0 : W4.cell? ⟨q, 0, none⟩ = some (.int .i64 x) := by rw [← hWW, ← hbl]; simp [go_sem]
    have q1 : W4.cell? ⟨q, 1, none⟩ = some (.int .i64 y) := by rw [← hWW, ← hbl]; simp [go_sem]
    rw [hWW, hbl]
    replace p0 := (hb.cell (p := ⟨p, 0, none⟩) (lt_of_cell' p0)).trans p0
    replace p1 := (hb.cell (p := ⟨p, 1, none⟩) (lt_of_cell' p1)).trans p1
    replace HB := Lib.hid (HB.out.trans (hb.mono HB.out.size))
    replace hpl := lt_of_cell' p0
    clear hb
    clear hWW hbl w3
    go_upto_region 7 with (first
      | (go_at_call 10; ((with_reducible refine (c3 _).mono ?_); rintro e w5 ⟨rfl, hb⟩; replace p0 := (hb.cell (p := ⟨p, 0, none⟩) (lt_of_cell' p0)).trans p0; replace p1 := (hb.cell (p := ⟨p, 1, none⟩) (lt_of_cell' p1)).trans p1; replace HB := Lib.hid (HB.out.trans (hb.mono HB.out.size)); replace hpl := lt_of_cell' p0; clear hb)))
    obtain ⟨W7, hWW⟩ : ∃ z, (w5.alloc (.cells #[.int .i64 wx, .int .i64 wy] 23)) = z := ⟨_, rfl⟩
    have hb : Below w5.heap.size w5 W7 := by rw [← hWW]; exact (Below.refl _ _).alloc (Nat.le_refl _) _
    obtain ⟨r, hbl⟩ : ∃ z, w5.heap.size = z := ⟨_, rfl⟩
    have r0 : W7.cell? ⟨r, 0, none⟩ = some (.int .i64 wx) := by rw [← hWW, ← hbl]; simp [go_sem]
    have r1 : W7.cell? ⟨r, 1, none⟩ = some (.int .i64 wy) := by rw [← hWW, ← hbl]; simp [go_sem]
    rw [hWW, hbl]
    replace p0 := (hb.cell (p := ⟨p, 0, none⟩) (lt_of_cell' p0)).trans p0
    replace p1 := (hb.cell (p := ⟨p, 1, none⟩) (lt_of_cell' p1)).trans p1
    replace HB := Lib.hid (HB.out.trans (hb.mono HB.out.size))
    replace hpl := lt_of_cell' p0
    clear hb
    clear hWW hbl w5
    clear c1 c2 c3 q0 q1
    go_cut [93] (fun s wx' => s = .bool false ∧ Below w.heap.size w wx' ∧ wx'.cell? ⟨p, 0, none⟩ = some (.int .i64 x) ∧ wx'.cell? ⟨p, 1, none⟩ = some (.int .i64 y))
    case first => as_aux_lemma =>
      by_cases hn0 : 0 < n
      · obtain ⟨h4, h5⟩ := HW.out hn0
        rw [h4] at c4
        dsimp only at c4
        have d0 : decide (0 < n) = true := decide_eq_true hn0
        have a0 : IntKind.i64.wrap (k + n) = k + n := IntWalk.i64_in _ (by omega)
        clear HS HU HW c5 c6 c7 c8
        have hS : (W7.cell? ⟨p, 0, none⟩ = some (.int .i64 x) ∧ W7.cell? ⟨p, 1, none⟩ = some (.int .i64 y) ∧ W7.cell? ⟨r, 0, none⟩ = some (.int .i64 wx) ∧ W7.cell? ⟨r, 1, none⟩ = some (.int .i64 wy)) := ⟨p0, p1, r0, r1⟩
        have KS : Hid (∀ W', Below W7.heap.size W7 W' → (W'.cell? ⟨p, 0, none⟩ = some (.int .i64 x) ∧ W'.cell? ⟨p, 1, none⟩ = some (.int .i64 y) ∧ W'.cell? ⟨r, 0, none⟩ = some (.int .i64 wx) ∧ W'.cell? ⟨r, 1, none⟩ = some (.int .i64 wy))) := Lib.hid (fun W' h => ⟨(h.cell (lt_of_cell' p0)).trans p0, (h.cell (lt_of_cell' p1)).trans p1, (h.cell (lt_of_cell' r0)).trans r0, (h.cell (lt_of_cell' r1)).trans r1⟩)
        have hb : Hid (Below W7.heap.size W7 W7) := Lib.hid (Below.refl _ _)
        clear p0 p1 r0 r1
        by_cases hxd : x = d
        · have e3 : (x == d) = true := by simp [hxd]
          by_cases hky : k < y
          · have d1 : decide (k < y) = true := decide_eq_true hky
            obtain ⟨z, hz⟩ : ∃ z, decide (y < k + n) = z := ⟨_, rfl⟩
            have e4 : (wx == f) = z := by rw [h5, hz]; simp [hxd, hky]
            clear h5 hxd hky
            cases z with
            | false =>
              have HS1 : (W7.drew.cell? ⟨p, 0, none⟩ = some (.int .i64 x) ∧ W7.drew.cell? ⟨p, 1, none⟩ = some (.int .i64 y) ∧ W7.drew.cell? ⟨r, 0, none⟩ = some (.int .i64 wx) ∧ W7.drew.cell? ⟨r, 1, none⟩ = some (.int .i64 wy)) := KS.out _ (Below.refl _ _).drew
              refine wp_region_noPanic ?_
              refine region_plan [(0, true), (1, true), (2, true), (3, true), (4, true), (5, true), (6, true), (7, true), (9, true), (8, false), (10, true), (11, true), (12, true), (13, true), (14, true), (15, true), (16, true), (17, true), (18, true), (19, true), (20, true), (21, true), (22, true), (23, true), (24, true), (25, true), (26, true), (27, true), (28, true), (29, true), (30, true), (31, true), (32, true), (33, true), (34, true), (35, true), (36, true)] (fun W' => (W'.cell? ⟨p, 0, none⟩ = some (.int .i64 x) ∧ W'.cell? ⟨p, 1, none⟩ = some (.int .i64 y) ∧ W'.cell? ⟨r, 0, none⟩ = some (.int .i64 wx) ∧ W'.cell? ⟨r, 1, none⟩ = some (.int .i64 wy))) (by kernel_rfl) (by kernel_rfl) (by kernel_rfl) (by kernel_rfl) (fun _ _ _ _ _ h => h) ?_
              refine plan_take (.int .i64 n) rfl (by kernel_rfl) (fun W HW => ran_move rfl (by kernel_rfl)) HS1 ?_
              simp only [Act.put, List.setIfInBounds_toArray, List.set_cons_zero, List.set_cons_succ]
              refine plan_take (.bool true) rfl (by kernel_rfl) (fun W HW => ran_bin (vx := (.int .i64 n)) (vy := (.int .i64 0)) rfl (by kernel_rfl) (by kernel_rfl) (g_gtr _ _ _ _ W) (b_gtr d0 W)) HS1 ?_
              simp only [Act.put, List.setIfInBounds_toArray, List.set_cons_zero, List.set_cons_succ]
              refine plan_take (.bool true) rfl (by kernel_rfl) (fun W HW => ran_move rfl (by kernel_rfl)) HS1 ?_
              simp only [Act.put, List.setIfInBounds_toArray, List.set_cons_zero, List.set_cons_succ]
              refine plan_take (.agg #[.int .i64 wx, .int .i64 wy]) rfl (by kernel_rfl) (fun W HW => ran_load (vx := (.pointer (some ⟨r, 0, none⟩))) rfl (by kernel_rfl) (l_pl HW.2.2.1 HW.2.2.2)) HS1 ?_
              simp only [Act.put, List.setIfInBounds_toArray, List.set_cons_zero, List.set_cons_succ]
              refine plan_take (.int .i64 f) rfl (by kernel_rfl) (fun W HW => ran_move rfl (by kernel_rfl)) HS1 ?_
              simp only [Act.put, List.setIfInBounds_toArray, List.set_cons_zero, List.set_cons_succ]
              refine plan_take (.int .i64 n) rfl (by kernel_rfl) (fun W HW => ran_move rfl (by kernel_rfl)) HS1 ?_
              simp only [Act.put, List.setIfInBounds_toArray, List.set_cons_zero, List.set_cons_succ]
              refine plan_take (.int .i64 d) rfl (by kernel_rfl) (fun W HW => ran_move rfl (by kernel_rfl)) HS1 ?_
              simp only [Act.put, List.setIfInBounds_toArray, List.set_cons_zero, List.set_cons_succ]
              refine plan_take (.int .i64 k) rfl (by kernel_rfl) (fun W HW => ran_move rfl (by kernel_rfl)) HS1 ?_
              simp only [Act.put, List.setIfInBounds_toArray, List.set_cons_zero, List.set_cons_succ]
              refine plan_take (.agg #[.int .i64 x, .int .i64 y]) rfl (by kernel_rfl) (fun W HW => ran_load (vx := (.pointer (some ⟨p, 0, none⟩))) rfl (by kernel_rfl) (l_pl HW.1 HW.2.1)) HS1 ?_
              simp only [Act.put, List.setIfInBounds_toArray, List.set_cons_zero, List.set_cons_succ]
              refine plan_call rfl (by kernel_rfl) (ran_call (vs := #[.agg #[.int .i64 wx, .int .i64 wy], .int .i64 f, .int .i64 n, .int .i64 d, .int .i64 k]) rfl rfl (by kernel_rfl) (by kernel_rfl) (enters_unw _ _ _ _ _ _)) (c4 _) ?_
              rintro e w6 ⟨rfl, hk⟩
              have hg := Lib.hid ((show Below W7.heap.size W7 _ by (repeat (first | (with_reducible exact hb.out) | (with_reducible exact Below.refl _ _) | (with_reducible refine Below.drew ?_) | (with_reducible refine Below.alloc ?_ ?_ _) | omega | (simp <;> omega)))).trans (hk.mono (by (first | omega | (simp; done) | (simp; omega)))))
              have HS2 := KS.out _ hg.out
              refine ⟨_, rfl, HS2, ?_⟩
              clear HS1
              have HS1 := HS2
              clear HS2
              simp only [Act.put, List.setIfInBounds_toArray, List.set_cons_zero, List.set_cons_succ]
              refine plan_take (.bool false) rfl (by kernel_rfl) (fun W HW => ran_bin (vx := (.agg #[.int .i64 x, .int .i64 y])) (vy := (.agg #[.int .i64 x, .int .i64 y])) rfl (by kernel_rfl) (by kernel_rfl) (g_nep _ _ _ _ W) (b_nep _ _ W)) HS1 ?_
              simp only [Act.put, List.setIfInBounds_toArray, List.set_cons_zero, List.set_cons_succ]
              refine plan_take (.bool false) rfl (by kernel_rfl) (fun W HW => ran_move rfl (by kernel_rfl)) HS1 ?_
              simp only [Act.put, List.setIfInBounds_toArray, List.set_cons_zero, List.set_cons_succ]
              refine plan_take (.pointer (some ⟨r, 0, none⟩)) rfl (by kernel_rfl) (fun W HW => ran_field (vx := (.pointer (some ⟨r, 0, none⟩))) rfl (by kernel_rfl) (f_pl0 _ W)) HS1 ?_
              simp only [Act.put, List.setIfInBounds_toArray, List.set_cons_zero, List.set_cons_succ]
              refine plan_take (.int .i64 wx) rfl (by kernel_rfl) (fun W HW => ran_load (vx := (.pointer (some ⟨r, 0, none⟩))) rfl (by kernel_rfl) (l_int HW.2.2.1)) HS1 ?_
              simp only [Act.put, List.setIfInBounds_toArray, List.set_cons_zero, List.set_cons_succ]
              refine plan_take (.int .i64 f) rfl (by kernel_rfl) (fun W HW => ran_move rfl (by kernel_rfl)) HS1 ?_
              simp only [Act.put, List.setIfInBounds_toArray, List.set_cons_zero, List.set_cons_succ]
              refine plan_take (.bool false) rfl (by kernel_rfl) (fun W HW => ran_bin (vx := (.int .i64 wx)) (vy := (.int .i64 f)) rfl (by kernel_rfl) (by kernel_rfl) (g_eqi _ _ _ _ W) (b_eqi e4 W)) HS1 ?_
              simp only [Act.put, List.setIfInBounds_toArray, List.set_cons_zero, List.set_cons_succ]
              refine plan_take (.pointer (some ⟨p, 0, none⟩)) rfl (by kernel_rfl) (fun W HW => ran_field (vx := (.pointer (some ⟨p, 0, none⟩))) rfl (by kernel_rfl) (f_pl0 _ W)) HS1 ?_
              simp only [Act.put, List.setIfInBounds_toArray, List.set_cons_zero, List.set_cons_succ]
              refine plan_take (.int .i64 x) rfl (by kernel_rfl) (fun W HW => ran_load (vx := (.pointer (some ⟨p, 0, none⟩))) rfl (by kernel_rfl) (l_int HW.1)) HS1 ?_
              simp only [Act.put, List.setIfInBounds_toArray, List.set_cons_zero, List.set_cons_succ]
              refine plan_take (.int .i64 d) rfl (by kernel_rfl) (fun W HW => ran_move rfl (by kernel_rfl)) HS1 ?_
              simp only [Act.put, List.setIfInBounds_toArray, List.set_cons_zero, List.set_cons_succ]
              refine plan_take (.bool true) rfl (by kernel_rfl) (fun W HW => ran_bin (vx := (.int .i64 x)) (vy := (.int .i64 d)) rfl (by kernel_rfl) (by kernel_rfl) (g_eqi _ _ _ _ W) (b_eqi e3 W)) HS1 ?_
              simp only [Act.put, List.setIfInBounds_toArray, List.set_cons_zero, List.set_cons_succ]
              refine plan_take (.bool true) rfl (by kernel_rfl) (fun W HW => ran_move rfl (by kernel_rfl)) HS1 ?_
              simp only [Act.put, List.setIfInBounds_toArray, List.set_cons_zero, List.set_cons_succ]
              refine plan_take (.pointer (some ⟨p, 1, none⟩)) rfl (by kernel_rfl) (fun W HW => ran_field (vx := (.pointer (some ⟨p, 0, none⟩))) rfl (by kernel_rfl) (f_pl1 _ W)) HS1 ?_
              simp only [Act.put, List.setIfInBounds_toArray, List.set_cons_zero, List.set_cons_succ]
              refine plan_take (.int .i64 y) rfl (by kernel_rfl) (fun W HW => ran_load (vx := (.pointer (some ⟨p, 1, none⟩))) rfl (by kernel_rfl) (l_int HW.2.1)) HS1 ?_
              simp only [Act.put, List.setIfInBounds_toArray, List.set_cons_zero, List.set_cons_succ]
              refine plan_take (.int .i64 k) rfl (by kernel_rfl) (fun W HW => ran_move rfl (by kernel_rfl)) HS1 ?_
              simp only [Act.put, List.setIfInBounds_toArray, List.set_cons_zero, List.set_cons_succ]
              refine plan_take (.bool true) rfl (by kernel_rfl) (fun W HW => ran_bin (vx := (.int .i64 y)) (vy := (.int .i64 k)) rfl (by kernel_rfl) (by kernel_rfl) (g_gtr _ _ _ _ W) (b_gtr d1 W)) HS1 ?_
              simp only [Act.put, List.setIfInBounds_toArray, List.set_cons_zero, List.set_cons_succ]
              refine plan_take (.bool true) rfl (by kernel_rfl) (fun W HW => ran_pick (b := true) rfl (by kernel_rfl) (by kernel_rfl)) HS1 ?_
              simp only [Act.put, List.setIfInBounds_toArray, List.set_cons_zero, List.set_cons_succ]
              refine plan_take (.bool true) rfl (by kernel_rfl) (fun W HW => ran_move rfl (by kernel_rfl)) HS1 ?_
              simp only [Act.put, List.setIfInBounds_toArray, List.set_cons_zero, List.set_cons_succ]
              refine plan_take (.pointer (some ⟨p, 1, none⟩)) rfl (by kernel_rfl) (fun W HW => ran_field (vx := (.pointer (some ⟨p, 0, none⟩))) rfl (by kernel_rfl) (f_pl1 _ W)) HS1 ?_
              simp only [Act.put, List.setIfInBounds_toArray, List.set_cons_zero, List.set_cons_succ]
              refine plan_take (.int .i64 y) rfl (by kernel_rfl) (fun W HW => ran_load (vx := (.pointer (some ⟨p, 1, none⟩))) rfl (by kernel_rfl) (l_int HW.2.1)) HS1 ?_
              simp only [Act.put, List.setIfInBounds_toArray, List.set_cons_zero, List.set_cons_succ]
              refine plan_take (.int .i64 k) rfl (by kernel_rfl) (fun W HW => ran_move rfl (by kernel_rfl)) HS1 ?_
              simp only [Act.put, List.setIfInBounds_toArray, List.set_cons_zero, List.set_cons_succ]
              refine plan_take (.int .i64 n) rfl (by kernel_rfl) (fun W HW => ran_move rfl (by kernel_rfl)) HS1 ?_
              simp only [Act.put, List.setIfInBounds_toArray, List.set_cons_zero, List.set_cons_succ]
              refine plan_take (.int .i64 (k + n)) rfl (by kernel_rfl) (fun W HW => ran_bin (vx := (.int .i64 k)) (vy := (.int .i64 n)) rfl (by kernel_rfl) (by kernel_rfl) (g_add _ _ _ _ W) (b_add a0 W)) HS1 ?_
              simp only [Act.put, List.setIfInBounds_toArray, List.set_cons_zero, List.set_cons_succ]
              refine plan_take (.bool false) rfl (by kernel_rfl) (fun W HW => ran_bin (vx := (.int .i64 y)) (vy := (.int .i64 (k + n))) rfl (by kernel_rfl) (by kernel_rfl) (g_lss _ _ _ _ W) (b_lss hz W)) HS1 ?_
              simp only [Act.put, List.setIfInBounds_toArray, List.set_cons_zero, List.set_cons_succ]
              refine plan_take (.bool false) rfl (by kernel_rfl) (fun W HW => ran_pick (b := true) rfl (by kernel_rfl) (by kernel_rfl)) HS1 ?_
              simp only [Act.put, List.setIfInBounds_toArray, List.set_cons_zero, List.set_cons_succ]
              refine plan_take (.bool false) rfl (by kernel_rfl) (fun W HW => ran_bin (vx := (.bool false)) (vy := (.bool false)) rfl (by kernel_rfl) (by kernel_rfl) (g_neb _ _ _ _ W) (b_neb _ _ W)) HS1 ?_
              simp only [Act.put, List.setIfInBounds_toArray, List.set_cons_zero, List.set_cons_succ]
              refine plan_take (.bool false) rfl (by kernel_rfl) (fun W HW => ran_pick (b := false) rfl (by kernel_rfl) (by kernel_rfl)) HS1 ?_
              simp only [Act.put, List.setIfInBounds_toArray, List.set_cons_zero, List.set_cons_succ]
              refine plan_take (.bool false) rfl (by kernel_rfl) (fun W HW => ran_pick (b := true) rfl (by kernel_rfl) (by kernel_rfl)) HS1 ?_
              simp only [Act.put, List.setIfInBounds_toArray, List.set_cons_zero, List.set_cons_succ]
              refine plan_end ?_
              refine NoPanic.normal ?_
              go_wp2
              go_meet
              exact ⟨rfl, HB.out.trans (hg.out.mono HB.out.size), HS1.1, HS1.2.1⟩
            | true =>
              have HS1 : (W7.drew.cell? ⟨p, 0, none⟩ = some (.int .i64 x) ∧ W7.drew.cell? ⟨p, 1, none⟩ = some (.int .i64 y) ∧ W7.drew.cell? ⟨r, 0, none⟩ = some (.int .i64 wx) ∧ W7.drew.cell? ⟨r, 1, none⟩ = some (.int .i64 wy)) := KS.out _ (Below.refl _ _).drew
              refine wp_region_noPanic ?_
              refine region_plan [(0, true), (1, true), (2, true), (3, true), (4, true), (5, true), (6, true), (7, true), (9, true), (8, false), (10, true), (11, true), (12, true), (13, true), (14, true), (15, true), (16, true), (17, true), (18, true), (19, true), (20, true), (21, true), (22, true), (23, true), (24, true), (25, true), (26, true), (27, true), (28, true), (29, true), (30, true), (31, true), (32, true), (33, true), (34, true), (35, true), (36, true)] (fun W' => (W'.cell? ⟨p, 0, none⟩ = some (.int .i64 x) ∧ W'.cell? ⟨p, 1, none⟩ = some (.int .i64 y) ∧ W'.cell? ⟨r, 0, none⟩ = some (.int .i64 wx) ∧ W'.cell? ⟨r, 1, none⟩ = some (.int .i64 wy))) (by kernel_rfl) (by kernel_rfl) (by kernel_rfl) (by kernel_rfl) (fun _ _ _ _ _ h => h) ?_
              refine plan_take (.int .i64 n) rfl (by kernel_rfl) (fun W HW => ran_move rfl (by kernel_rfl)) HS1 ?_
              simp only [Act.put, List.setIfInBounds_toArray, List.set_cons_zero, List.set_cons_succ]
              refine plan_take (.bool true) rfl (by kernel_rfl) (fun W HW => ran_bin (vx := (.int .i64 n)) (vy := (.int .i64 0)) rfl (by kernel_rfl) (by kernel_rfl) (g_gtr _ _ _ _ W) (b_gtr d0 W)) HS1 ?_
              simp only [Act.put, List.setIfInBounds_toArray, List.set_cons_zero, List.set_cons_succ]
              refine plan_take (.bool true) rfl (by kernel_rfl) (fun W HW => ran_move rfl (by kernel_rfl)) HS1 ?_
              simp only [Act.put, List.setIfInBounds_toArray, List.set_cons_zero, List.set_cons_succ]
              refine plan_take (.agg #[.int .i64 wx, .int .i64 wy]) rfl (by kernel_rfl) (fun W HW => ran_load (vx := (.pointer (some ⟨r, 0, none⟩))) rfl (by kernel_rfl) (l_pl HW.2.2.1 HW.2.2.2)) HS1 ?_
              simp only [Act.put, List.setIfInBounds_toArray, List.set_cons_zero, List.set_cons_succ]
              refine plan_take (.int .i64 f) rfl (by kernel_rfl) (fun W HW => ran_move rfl (by kernel_rfl)) HS1 ?_
              simp only [Act.put, List.setIfInBounds_toArray, List.set_cons_zero, List.set_cons_succ]
              refine plan_take (.int .i64 n) rfl (by kernel_rfl) (fun W HW => ran_move rfl (by kernel_rfl)) HS1 ?_
              simp only [Act.put, List.setIfInBounds_toArray, List.set_cons_zero, List.set_cons_succ]
              refine plan_take (.int .i64 d) rfl (by kernel_rfl) (fun W HW => ran_move rfl (by kernel_rfl)) HS1 ?_
              simp only [Act.put, List.setIfInBounds_toArray, List.set_cons_zero, List.set_cons_succ]
              refine plan_take (.int .i64 k) rfl (by kernel_rfl) (fun W HW => ran_move rfl (by kernel_rfl)) HS1 ?_
              simp only [Act.put, List.setIfInBounds_toArray, List.set_cons_zero, List.set_cons_succ]
              refine plan_take (.agg #[.int .i64 x, .int .i64 y]) rfl (by kernel_rfl) (fun W HW => ran_load (vx := (.pointer (some ⟨p, 0, none⟩))) rfl (by kernel_rfl) (l_pl HW.1 HW.2.1)) HS1 ?_
              simp only [Act.put, List.setIfInBounds_toArray, List.set_cons_zero, List.set_cons_succ]
              refine plan_call rfl (by kernel_rfl) (ran_call (vs := #[.agg #[.int .i64 wx, .int .i64 wy], .int .i64 f, .int .i64 n, .int .i64 d, .int .i64 k]) rfl rfl (by kernel_rfl) (by kernel_rfl) (enters_unw _ _ _ _ _ _)) (c4 _) ?_
              rintro e w6 ⟨rfl, hk⟩
              have hg := Lib.hid ((show Below W7.heap.size W7 _ by (repeat (first | (with_reducible exact hb.out) | (with_reducible exact Below.refl _ _) | (with_reducible refine Below.drew ?_) | (with_reducible refine Below.alloc ?_ ?_ _) | omega | (simp <;> omega)))).trans (hk.mono (by (first | omega | (simp; done) | (simp; omega)))))
              have HS2 := KS.out _ hg.out
              refine ⟨_, rfl, HS2, ?_⟩
              clear HS1
              have HS1 := HS2
              clear HS2
              simp only [Act.put, List.setIfInBounds_toArray, List.set_cons_zero, List.set_cons_succ]
              refine plan_take (.bool false) rfl (by kernel_rfl) (fun W HW => ran_bin (vx := (.agg #[.int .i64 x, .int .i64 y])) (vy := (.agg #[.int .i64 x, .int .i64 y])) rfl (by kernel_rfl) (by kernel_rfl) (g_nep _ _ _ _ W) (b_nep _ _ W)) HS1 ?_
              simp only [Act.put, List.setIfInBounds_toArray, List.set_cons_zero, List.set_cons_succ]
              refine plan_take (.bool false) rfl (by kernel_rfl) (fun W HW => ran_move rfl (by kernel_rfl)) HS1 ?_
              simp only [Act.put, List.setIfInBounds_toArray, List.set_cons_zero, List.set_cons_succ]
              refine plan_take (.pointer (some ⟨r, 0, none⟩)) rfl (by kernel_rfl) (fun W HW => ran_field (vx := (.pointer (some ⟨r, 0, none⟩))) rfl (by kernel_rfl) (f_pl0 _ W)) HS1 ?_
              simp only [Act.put, List.setIfInBounds_toArray, List.set_cons_zero, List.set_cons_succ]
              refine plan_take (.int .i64 wx) rfl (by kernel_rfl) (fun W HW => ran_load (vx := (.pointer (some ⟨r, 0, none⟩))) rfl (by kernel_rfl) (l_int HW.2.2.1)) HS1 ?_
              simp only [Act.put, List.setIfInBounds_toArray, List.set_cons_zero, List.set_cons_succ]
              refine plan_take (.int .i64 f) rfl (by kernel_rfl) (fun W HW => ran_move rfl (by kernel_rfl)) HS1 ?_
              simp only [Act.put, List.setIfInBounds_toArray, List.set_cons_zero, List.set_cons_succ]
              refine plan_take (.bool true) rfl (by kernel_rfl) (fun W HW => ran_bin (vx := (.int .i64 wx)) (vy := (.int .i64 f)) rfl (by kernel_rfl) (by kernel_rfl) (g_eqi _ _ _ _ W) (b_eqi e4 W)) HS1 ?_
              simp only [Act.put, List.setIfInBounds_toArray, List.set_cons_zero, List.set_cons_succ]
              refine plan_take (.pointer (some ⟨p, 0, none⟩)) rfl (by kernel_rfl) (fun W HW => ran_field (vx := (.pointer (some ⟨p, 0, none⟩))) rfl (by kernel_rfl) (f_pl0 _ W)) HS1 ?_
              simp only [Act.put, List.setIfInBounds_toArray, List.set_cons_zero, List.set_cons_succ]
              refine plan_take (.int .i64 x) rfl (by kernel_rfl) (fun W HW => ran_load (vx := (.pointer (some ⟨p, 0, none⟩))) rfl (by kernel_rfl) (l_int HW.1)) HS1 ?_
              simp only [Act.put, List.setIfInBounds_toArray, List.set_cons_zero, List.set_cons_succ]
              refine plan_take (.int .i64 d) rfl (by kernel_rfl) (fun W HW => ran_move rfl (by kernel_rfl)) HS1 ?_
              simp only [Act.put, List.setIfInBounds_toArray, List.set_cons_zero, List.set_cons_succ]
              refine plan_take (.bool true) rfl (by kernel_rfl) (fun W HW => ran_bin (vx := (.int .i64 x)) (vy := (.int .i64 d)) rfl (by kernel_rfl) (by kernel_rfl) (g_eqi _ _ _ _ W) (b_eqi e3 W)) HS1 ?_
              simp only [Act.put, List.setIfInBounds_toArray, List.set_cons_zero, List.set_cons_succ]
              refine plan_take (.bool true) rfl (by kernel_rfl) (fun W HW => ran_move rfl (by kernel_rfl)) HS1 ?_
              simp only [Act.put, List.setIfInBounds_toArray, List.set_cons_zero, List.set_cons_succ]
              refine plan_take (.pointer (some ⟨p, 1, none⟩)) rfl (by kernel_rfl) (fun W HW => ran_field (vx := (.pointer (some ⟨p, 0, none⟩))) rfl (by kernel_rfl) (f_pl1 _ W)) HS1 ?_
              simp only [Act.put, List.setIfInBounds_toArray, List.set_cons_zero, List.set_cons_succ]
              refine plan_take (.int .i64 y) rfl (by kernel_rfl) (fun W HW => ran_load (vx := (.pointer (some ⟨p, 1, none⟩))) rfl (by kernel_rfl) (l_int HW.2.1)) HS1 ?_
              simp only [Act.put, List.setIfInBounds_toArray, List.set_cons_zero, List.set_cons_succ]
              refine plan_take (.int .i64 k) rfl (by kernel_rfl) (fun W HW => ran_move rfl (by kernel_rfl)) HS1 ?_
              simp only [Act.put, List.setIfInBounds_toArray, List.set_cons_zero, List.set_cons_succ]
              refine plan_take (.bool true) rfl (by kernel_rfl) (fun W HW => ran_bin (vx := (.int .i64 y)) (vy := (.int .i64 k)) rfl (by kernel_rfl) (by kernel_rfl) (g_gtr _ _ _ _ W) (b_gtr d1 W)) HS1 ?_
              simp only [Act.put, List.setIfInBounds_toArray, List.set_cons_zero, List.set_cons_succ]
              refine plan_take (.bool true) rfl (by kernel_rfl) (fun W HW => ran_pick (b := true) rfl (by kernel_rfl) (by kernel_rfl)) HS1 ?_
              simp only [Act.put, List.setIfInBounds_toArray, List.set_cons_zero, List.set_cons_succ]
              refine plan_take (.bool true) rfl (by kernel_rfl) (fun W HW => ran_move rfl (by kernel_rfl)) HS1 ?_
              simp only [Act.put, List.setIfInBounds_toArray, List.set_cons_zero, List.set_cons_succ]
              refine plan_take (.pointer (some ⟨p, 1, none⟩)) rfl (by kernel_rfl) (fun W HW => ran_field (vx := (.pointer (some ⟨p, 0, none⟩))) rfl (by kernel_rfl) (f_pl1 _ W)) HS1 ?_
              simp only [Act.put, List.setIfInBounds_toArray, List.set_cons_zero, List.set_cons_succ]
              refine plan_take (.int .i64 y) rfl (by kernel_rfl) (fun W HW => ran_load (vx := (.pointer (some ⟨p, 1, none⟩))) rfl (by kernel_rfl) (l_int HW.2.1)) HS1 ?_
              simp only [Act.put, List.setIfInBounds_toArray, List.set_cons_zero, List.set_cons_succ]
              refine plan_take (.int .i64 k) rfl (by kernel_rfl) (fun W HW => ran_move rfl (by kernel_rfl)) HS1 ?_
              simp only [Act.put, List.setIfInBounds_toArray, List.set_cons_zero, List.set_cons_succ]
              refine plan_take (.int .i64 n) rfl (by kernel_rfl) (fun W HW => ran_move rfl (by kernel_rfl)) HS1 ?_
              simp only [Act.put, List.setIfInBounds_toArray, List.set_cons_zero, List.set_cons_succ]
              refine plan_take (.int .i64 (k + n)) rfl (by kernel_rfl) (fun W HW => ran_bin (vx := (.int .i64 k)) (vy := (.int .i64 n)) rfl (by kernel_rfl) (by kernel_rfl) (g_add _ _ _ _ W) (b_add a0 W)) HS1 ?_
              simp only [Act.put, List.setIfInBounds_toArray, List.set_cons_zero, List.set_cons_succ]
              refine plan_take (.bool true) rfl (by kernel_rfl) (fun W HW => ran_bin (vx := (.int .i64 y)) (vy := (.int .i64 (k + n))) rfl (by kernel_rfl) (by kernel_rfl) (g_lss _ _ _ _ W) (b_lss hz W)) HS1 ?_
              simp only [Act.put, List.setIfInBounds_toArray, List.set_cons_zero, List.set_cons_succ]
              refine plan_take (.bool true) rfl (by kernel_rfl) (fun W HW => ran_pick (b := true) rfl (by kernel_rfl) (by kernel_rfl)) HS1 ?_
              simp only [Act.put, List.setIfInBounds_toArray, List.set_cons_zero, List.set_cons_succ]
              refine plan_take (.bool false) rfl (by kernel_rfl) (fun W HW => ran_bin (vx := (.bool true)) (vy := (.bool true)) rfl (by kernel_rfl) (by kernel_rfl) (g_neb _ _ _ _ W) (b_neb _ _ W)) HS1 ?_
              simp only [Act.put, List.setIfInBounds_toArray, List.set_cons_zero, List.set_cons_succ]
              refine plan_take (.bool false) rfl (by kernel_rfl) (fun W HW => ran_pick (b := false) rfl (by kernel_rfl) (by kernel_rfl)) HS1 ?_
              simp only [Act.put, List.setIfInBounds_toArray, List.set_cons_zero, List.set_cons_succ]
              refine plan_take (.bool false) rfl (by kernel_rfl) (fun W HW => ran_pick (b := true) rfl (by kernel_rfl) (by kernel_rfl)) HS1 ?_
              simp only [Act.put, List.setIfInBounds_toArray, List.set_cons_zero, List.set_cons_succ]
              refine plan_end ?_
              refine NoPanic.normal ?_
              go_wp2
              go_meet
              exact ⟨rfl, HB.out.trans (hg.out.mono HB.out.size), HS1.1, HS1.2.1⟩
          · have d1 : decide (k < y) = false := decide_eq_false hky
            have e4 : (wx == f) = false := by rw [h5]; simp [hky]
            clear h5 hxd hky
            have HS1 : (W7.drew.cell? ⟨p, 0, none⟩ = some (.int .i64 x) ∧ W7.drew.cell? ⟨p, 1, none⟩ = some (.int .i64 y) ∧ W7.drew.cell? ⟨r, 0, none⟩ = some (.int .i64 wx) ∧ W7.drew.cell? ⟨r, 1, none⟩ = some (.int .i64 wy)) := KS.out _ (Below.refl _ _).drew
            refine wp_region_noPanic ?_
            refine region_plan [(0, true), (1, true), (2, true), (3, true), (4, true), (5, true), (6, true), (7, true), (9, true), (8, false), (10, true), (11, true), (12, true), (13, true), (14, true), (15, true), (16, true), (17, true), (18, true), (19, true), (20, true), (21, true), (22, true), (23, true), (24, true), (25, true), (26, true), (27, true), (28, true), (29, true), (30, true), (31, true), (32, true), (33, true), (34, true), (35, true), (36, true)] (fun W' => (W'.cell? ⟨p, 0, none⟩ = some (.int .i64 x) ∧ W'.cell? ⟨p, 1, none⟩ = some (.int .i64 y) ∧ W'.cell? ⟨r, 0, none⟩ = some (.int .i64 wx) ∧ W'.cell? ⟨r, 1, none⟩ = some (.int .i64 wy))) (by kernel_rfl) (by kernel_rfl) (by kernel_rfl) (by kernel_rfl) (fun _ _ _ _ _ h => h) ?_
            refine plan_take (.int .i64 n) rfl (by kernel_rfl) (fun W HW => ran_move rfl (by kernel_rfl)) HS1 ?_
            simp only [Act.put, List.setIfInBounds_toArray, List.set_cons_zero, List.set_cons_succ]
            refine plan_take (.bool true) rfl (by kernel_rfl) (fun W HW => ran_bin (vx := (.int .i64 n)) (vy := (.int .i64 0)) rfl (by kernel_rfl) (by kernel_rfl) (g_gtr _ _ _ _ W) (b_gtr d0 W)) HS1 ?_
            simp only [Act.put, List.setIfInBounds_toArray, List.set_cons_zero, List.set_cons_succ]
            refine plan_take (.bool true) rfl (by kernel_rfl) (fun W HW => ran_move rfl (by kernel_rfl)) HS1 ?_
            simp only [Act.put, List.setIfInBounds_toArray, List.set_cons_zero, List.set_cons_succ]
            refine plan_take (.agg #[.int .i64 wx, .int .i64 wy]) rfl (by kernel_rfl) (fun W HW => ran_load (vx := (.pointer (some ⟨r, 0, none⟩))) rfl (by kernel_rfl) (l_pl HW.2.2.1 HW.2.2.2)) HS1 ?_
            simp only [Act.put, List.setIfInBounds_toArray, List.set_cons_zero, List.set_cons_succ]
            refine plan_take (.int .i64 f) rfl (by kernel_rfl) (fun W HW => ran_move rfl (by kernel_rfl)) HS1 ?_
            simp only [Act.put, List.setIfInBounds_toArray, List.set_cons_zero, List.set_cons_succ]
            refine plan_take (.int .i64 n) rfl (by kernel_rfl) (fun W HW => ran_move rfl (by kernel_rfl)) HS1 ?_
            simp only [Act.put, List.setIfInBounds_toArray, List.set_cons_zero, List.set_cons_succ]
            refine plan_take (.int .i64 d) rfl (by kernel_rfl) (fun W HW => ran_move rfl (by kernel_rfl)) HS1 ?_
            simp only [Act.put, List.setIfInBounds_toArray, List.set_cons_zero, List.set_cons_succ]
            refine plan_take (.int .i64 k) rfl (by kernel_rfl) (fun W HW => ran_move rfl (by kernel_rfl)) HS1 ?_
            simp only [Act.put, List.setIfInBounds_toArray, List.set_cons_zero, List.set_cons_succ]
            refine plan_take (.agg #[.int .i64 x, .int .i64 y]) rfl (by kernel_rfl) (fun W HW => ran_load (vx := (.pointer (some ⟨p, 0, none⟩))) rfl (by kernel_rfl) (l_pl HW.1 HW.2.1)) HS1 ?_
            simp only [Act.put, List.setIfInBounds_toArray, List.set_cons_zero, List.set_cons_succ]
            refine plan_call rfl (by kernel_rfl) (ran_call (vs := #[.agg #[.int .i64 wx, .int .i64 wy], .int .i64 f, .int .i64 n, .int .i64 d, .int .i64 k]) rfl rfl (by kernel_rfl) (by kernel_rfl) (enters_unw _ _ _ _ _ _)) (c4 _) ?_
            rintro e w6 ⟨rfl, hk⟩
            have hg := Lib.hid ((show Below W7.heap.size W7 _ by (repeat (first | (with_reducible exact hb.out) | (with_reducible exact Below.refl _ _) | (with_reducible refine Below.drew ?_) | (with_reducible refine Below.alloc ?_ ?_ _) | omega | (simp <;> omega)))).trans (hk.mono (by (first | omega | (simp; done) | (simp; omega)))))
            have HS2 := KS.out _ hg.out
            refine ⟨_, rfl, HS2, ?_⟩
            clear HS1
            have HS1 := HS2
            clear HS2
            simp only [Act.put, List.setIfInBounds_toArray, List.set_cons_zero, List.set_cons_succ]
            refine plan_take (.bool false) rfl (by kernel_rfl) (fun W HW => ran_bin (vx := (.agg #[.int .i64 x, .int .i64 y])) (vy := (.agg #[.int .i64 x, .int .i64 y])) rfl (by kernel_rfl) (by kernel_rfl) (g_nep _ _ _ _ W) (b_nep _ _ W)) HS1 ?_
            simp only [Act.put, List.setIfInBounds_toArray, List.set_cons_zero, List.set_cons_succ]
            refine plan_take (.bool false) rfl (by kernel_rfl) (fun W HW => ran_move rfl (by kernel_rfl)) HS1 ?_
            simp only [Act.put, List.setIfInBounds_toArray, List.set_cons_zero, List.set_cons_succ]
            refine plan_take (.pointer (some ⟨r, 0, none⟩)) rfl (by kernel_rfl) (fun W HW => ran_field (vx := (.pointer (some ⟨r, 0, none⟩))) rfl (by kernel_rfl) (f_pl0 _ W)) HS1 ?_
            simp only [Act.put, List.setIfInBounds_toArray, List.set_cons_zero, List.set_cons_succ]
            refine plan_take (.int .i64 wx) rfl (by kernel_rfl) (fun W HW => ran_load (vx := (.pointer (some ⟨r, 0, none⟩))) rfl (by kernel_rfl) (l_int HW.2.2.1)) HS1 ?_
            simp only [Act.put, List.setIfInBounds_toArray, List.set_cons_zero, List.set_cons_succ]
            refine plan_take (.int .i64 f) rfl (by kernel_rfl) (fun W HW => ran_move rfl (by kernel_rfl)) HS1 ?_
            simp only [Act.put, List.setIfInBounds_toArray, List.set_cons_zero, List.set_cons_succ]
            refine plan_take (.bool false) rfl (by kernel_rfl) (fun W HW => ran_bin (vx := (.int .i64 wx)) (vy := (.int .i64 f)) rfl (by kernel_rfl) (by kernel_rfl) (g_eqi _ _ _ _ W) (b_eqi e4 W)) HS1 ?_
            simp only [Act.put, List.setIfInBounds_toArray, List.set_cons_zero, List.set_cons_succ]
            refine plan_take (.pointer (some ⟨p, 0, none⟩)) rfl (by kernel_rfl) (fun W HW => ran_field (vx := (.pointer (some ⟨p, 0, none⟩))) rfl (by kernel_rfl) (f_pl0 _ W)) HS1 ?_
            simp only [Act.put, List.setIfInBounds_toArray, List.set_cons_zero, List.set_cons_succ]
            refine plan_take (.int .i64 x) rfl (by kernel_rfl) (fun W HW => ran_load (vx := (.pointer (some ⟨p, 0, none⟩))) rfl (by kernel_rfl) (l_int HW.1)) HS1 ?_
            simp only [Act.put, List.setIfInBounds_toArray, List.set_cons_zero, List.set_cons_succ]
            refine plan_take (.int .i64 d) rfl (by kernel_rfl) (fun W HW => ran_move rfl (by kernel_rfl)) HS1 ?_
            simp only [Act.put, List.setIfInBounds_toArray, List.set_cons_zero, List.set_cons_succ]
            refine plan_take (.bool true) rfl (by kernel_rfl) (fun W HW => ran_bin (vx := (.int .i64 x)) (vy := (.int .i64 d)) rfl (by kernel_rfl) (by kernel_rfl) (g_eqi _ _ _ _ W) (b_eqi e3 W)) HS1 ?_
            simp only [Act.put, List.setIfInBounds_toArray, List.set_cons_zero, List.set_cons_succ]
            refine plan_take (.bool true) rfl (by kernel_rfl) (fun W HW => ran_move rfl (by kernel_rfl)) HS1 ?_
            simp only [Act.put, List.setIfInBounds_toArray, List.set_cons_zero, List.set_cons_succ]
            refine plan_take (.pointer (some ⟨p, 1, none⟩)) rfl (by kernel_rfl) (fun W HW => ran_field (vx := (.pointer (some ⟨p, 0, none⟩))) rfl (by kernel_rfl) (f_pl1 _ W)) HS1 ?_
            simp only [Act.put, List.setIfInBounds_toArray, List.set_cons_zero, List.set_cons_succ]
            refine plan_take (.int .i64 y) rfl (by kernel_rfl) (fun W HW => ran_load (vx := (.pointer (some ⟨p, 1, none⟩))) rfl (by kernel_rfl) (l_int HW.2.1)) HS1 ?_
            simp only [Act.put, List.setIfInBounds_toArray, List.set_cons_zero, List.set_cons_succ]
            refine plan_take (.int .i64 k) rfl (by kernel_rfl) (fun W HW => ran_move rfl (by kernel_rfl)) HS1 ?_
            simp only [Act.put, List.setIfInBounds_toArray, List.set_cons_zero, List.set_cons_succ]
            refine plan_take (.bool false) rfl (by kernel_rfl) (fun W HW => ran_bin (vx := (.int .i64 y)) (vy := (.int .i64 k)) rfl (by kernel_rfl) (by kernel_rfl) (g_gtr _ _ _ _ W) (b_gtr d1 W)) HS1 ?_
            simp only [Act.put, List.setIfInBounds_toArray, List.set_cons_zero, List.set_cons_succ]
            refine plan_take (.bool false) rfl (by kernel_rfl) (fun W HW => ran_pick (b := true) rfl (by kernel_rfl) (by kernel_rfl)) HS1 ?_
            simp only [Act.put, List.setIfInBounds_toArray, List.set_cons_zero, List.set_cons_succ]
            refine plan_take (.bool false) rfl (by kernel_rfl) (fun W HW => ran_move rfl (by kernel_rfl)) HS1 ?_
            simp only [Act.put, List.setIfInBounds_toArray, List.set_cons_zero, List.set_cons_succ]
            refine plan_skip rfl (by kernel_rfl) HS1 ?_
            simp only [Act.put, List.setIfInBounds_toArray, List.set_cons_zero, List.set_cons_succ]
            refine plan_skip rfl (by kernel_rfl) HS1 ?_
            simp only [Act.put, List.setIfInBounds_toArray, List.set_cons_zero, List.set_cons_succ]
            refine plan_skip rfl (by kernel_rfl) HS1 ?_
            simp only [Act.put, List.setIfInBounds_toArray, List.set_cons_zero, List.set_cons_succ]
            refine plan_skip rfl (by kernel_rfl) HS1 ?_
            simp only [Act.put, List.setIfInBounds_toArray, List.set_cons_zero, List.set_cons_succ]
            refine plan_skip rfl (by kernel_rfl) HS1 ?_
            simp only [Act.put, List.setIfInBounds_toArray, List.set_cons_zero, List.set_cons_succ]
            refine plan_skip rfl (by kernel_rfl) HS1 ?_
            simp only [Act.put, List.setIfInBounds_toArray, List.set_cons_zero, List.set_cons_succ]
            refine plan_take (.bool false) rfl (by kernel_rfl) (fun W HW => ran_pick (b := false) rfl (by kernel_rfl) (by kernel_rfl)) HS1 ?_
            simp only [Act.put, List.setIfInBounds_toArray, List.set_cons_zero, List.set_cons_succ]
            refine plan_take (.bool false) rfl (by kernel_rfl) (fun W HW => ran_bin (vx := (.bool false)) (vy := (.bool false)) rfl (by kernel_rfl) (by kernel_rfl) (g_neb _ _ _ _ W) (b_neb _ _ W)) HS1 ?_
            simp only [Act.put, List.setIfInBounds_toArray, List.set_cons_zero, List.set_cons_succ]
            refine plan_take (.bool false) rfl (by kernel_rfl) (fun W HW => ran_pick (b := false) rfl (by kernel_rfl) (by kernel_rfl)) HS1 ?_
            simp only [Act.put, List.setIfInBounds_toArray, List.set_cons_zero, List.set_cons_succ]
            refine plan_take (.bool false) rfl (by kernel_rfl) (fun W HW => ran_pick (b := true) rfl (by kernel_rfl) (by kernel_rfl)) HS1 ?_
            simp only [Act.put, List.setIfInBounds_toArray, List.set_cons_zero, List.set_cons_succ]
            refine plan_end ?_
            refine NoPanic.normal ?_
            go_wp2
            go_meet
            exact ⟨rfl, HB.out.trans (hg.out.mono HB.out.size), HS1.1, HS1.2.1⟩
        · have e3 : (x == d) = false := by simp [hxd]
          have e4 : (wx == f) = false := by rw [h5]; simp [hxd]
          clear h5 hxd
          have HS1 : (W7.drew.cell? ⟨p, 0, none⟩ = some (.int .i64 x) ∧ W7.drew.cell? ⟨p, 1, none⟩ = some (.int .i64 y) ∧ W7.drew.cell? ⟨r, 0, none⟩ = some (.int .i64 wx) ∧ W7.drew.cell? ⟨r, 1, none⟩ = some (.int .i64 wy)) := KS.out _ (Below.refl _ _).drew
          refine wp_region_noPanic ?_
          refine region_plan [(0, true), (1, true), (2, true), (3, true), (4, true), (5, true), (6, true), (7, true), (9, true), (8, false), (10, true), (11, true), (12, true), (13, true), (14, true), (15, true), (16, true), (17, true), (18, true), (19, true), (20, true), (21, true), (22, true), (23, true), (24, true), (25, true), (26, true), (27, true), (28, true), (29, true), (30, true), (31, true), (32, true), (33, true), (34, true), (35, true), (36, true)] (fun W' => (W'.cell? ⟨p, 0, none⟩ = some (.int .i64 x) ∧ W'.cell? ⟨p, 1, none⟩ = some (.int .i64 y) ∧ W'.cell? ⟨r, 0, none⟩ = some (.int .i64 wx) ∧ W'.cell? ⟨r, 1, none⟩ = some (.int .i64 wy))) (by kernel_rfl) (by kernel_rfl) (by kernel_rfl) (by kernel_rfl) (fun _ _ _ _ _ h => h) ?_
          refine plan_take (.int .i64 n) rfl (by kernel_rfl) (fun W HW => ran_move rfl (by kernel_rfl)) HS1 ?_
          simp only [Act.put, List.setIfInBounds_toArray, List.set_cons_zero, List.set_cons_succ]
          refine plan_take (.bool true) rfl (by kernel_rfl) (fun W HW => ran_bin (vx := (.int .i64 n)) (vy := (.int .i64 0)) rfl (by kernel_rfl) (by kernel_rfl) (g_gtr _ _ _ _ W) (b_gtr d0 W)) HS1 ?_
          simp only [Act.put, List.setIfInBounds_toArray, List.set_cons_zero, List.set_cons_succ]
          refine plan_take (.bool true) rfl (by kernel_rfl) (fun W HW => ran_move rfl (by kernel_rfl)) HS1 ?_
          simp only [Act.put, List.setIfInBounds_toArray, List.set_cons_zero, List.set_cons_succ]
          refine plan_take (.agg #[.int .i64 wx, .int .i64 wy]) rfl (by kernel_rfl) (fun W HW => ran_load (vx := (.pointer (some ⟨r, 0, none⟩))) rfl (by kernel_rfl) (l_pl HW.2.2.1 HW.2.2.2)) HS1 ?_
          simp only [Act.put, List.setIfInBounds_toArray, List.set_cons_zero, List.set_cons_succ]
          refine plan_take (.int .i64 f) rfl (by kernel_rfl) (fun W HW => ran_move rfl (by kernel_rfl)) HS1 ?_
          simp only [Act.put, List.setIfInBounds_toArray, List.set_cons_zero, List.set_cons_succ]
          refine plan_take (.int .i64 n) rfl (by kernel_rfl) (fun W HW => ran_move rfl (by kernel_rfl)) HS1 ?_
          simp only [Act.put, List.setIfInBounds_toArray, List.set_cons_zero, List.set_cons_succ]
          refine plan_take (.int .i64 d) rfl (by kernel_rfl) (fun W HW => ran_move rfl (by kernel_rfl)) HS1 ?_
          simp only [Act.put, List.setIfInBounds_toArray, List.set_cons_zero, List.set_cons_succ]
          refine plan_take (.int .i64 k) rfl (by kernel_rfl) (fun W HW => ran_move rfl (by kernel_rfl)) HS1 ?_
          simp only [Act.put, List.setIfInBounds_toArray, List.set_cons_zero, List.set_cons_succ]
          refine plan_take (.agg #[.int .i64 x, .int .i64 y]) rfl (by kernel_rfl) (fun W HW => ran_load (vx := (.pointer (some ⟨p, 0, none⟩))) rfl (by kernel_rfl) (l_pl HW.1 HW.2.1)) HS1 ?_
          simp only [Act.put, List.setIfInBounds_toArray, List.set_cons_zero, List.set_cons_succ]
          refine plan_call rfl (by kernel_rfl) (ran_call (vs := #[.agg #[.int .i64 wx, .int .i64 wy], .int .i64 f, .int .i64 n, .int .i64 d, .int .i64 k]) rfl rfl (by kernel_rfl) (by kernel_rfl) (enters_unw _ _ _ _ _ _)) (c4 _) ?_
          rintro e w6 ⟨rfl, hk⟩
          have hg := Lib.hid ((show Below W7.heap.size W7 _ by (repeat (first | (with_reducible exact hb.out) | (with_reducible exact Below.refl _ _) | (with_reducible refine Below.drew ?_) | (with_reducible refine Below.alloc ?_ ?_ _) | omega | (simp <;> omega)))).trans (hk.mono (by (first | omega | (simp; done) | (simp; omega)))))
          have HS2 := KS.out _ hg.out
          refine ⟨_, rfl, HS2, ?_⟩
          clear HS1
          have HS1 := HS2
          clear HS2
          simp only [Act.put, List.setIfInBounds_toArray, List.set_cons_zero, List.set_cons_succ]
          refine plan_take (.bool false) rfl (by kernel_rfl) (fun W HW => ran_bin (vx := (.agg #[.int .i64 x, .int .i64 y])) (vy := (.agg #[.int .i64 x, .int .i64 y])) rfl (by kernel_rfl) (by kernel_rfl) (g_nep _ _ _ _ W) (b_nep _ _ W)) HS1 ?_
          simp only [Act.put, List.setIfInBounds_toArray, List.set_cons_zero, List.set_cons_succ]
          refine plan_take (.bool false) rfl (by kernel_rfl) (fun W HW => ran_move rfl (by kernel_rfl)) HS1 ?_
          simp only [Act.put, List.setIfInBounds_toArray, List.set_cons_zero, List.set_cons_succ]
          refine plan_take (.pointer (some ⟨r, 0, none⟩)) rfl (by kernel_rfl) (fun W HW => ran_field (vx := (.pointer (some ⟨r, 0, none⟩))) rfl (by kernel_rfl) (f_pl0 _ W)) HS1 ?_
          simp only [Act.put, List.setIfInBounds_toArray, List.set_cons_zero, List.set_cons_succ]
          refine plan_take (.int .i64 wx) rfl (by kernel_rfl) (fun W HW => ran_load (vx := (.pointer (some ⟨r, 0, none⟩))) rfl (by kernel_rfl) (l_int HW.2.2.1)) HS1 ?_
          simp only [Act.put, List.setIfInBounds_toArray, List.set_cons_zero, List.set_cons_succ]
          refine plan_take (.int .i64 f) rfl (by kernel_rfl) (fun W HW => ran_move rfl (by kernel_rfl)) HS1 ?_
          simp only [Act.put, List.setIfInBounds_toArray, List.set_cons_zero, List.set_cons_succ]
          refine plan_take (.bool false) rfl (by kernel_rfl) (fun W HW => ran_bin (vx := (.int .i64 wx)) (vy := (.int .i64 f)) rfl (by kernel_rfl) (by kernel_rfl) (g_eqi _ _ _ _ W) (b_eqi e4 W)) HS1 ?_
          simp only [Act.put, List.setIfInBounds_toArray, List.set_cons_zero, List.set_cons_succ]
          refine plan_take (.pointer (some ⟨p, 0, none⟩)) rfl (by kernel_rfl) (fun W HW => ran_field (vx := (.pointer (some ⟨p, 0, none⟩))) rfl (by kernel_rfl) (f_pl0 _ W)) HS1 ?_
          simp only [Act.put, List.setIfInBounds_toArray, List.set_cons_zero, List.set_cons_succ]
          refine plan_take (.int .i64 x) rfl (by kernel_rfl) (fun W HW => ran_load (vx := (.pointer (some ⟨p, 0, none⟩))) rfl (by kernel_rfl) (l_int HW.1)) HS1 ?_
          simp only [Act.put, List.setIfInBounds_toArray, List.set_cons_zero, List.set_cons_succ]
          refine plan_take (.int .i64 d) rfl (by kernel_rfl) (fun W HW => ran_move rfl (by kernel_rfl)) HS1 ?_
          simp only [Act.put, List.setIfInBounds_toArray, List.set_cons_zero, List.set_cons_succ]
          refine plan_take (.bool false) rfl (by kernel_rfl) (fun W HW => ran_bin (vx := (.int .i64 x)) (vy := (.int .i64 d)) rfl (by kernel_rfl) (by kernel_rfl) (g_eqi _ _ _ _ W) (b_eqi e3 W)) HS1 ?_
          simp only [Act.put, List.setIfInBounds_toArray, List.set_cons_zero, List.set_cons_succ]
          refine plan_take (.bool false) rfl (by kernel_rfl) (fun W HW => ran_move rfl (by kernel_rfl)) HS1 ?_
          simp only [Act.put, List.setIfInBounds_toArray, List.set_cons_zero, List.set_cons_succ]
          refine plan_skip rfl (by kernel_rfl) HS1 ?_
          simp only [Act.put, List.setIfInBounds_toArray, List.set_cons_zero, List.set_cons_succ]
          refine plan_skip rfl (by kernel_rfl) HS1 ?_
          simp only [Act.put, List.setIfInBounds_toArray, List.set_cons_zero, List.set_cons_succ]
          refine plan_skip rfl (by kernel_rfl) HS1 ?_
          simp only [Act.put, List.setIfInBounds_toArray, List.set_cons_zero, List.set_cons_succ]
          refine plan_skip rfl (by kernel_rfl) HS1 ?_
          simp only [Act.put, List.setIfInBounds_toArray, List.set_cons_zero, List.set_cons_succ]
          refine plan_take (.bool false) rfl (by kernel_rfl) (fun W HW => ran_pick (b := false) rfl (by kernel_rfl) (by kernel_rfl)) HS1 ?_
          simp only [Act.put, List.setIfInBounds_toArray, List.set_cons_zero, List.set_cons_succ]
          refine plan_take (.bool false) rfl (by kernel_rfl) (fun W HW => ran_move rfl (by kernel_rfl)) HS1 ?_
          simp only [Act.put, List.setIfInBounds_toArray, List.set_cons_zero, List.set_cons_succ]
          refine plan_skip rfl (by kernel_rfl) HS1 ?_
          simp only [Act.put, List.setIfInBounds_toArray, List.set_cons_zero, List.set_cons_succ]
          refine plan_skip rfl (by kernel_rfl) HS1 ?_
          simp only [Act.put, List.setIfInBounds_toArray, List.set_cons_zero, List.set_cons_succ]
          refine plan_skip rfl (by kernel_rfl) HS1 ?_
          simp only [Act.put, List.setIfInBounds_toArray, List.set_cons_zero, List.set_cons_succ]
          refine plan_skip rfl (by kernel_rfl) HS1 ?_
          simp only [Act.put, List.setIfInBounds_toArray, List.set_cons_zero, List.set_cons_succ]
          refine plan_skip rfl (by kernel_rfl) HS1 ?_
          simp only [Act.put, List.setIfInBounds_toArray, List.set_cons_zero, List.set_cons_succ]
          refine plan_skip rfl (by kernel_rfl) HS1 ?_
          simp only [Act.put, List.setIfInBounds_toArray, List.set_cons_zero, List.set_cons_succ]
          refine plan_take (.bool false) rfl (by kernel_rfl) (fun W HW => ran_pick (b := false) rfl (by kernel_rfl) (by kernel_rfl)) HS1 ?_
          simp only [Act.put, List.setIfInBounds_toArray, List.set_cons_zero, List.set_cons_succ]
          refine plan_take (.bool false) rfl (by kernel_rfl) (fun W HW => ran_bin (vx := (.bool false)) (vy := (.bool false)) rfl (by kernel_rfl) (by kernel_rfl) (g_neb _ _ _ _ W) (b_neb _ _ W)) HS1 ?_
          simp only [Act.put, List.setIfInBounds_toArray, List.set_cons_zero, List.set_cons_succ]
          refine plan_take (.bool false) rfl (by kernel_rfl) (fun W HW => ran_pick (b := false) rfl (by kernel_rfl) (by kernel_rfl)) HS1 ?_
          simp only [Act.put, List.setIfInBounds_toArray, List.set_cons_zero, List.set_cons_succ]
          refine plan_take (.bool false) rfl (by kernel_rfl) (fun W HW => ran_pick (b := true) rfl (by kernel_rfl) (by kernel_rfl)) HS1 ?_
          simp only [Act.put, List.setIfInBounds_toArray, List.set_cons_zero, List.set_cons_succ]
          refine plan_end ?_
          refine NoPanic.normal ?_
          go_wp2
          go_meet
          exact ⟨rfl, HB.out.trans (hg.out.mono HB.out.size), HS1.1, HS1.2.1⟩
      · have d0 : decide (0 < n) = false := decide_eq_false hn0
        clear HS HU HW c4 c5 c6 c7 c8
        have hS : (W7.cell? ⟨p, 0, none⟩ = some (.int .i64 x) ∧ W7.cell? ⟨p, 1, none⟩ = some (.int .i64 y) ∧ W7.cell? ⟨r, 0, none⟩ = some (.int .i64 wx) ∧ W7.cell? ⟨r, 1, none⟩ = some (.int .i64 wy)) := ⟨p0, p1, r0, r1⟩
        have KS : Hid (∀ W', Below W7.heap.size W7 W' → (W'.cell? ⟨p, 0, none⟩ = some (.int .i64 x) ∧ W'.cell? ⟨p, 1, none⟩ = some (.int .i64 y) ∧ W'.cell? ⟨r, 0, none⟩ = some (.int .i64 wx) ∧ W'.cell? ⟨r, 1, none⟩ = some (.int .i64 wy))) := Lib.hid (fun W' h => ⟨(h.cell (lt_of_cell' p0)).trans p0, (h.cell (lt_of_cell' p1)).trans p1, (h.cell (lt_of_cell' r0)).trans r0, (h.cell (lt_of_cell' r1)).trans r1⟩)
        have hb : Hid (Below W7.heap.size W7 W7) := Lib.hid (Below.refl _ _)
        clear p0 p1 r0 r1
        have HS1 : (W7.drew.cell? ⟨p, 0, none⟩ = some (.int .i64 x) ∧ W7.drew.cell? ⟨p, 1, none⟩ = some (.int .i64 y) ∧ W7.drew.cell? ⟨r, 0, none⟩ = some (.int .i64 wx) ∧ W7.drew.cell? ⟨r, 1, none⟩ = some (.int .i64 wy)) := KS.out _ (Below.refl _ _).drew
        refine wp_region_noPanic ?_
        refine region_plan [(0, true), (1, true), (2, true), (3, true), (4, true), (5, true), (6, true), (7, true), (8, true), (9, true), (10, true), (11, true), (12, true), (13, true), (14, true), (15, true), (16, true), (17, true), (18, true), (19, true), (20, true), (21, true), (22, true), (23, true), (24, true), (25, true), (26, true), (27, true), (28, true), (29, true), (30, true), (31, true), (32, true), (33, true), (34, true), (35, true), (36, true)] (fun W' => (W'.cell? ⟨p, 0, none⟩ = some (.int .i64 x) ∧ W'.cell? ⟨p, 1, none⟩ = some (.int .i64 y) ∧ W'.cell? ⟨r, 0, none⟩ = some (.int .i64 wx) ∧ W'.cell? ⟨r, 1, none⟩ = some (.int .i64 wy))) (by kernel_rfl) (by kernel_rfl) (by kernel_rfl) (by kernel_rfl) (fun _ _ _ _ _ h => h) ?_
        refine plan_take (.int .i64 n) rfl (by kernel_rfl) (fun W HW => ran_move rfl (by kernel_rfl)) HS1 ?_
        simp only [Act.put, List.setIfInBounds_toArray, List.set_cons_zero, List.set_cons_succ]
        refine plan_take (.bool false) rfl (by kernel_rfl) (fun W HW => ran_bin (vx := (.int .i64 n)) (vy := (.int .i64 0)) rfl (by kernel_rfl) (by kernel_rfl) (g_gtr _ _ _ _ W) (b_gtr d0 W)) HS1 ?_
        simp only [Act.put, List.setIfInBounds_toArray, List.set_cons_zero, List.set_cons_succ]
        refine plan_take (.bool false) rfl (by kernel_rfl) (fun W HW => ran_move rfl (by kernel_rfl)) HS1 ?_
        simp only [Act.put, List.setIfInBounds_toArray, List.set_cons_zero, List.set_cons_succ]
        refine plan_skip rfl (by kernel_rfl) HS1 ?_
        simp only [Act.put, List.setIfInBounds_toArray, List.set_cons_zero, List.set_cons_succ]
        refine plan_skip rfl (by kernel_rfl) HS1 ?_
        simp only [Act.put, List.setIfInBounds_toArray, List.set_cons_zero, List.set_cons_succ]
        refine plan_skip rfl (by kernel_rfl) HS1 ?_
        simp only [Act.put, List.setIfInBounds_toArray, List.set_cons_zero, List.set_cons_succ]
        refine plan_skip rfl (by kernel_rfl) HS1 ?_
        simp only [Act.put, List.setIfInBounds_toArray, List.set_cons_zero, List.set_cons_succ]
        refine plan_skip rfl (by kernel_rfl) HS1 ?_
        simp only [Act.put, List.setIfInBounds_toArray, List.set_cons_zero, List.set_cons_succ]
        refine plan_skip rfl (by kernel_rfl) HS1 ?_
        simp only [Act.put, List.setIfInBounds_toArray, List.set_cons_zero, List.set_cons_succ]
        refine plan_skip rfl (by kernel_rfl) HS1 ?_
        simp only [Act.put, List.setIfInBounds_toArray, List.set_cons_zero, List.set_cons_succ]
        refine plan_skip rfl (by kernel_rfl) HS1 ?_
        simp only [Act.put, List.setIfInBounds_toArray, List.set_cons_zero, List.set_cons_succ]
        refine plan_skip rfl (by kernel_rfl) HS1 ?_
        simp only [Act.put, List.setIfInBounds_toArray, List.set_cons_zero, List.set_cons_succ]
        refine plan_skip rfl (by kernel_rfl) HS1 ?_
        simp only [Act.put, List.setIfInBounds_toArray, List.set_cons_zero, List.set_cons_succ]
        refine plan_skip rfl (by kernel_rfl) HS1 ?_
        simp only [Act.put, List.setIfInBounds_toArray, List.set_cons_zero, List.set_cons_succ]
        refine plan_skip rfl (by kernel_rfl) HS1 ?_
        simp only [Act.put, List.setIfInBounds_toArray, List.set_cons_zero, List.set_cons_succ]
        refine plan_skip rfl (by kernel_rfl) HS1 ?_
        simp only [Act.put, List.setIfInBounds_toArray, List.set_cons_zero, List.set_cons_succ]
        refine plan_skip rfl (by kernel_rfl) HS1 ?_
        simp only [Act.put, List.setIfInBounds_toArray, List.set_cons_zero, List.set_cons_succ]
        refine plan_skip rfl (by kernel_rfl) HS1 ?_
        simp only [Act.put, List.setIfInBounds_toArray, List.set_cons_zero, List.set_cons_succ]
        refine plan_skip rfl (by kernel_rfl) HS1 ?_
        simp only [Act.put, List.setIfInBounds_toArray, List.set_cons_zero, List.set_cons_succ]
        refine plan_skip rfl (by kernel_rfl) HS1 ?_
        simp only [Act.put, List.setIfInBounds_toArray, List.set_cons_zero, List.set_cons_succ]
        refine plan_skip rfl (by kernel_rfl) HS1 ?_
        simp only [Act.put, List.setIfInBounds_toArray, List.set_cons_zero, List.set_cons_succ]
        refine plan_skip rfl (by kernel_rfl) HS1 ?_
        simp only [Act.put, List.setIfInBounds_toArray, List.set_cons_zero, List.set_cons_succ]
        refine plan_skip rfl (by kernel_rfl) HS1 ?_
        simp only [Act.put, List.setIfInBounds_toArray, List.set_cons_zero, List.set_cons_succ]
        refine plan_skip rfl (by kernel_rfl) HS1 ?_
        simp only [Act.put, List.setIfInBounds_toArray, List.set_cons_zero, List.set_cons_succ]
        refine plan_skip rfl (by kernel_rfl) HS1 ?_
        simp only [Act.put, List.setIfInBounds_toArray, List.set_cons_zero, List.set_cons_succ]
        refine plan_skip rfl (by kernel_rfl) HS1 ?_
        simp only [Act.put, List.setIfInBounds_toArray, List.set_cons_zero, List.set_cons_succ]
        refine plan_skip rfl (by kernel_rfl) HS1 ?_
        simp only [Act.put, List.setIfInBounds_toArray, List.set_cons_zero, List.set_cons_succ]
        refine plan_skip rfl (by kernel_rfl) HS1 ?_
        simp only [Act.put, List.setIfInBounds_toArray, List.set_cons_zero, List.set_cons_succ]
        refine plan_skip rfl (by kernel_rfl) HS1 ?_
        simp only [Act.put, List.setIfInBounds_toArray, List.set_cons_zero, List.set_cons_succ]
        refine plan_skip rfl (by kernel_rfl) HS1 ?_
        simp only [Act.put, List.setIfInBounds_toArray, List.set_cons_zero, List.set_cons_succ]
        refine plan_skip rfl (by kernel_rfl) HS1 ?_
        simp only [Act.put, List.setIfInBounds_toArray, List.set_cons_zero, List.set_cons_succ]
        refine plan_skip rfl (by kernel_rfl) HS1 ?_
        simp only [Act.put, List.setIfInBounds_toArray, List.set_cons_zero, List.set_cons_succ]
        refine plan_skip rfl (by kernel_rfl) HS1 ?_
        simp only [Act.put, List.setIfInBounds_toArray, List.set_cons_zero, List.set_cons_succ]
        refine plan_skip rfl (by kernel_rfl) HS1 ?_
        simp only [Act.put, List.setIfInBounds_toArray, List.set_cons_zero, List.set_cons_succ]
        refine plan_skip rfl (by kernel_rfl) HS1 ?_
        simp only [Act.put, List.setIfInBounds_toArray, List.set_cons_zero, List.set_cons_succ]
        refine plan_skip rfl (by kernel_rfl) HS1 ?_
        simp only [Act.put, List.setIfInBounds_toArray, List.set_cons_zero, List.set_cons_succ]
        refine plan_take (.bool false) rfl (by kernel_rfl) (fun W HW => ran_pick (b := false) rfl (by kernel_rfl) (by kernel_rfl)) HS1 ?_
        simp only [Act.put, List.setIfInBounds_toArray, List.set_cons_zero, List.set_cons_succ]
        refine plan_end ?_
        refine NoPanic.normal ?_
        go_wp2
        go_meet
        exact ⟨rfl, HB.out.drew, HS1.1, HS1.2.1⟩
    case rest =>
      clear HB r0 r1 c4 HW
      obtain ⟨rfl, HB2, p0', p1'⟩ := hcut
      have HB := Lib.hid HB2
      clear HB2 p0 p1 hpl
      have p0 := p0'
      have p1 := p1'
      clear p0' p1'
      have hpl := lt_of_cell' p0
      go_upto_region 10 with (first
        | (go_at_call 12; ((with_reducible refine (c5 _).mono ?_); rintro e w9 ⟨rfl, hb⟩; replace p0 := (hb.cell (p := ⟨p, 0, none⟩) (lt_of_cell' p0)).trans p0; replace p1 := (hb.cell (p := ⟨p, 1, none⟩) (lt_of_cell' p1)).trans p1; replace HB := Lib.hid (HB.out.trans (hb.mono HB.out.size)); replace hpl := lt_of_cell' p0; clear hb)))
      obtain ⟨W10, hWW⟩ : ∃ z, (w9.alloc (.cells #[.int .i64 sx, .int .i64 sy] 23)) = z := ⟨_, rfl⟩
      have hb : Below w9.heap.size w9 W10 := by rw [← hWW]; exact (Below.refl _ _).alloc (Nat.le_refl _) _
      obtain ⟨s, hbl⟩ : ∃ z, w9.heap.size = z := ⟨_, rfl⟩
      have s0 : W10.cell? ⟨s, 0, none⟩ = some (.int .i64 sx) := by rw [← hWW, ← hbl]; simp [go_sem]
      have s1 : W10.cell? ⟨s, 1, none⟩ = some (.int .i64 sy) := by rw [← hWW, ← hbl]; simp [go_sem]
      rw [hWW, hbl]
      replace p0 := (hb.cell (p := ⟨p, 0, none⟩) (lt_of_cell' p0)).trans p0
      replace p1 := (hb.cell (p := ⟨p, 1, none⟩) (lt_of_cell' p1)).trans p1
      replace HB := Lib.hid (HB.out.trans (hb.mono HB.out.size))
      replace hpl := lt_of_cell' p0
      clear hb
      clear hWW hbl w9
      go_cut [125] (fun s' wx' => s' = .bool false ∧ Below w.heap.size w wx' ∧ wx'.cell? ⟨p, 0, none⟩ = some (.int .i64 x) ∧ wx'.cell? ⟨p, 1, none⟩ = some (.int .i64 y))
      case first => as_aux_lemma =>
        have hS : (W10.cell? ⟨p, 0, none⟩ = some (.int .i64 x) ∧ W10.cell? ⟨p, 1, none⟩ = some (.int .i64 y) ∧ W10.cell? ⟨s, 0, none⟩ = some (.int .i64 sx) ∧ W10.cell? ⟨s, 1, none⟩ = some (.int .i64 sy)) := ⟨p0, p1, s0, s1⟩
        have KS : Hid (∀ W', Below W10.heap.size W10 W' → (W'.cell? ⟨p, 0, none⟩ = some (.int .i64 x) ∧ W'.cell? ⟨p, 1, none⟩ = some (.int .i64 y) ∧ W'.cell? ⟨s, 0, none⟩ = some (.int .i64 sx) ∧ W'.cell? ⟨s, 1, none⟩ = some (.int .i64 sy))) := Lib.hid (fun W' h => ⟨(h.cell (lt_of_cell' p0)).trans p0, (h.cell (lt_of_cell' p1)).trans p1, (h.cell (lt_of_cell' s0)).trans s0, (h.cell (lt_of_cell' s1)).trans s1⟩)
        have hb : Hid (Below W10.heap.size W10 W10) := Lib.hid (Below.refl _ _)
        have h5 := HS.out
        have a0 : IntKind.i64.wrap (i + 1) = i + 1 := IntWalk.i64_in _ (by omega)
        clear p0 p1 s0 s1 HS HU c5 c7 c8
        by_cases hxd : x = d
        · have e3 : (x == d) = true := by simp [hxd]
          obtain ⟨z, hz⟩ : ∃ z, decide (k < y) = z := ⟨_, rfl⟩
          have e4 : (sx == f) = z := by rw [h5, hz]; simp [hxd]
          clear h5 hxd
          cases z with
          | false =>
            have HS1 : (W10.drew.cell? ⟨p, 0, none⟩ = some (.int .i64 x) ∧ W10.drew.cell? ⟨p, 1, none⟩ = some (.int .i64 y) ∧ W10.drew.cell? ⟨s, 0, none⟩ = some (.int .i64 sx) ∧ W10.drew.cell? ⟨s, 1, none⟩ = some (.int .i64 sy)) := KS.out _ (Below.refl _ _).drew
            refine wp_region_noPanic ?_
            refine region_plan [(0, true), (1, true), (2, true), (3, true), (4, true), (5, true), (7, true), (6, false), (8, true), (9, true), (10, true), (11, true), (12, true), (13, true), (14, true), (15, true), (16, true), (17, true), (18, true), (19, true), (20, true), (21, true), (22, true), (23, true), (24, true), (25, true)] (fun W' => (W'.cell? ⟨p, 0, none⟩ = some (.int .i64 x) ∧ W'.cell? ⟨p, 1, none⟩ = some (.int .i64 y) ∧ W'.cell? ⟨s, 0, none⟩ = some (.int .i64 sx) ∧ W'.cell? ⟨s, 1, none⟩ = some (.int .i64 sy))) (by kernel_rfl) (by kernel_rfl) (by kernel_rfl) (by kernel_rfl) (fun _ _ _ _ _ h => h) ?_
            refine plan_take (.agg #[.int .i64 sx, .int .i64 sy]) rfl (by kernel_rfl) (fun W HW => ran_load (vx := (.pointer (some ⟨s, 0, none⟩))) rfl (by kernel_rfl) (l_pl HW.2.2.1 HW.2.2.2)) HS1 ?_
            simp only [Act.put, List.setIfInBounds_toArray, List.set_cons_zero, List.set_cons_succ]
            refine plan_take (.int .i64 d) rfl (by kernel_rfl) (fun W HW => ran_move rfl (by kernel_rfl)) HS1 ?_
            simp only [Act.put, List.setIfInBounds_toArray, List.set_cons_zero, List.set_cons_succ]
            refine plan_take (.int .i64 f) rfl (by kernel_rfl) (fun W HW => ran_move rfl (by kernel_rfl)) HS1 ?_
            simp only [Act.put, List.setIfInBounds_toArray, List.set_cons_zero, List.set_cons_succ]
            refine plan_take (.int .i64 k) rfl (by kernel_rfl) (fun W HW => ran_move rfl (by kernel_rfl)) HS1 ?_
            simp only [Act.put, List.setIfInBounds_toArray, List.set_cons_zero, List.set_cons_succ]
            refine plan_take (.int .i64 i) rfl (by kernel_rfl) (fun W HW => ran_move rfl (by kernel_rfl)) HS1 ?_
            simp only [Act.put, List.setIfInBounds_toArray, List.set_cons_zero, List.set_cons_succ]
            refine plan_take (.int .i64 (i + 1)) rfl (by kernel_rfl) (fun W HW => ran_bin (vx := (.int .i64 i)) (vy := (.int .i64 1)) rfl (by kernel_rfl) (by kernel_rfl) (g_add _ _ _ _ W) (b_add a0 W)) HS1 ?_
            simp only [Act.put, List.setIfInBounds_toArray, List.set_cons_zero, List.set_cons_succ]
            refine plan_take (.agg #[.int .i64 x, .int .i64 y]) rfl (by kernel_rfl) (fun W HW => ran_load (vx := (.pointer (some ⟨p, 0, none⟩))) rfl (by kernel_rfl) (l_pl HW.1 HW.2.1)) HS1 ?_
            simp only [Act.put, List.setIfInBounds_toArray, List.set_cons_zero, List.set_cons_succ]
            refine plan_call rfl (by kernel_rfl) (ran_call (vs := #[.agg #[.int .i64 sx, .int .i64 sy], .int .i64 d, .int .i64 f, .int .i64 k, .int .i64 20000, .int .i64 (i + 1)]) rfl rfl (by kernel_rfl) (by kernel_rfl) (enters_jot _ _ _ _ _ _ _)) (c6 _) ?_
            rintro e w6 ⟨rfl, hk⟩
            have hg := Lib.hid ((show Below W10.heap.size W10 _ by (repeat (first | (with_reducible exact hb.out) | (with_reducible exact Below.refl _ _) | (with_reducible refine Below.drew ?_) | (with_reducible refine Below.alloc ?_ ?_ _) | omega | (simp <;> omega)))).trans (hk.mono (by (first | omega | (simp; done) | (simp; omega)))))
            have HS2 := KS.out _ hg.out
            refine ⟨_, rfl, HS2, ?_⟩
            clear HS1
            have HS1 := HS2
            clear HS2
            simp only [Act.put, List.setIfInBounds_toArray, List.set_cons_zero, List.set_cons_succ]
            refine plan_take (.bool false) rfl (by kernel_rfl) (fun W HW => ran_bin (vx := (.agg #[.int .i64 x, .int .i64 y])) (vy := (.agg #[.int .i64 x, .int .i64 y])) rfl (by kernel_rfl) (by kernel_rfl) (g_nep _ _ _ _ W) (b_nep _ _ W)) HS1 ?_
            simp only [Act.put, List.setIfInBounds_toArray, List.set_cons_zero, List.set_cons_succ]
            refine plan_take (.bool false) rfl (by kernel_rfl) (fun W HW => ran_move rfl (by kernel_rfl)) HS1 ?_
            simp only [Act.put, List.setIfInBounds_toArray, List.set_cons_zero, List.set_cons_succ]
            refine plan_take (.pointer (some ⟨s, 0, none⟩)) rfl (by kernel_rfl) (fun W HW => ran_field (vx := (.pointer (some ⟨s, 0, none⟩))) rfl (by kernel_rfl) (f_pl0 _ W)) HS1 ?_
            simp only [Act.put, List.setIfInBounds_toArray, List.set_cons_zero, List.set_cons_succ]
            refine plan_take (.int .i64 sx) rfl (by kernel_rfl) (fun W HW => ran_load (vx := (.pointer (some ⟨s, 0, none⟩))) rfl (by kernel_rfl) (l_int HW.2.2.1)) HS1 ?_
            simp only [Act.put, List.setIfInBounds_toArray, List.set_cons_zero, List.set_cons_succ]
            refine plan_take (.int .i64 f) rfl (by kernel_rfl) (fun W HW => ran_move rfl (by kernel_rfl)) HS1 ?_
            simp only [Act.put, List.setIfInBounds_toArray, List.set_cons_zero, List.set_cons_succ]
            refine plan_take (.bool false) rfl (by kernel_rfl) (fun W HW => ran_bin (vx := (.int .i64 sx)) (vy := (.int .i64 f)) rfl (by kernel_rfl) (by kernel_rfl) (g_eqi _ _ _ _ W) (b_eqi e4 W)) HS1 ?_
            simp only [Act.put, List.setIfInBounds_toArray, List.set_cons_zero, List.set_cons_succ]
            refine plan_take (.pointer (some ⟨p, 0, none⟩)) rfl (by kernel_rfl) (fun W HW => ran_field (vx := (.pointer (some ⟨p, 0, none⟩))) rfl (by kernel_rfl) (f_pl0 _ W)) HS1 ?_
            simp only [Act.put, List.setIfInBounds_toArray, List.set_cons_zero, List.set_cons_succ]
            refine plan_take (.int .i64 x) rfl (by kernel_rfl) (fun W HW => ran_load (vx := (.pointer (some ⟨p, 0, none⟩))) rfl (by kernel_rfl) (l_int HW.1)) HS1 ?_
            simp only [Act.put, List.setIfInBounds_toArray, List.set_cons_zero, List.set_cons_succ]
            refine plan_take (.int .i64 d) rfl (by kernel_rfl) (fun W HW => ran_move rfl (by kernel_rfl)) HS1 ?_
            simp only [Act.put, List.setIfInBounds_toArray, List.set_cons_zero, List.set_cons_succ]
            refine plan_take (.bool true) rfl (by kernel_rfl) (fun W HW => ran_bin (vx := (.int .i64 x)) (vy := (.int .i64 d)) rfl (by kernel_rfl) (by kernel_rfl) (g_eqi _ _ _ _ W) (b_eqi e3 W)) HS1 ?_
            simp only [Act.put, List.setIfInBounds_toArray, List.set_cons_zero, List.set_cons_succ]
            refine plan_take (.bool true) rfl (by kernel_rfl) (fun W HW => ran_move rfl (by kernel_rfl)) HS1 ?_
            simp only [Act.put, List.setIfInBounds_toArray, List.set_cons_zero, List.set_cons_succ]
            refine plan_take (.pointer (some ⟨p, 1, none⟩)) rfl (by kernel_rfl) (fun W HW => ran_field (vx := (.pointer (some ⟨p, 0, none⟩))) rfl (by kernel_rfl) (f_pl1 _ W)) HS1 ?_
            simp only [Act.put, List.setIfInBounds_toArray, List.set_cons_zero, List.set_cons_succ]
            refine plan_take (.int .i64 y) rfl (by kernel_rfl) (fun W HW => ran_load (vx := (.pointer (some ⟨p, 1, none⟩))) rfl (by kernel_rfl) (l_int HW.2.1)) HS1 ?_
            simp only [Act.put, List.setIfInBounds_toArray, List.set_cons_zero, List.set_cons_succ]
            refine plan_take (.int .i64 k) rfl (by kernel_rfl) (fun W HW => ran_move rfl (by kernel_rfl)) HS1 ?_
            simp only [Act.put, List.setIfInBounds_toArray, List.set_cons_zero, List.set_cons_succ]
            refine plan_take (.bool false) rfl (by kernel_rfl) (fun W HW => ran_bin (vx := (.int .i64 y)) (vy := (.int .i64 k)) rfl (by kernel_rfl) (by kernel_rfl) (g_gtr _ _ _ _ W) (b_gtr hz W)) HS1 ?_
            simp only [Act.put, List.setIfInBounds_toArray, List.set_cons_zero, List.set_cons_succ]
            refine plan_take (.bool false) rfl (by kernel_rfl) (fun W HW => ran_pick (b := true) rfl (by kernel_rfl) (by kernel_rfl)) HS1 ?_
            simp only [Act.put, List.setIfInBounds_toArray, List.set_cons_zero, List.set_cons_succ]
            refine plan_take (.bool false) rfl (by kernel_rfl) (fun W HW => ran_bin (vx := (.bool false)) (vy := (.bool false)) rfl (by kernel_rfl) (by kernel_rfl) (g_neb _ _ _ _ W) (b_neb _ _ W)) HS1 ?_
            simp only [Act.put, List.setIfInBounds_toArray, List.set_cons_zero, List.set_cons_succ]
            refine plan_take (.bool false) rfl (by kernel_rfl) (fun W HW => ran_pick (b := false) rfl (by kernel_rfl) (by kernel_rfl)) HS1 ?_
            simp only [Act.put, List.setIfInBounds_toArray, List.set_cons_zero, List.set_cons_succ]
            refine plan_end ?_
            refine NoPanic.normal ?_
            go_wp2
            go_meet
            exact ⟨rfl, HB.out.trans (hg.out.mono HB.out.size), HS1.1, HS1.2.1⟩
          | true =>
            have HS1 : (W10.drew.cell? ⟨p, 0, none⟩ = some (.int .i64 x) ∧ W10.drew.cell? ⟨p, 1, none⟩ = some (.int .i64 y) ∧ W10.drew.cell? ⟨s, 0, none⟩ = some (.int .i64 sx) ∧ W10.drew.cell? ⟨s, 1, none⟩ = some (.int .i64 sy)) := KS.out _ (Below.refl _ _).drew
            refine wp_region_noPanic ?_
            refine region_plan [(0, true), (1, true), (2, true), (3, true), (4, true), (5, true), (7, true), (6, false), (8, true), (9, true), (10, true), (11, true), (12, true), (13, true), (14, true), (15, true), (16, true), (17, true), (18, true), (19, true), (20, true), (21, true), (22, true), (23, true), (24, true), (25, true)] (fun W' => (W'.cell? ⟨p, 0, none⟩ = some (.int .i64 x) ∧ W'.cell? ⟨p, 1, none⟩ = some (.int .i64 y) ∧ W'.cell? ⟨s, 0, none⟩ = some (.int .i64 sx) ∧ W'.cell? ⟨s, 1, none⟩ = some (.int .i64 sy))) (by kernel_rfl) (by kernel_rfl) (by kernel_rfl) (by kernel_rfl) (fun _ _ _ _ _ h => h) ?_
            refine plan_take (.agg #[.int .i64 sx, .int .i64 sy]) rfl (by kernel_rfl) (fun W HW => ran_load (vx := (.pointer (some ⟨s, 0, none⟩))) rfl (by kernel_rfl) (l_pl HW.2.2.1 HW.2.2.2)) HS1 ?_
            simp only [Act.put, List.setIfInBounds_toArray, List.set_cons_zero, List.set_cons_succ]
            refine plan_take (.int .i64 d) rfl (by kernel_rfl) (fun W HW => ran_move rfl (by kernel_rfl)) HS1 ?_
            simp only [Act.put, List.setIfInBounds_toArray, List.set_cons_zero, List.set_cons_succ]
            refine plan_take (.int .i64 f) rfl (by kernel_rfl) (fun W HW => ran_move rfl (by kernel_rfl)) HS1 ?_
            simp only [Act.put, List.setIfInBounds_toArray, List.set_cons_zero, List.set_cons_succ]
            refine plan_take (.int .i64 k) rfl (by kernel_rfl) (fun W HW => ran_move rfl (by kernel_rfl)) HS1 ?_
            simp only [Act.put, List.setIfInBounds_toArray, List.set_cons_zero, List.set_cons_succ]
            refine plan_take (.int .i64 i) rfl (by kernel_rfl) (fun W HW => ran_move rfl (by kernel_rfl)) HS1 ?_
            simp only [Act.put, List.setIfInBounds_toArray, List.set_cons_zero, List.set_cons_succ]
            refine plan_take (.int .i64 (i + 1)) rfl (by kernel_rfl) (fun W HW => ran_bin (vx := (.int .i64 i)) (vy := (.int .i64 1)) rfl (by kernel_rfl) (by kernel_rfl) (g_add _ _ _ _ W) (b_add a0 W)) HS1 ?_
            simp only [Act.put, List.setIfInBounds_toArray, List.set_cons_zero, List.set_cons_succ]
            refine plan_take (.agg #[.int .i64 x, .int .i64 y]) rfl (by kernel_rfl) (fun W HW => ran_load (vx := (.pointer (some ⟨p, 0, none⟩))) rfl (by kernel_rfl) (l_pl HW.1 HW.2.1)) HS1 ?_
            simp only [Act.put, List.setIfInBounds_toArray, List.set_cons_zero, List.set_cons_succ]
            refine plan_call rfl (by kernel_rfl) (ran_call (vs := #[.agg #[.int .i64 sx, .int .i64 sy], .int .i64 d, .int .i64 f, .int .i64 k, .int .i64 20000, .int .i64 (i + 1)]) rfl rfl (by kernel_rfl) (by kernel_rfl) (enters_jot _ _ _ _ _ _ _)) (c6 _) ?_
            rintro e w6 ⟨rfl, hk⟩
            have hg := Lib.hid ((show Below W10.heap.size W10 _ by (repeat (first | (with_reducible exact hb.out) | (with_reducible exact Below.refl _ _) | (with_reducible refine Below.drew ?_) | (with_reducible refine Below.alloc ?_ ?_ _) | omega | (simp <;> omega)))).trans (hk.mono (by (first | omega | (simp; done) | (simp; omega)))))
            have HS2 := KS.out _ hg.out
            refine ⟨_, rfl, HS2, ?_⟩
            clear HS1
            have HS1 := HS2
            clear HS2
            simp only [Act.put, List.setIfInBounds_toArray, List.set_cons_zero, List.set_cons_succ]
            refine plan_take (.bool false) rfl (by kernel_rfl) (fun W HW => ran_bin (vx := (.agg #[.int .i64 x, .int .i64 y])) (vy := (.agg #[.int .i64 x, .int .i64 y])) rfl (by kernel_rfl) (by kernel_rfl) (g_nep _ _ _ _ W) (b_nep _ _ W)) HS1 ?_
            simp only [Act.put, List.setIfInBounds_toArray, List.set_cons_zero, List.set_cons_succ]
            refine plan_take (.bool false) rfl (by kernel_rfl) (fun W HW => ran_move rfl (by kernel_rfl)) HS1 ?_
            simp only [Act.put, List.setIfInBounds_toArray, List.set_cons_zero, List.set_cons_succ]
            refine plan_take (.pointer (some ⟨s, 0, none⟩)) rfl (by kernel_rfl) (fun W HW => ran_field (vx := (.pointer (some ⟨s, 0, none⟩))) rfl (by kernel_rfl) (f_pl0 _ W)) HS1 ?_
            simp only [Act.put, List.setIfInBounds_toArray, List.set_cons_zero, List.set_cons_succ]
            refine plan_take (.int .i64 sx) rfl (by kernel_rfl) (fun W HW => ran_load (vx := (.pointer (some ⟨s, 0, none⟩))) rfl (by kernel_rfl) (l_int HW.2.2.1)) HS1 ?_
            simp only [Act.put, List.setIfInBounds_toArray, List.set_cons_zero, List.set_cons_succ]
            refine plan_take (.int .i64 f) rfl (by kernel_rfl) (fun W HW => ran_move rfl (by kernel_rfl)) HS1 ?_
            simp only [Act.put, List.setIfInBounds_toArray, List.set_cons_zero, List.set_cons_succ]
            refine plan_take (.bool true) rfl (by kernel_rfl) (fun W HW => ran_bin (vx := (.int .i64 sx)) (vy := (.int .i64 f)) rfl (by kernel_rfl) (by kernel_rfl) (g_eqi _ _ _ _ W) (b_eqi e4 W)) HS1 ?_
            simp only [Act.put, List.setIfInBounds_toArray, List.set_cons_zero, List.set_cons_succ]
            refine plan_take (.pointer (some ⟨p, 0, none⟩)) rfl (by kernel_rfl) (fun W HW => ran_field (vx := (.pointer (some ⟨p, 0, none⟩))) rfl (by kernel_rfl) (f_pl0 _ W)) HS1 ?_
            simp only [Act.put, List.setIfInBounds_toArray, List.set_cons_zero, List.set_cons_succ]
            refine plan_take (.int .i64 x) rfl (by kernel_rfl) (fun W HW => ran_load (vx := (.pointer (some ⟨p, 0, none⟩))) rfl (by kernel_rfl) (l_int HW.1)) HS1 ?_
            simp only [Act.put, List.setIfInBounds_toArray, List.set_cons_zero, List.set_cons_succ]
            refine plan_take (.int .i64 d) rfl (by kernel_rfl) (fun W HW => ran_move rfl (by kernel_rfl)) HS1 ?_
            simp only [Act.put, List.setIfInBounds_toArray, List.set_cons_zero, List.set_cons_succ]
            refine plan_take (.bool true) rfl (by kernel_rfl) (fun W HW => ran_bin (vx := (.int .i64 x)) (vy := (.int .i64 d)) rfl (by kernel_rfl) (by kernel_rfl) (g_eqi _ _ _ _ W) (b_eqi e3 W)) HS1 ?_
            simp only [Act.put, List.setIfInBounds_toArray, List.set_cons_zero, List.set_cons_succ]
            refine plan_take (.bool true) rfl (by kernel_rfl) (fun W HW => ran_move rfl (by kernel_rfl)) HS1 ?_
            simp only [Act.put, List.setIfInBounds_toArray, List.set_cons_zero, List.set_cons_succ]
            refine plan_take (.pointer (some ⟨p, 1, none⟩)) rfl (by kernel_rfl) (fun W HW => ran_field (vx := (.pointer (some ⟨p, 0, none⟩))) rfl (by kernel_rfl) (f_pl1 _ W)) HS1 ?_
            simp only [Act.put, List.setIfInBounds_toArray, List.set_cons_zero, List.set_cons_succ]
            refine plan_take (.int .i64 y) rfl (by kernel_rfl) (fun W HW => ran_load (vx := (.pointer (some ⟨p, 1, none⟩))) rfl (by kernel_rfl) (l_int HW.2.1)) HS1 ?_
            simp only [Act.put, List.setIfInBounds_toArray, List.set_cons_zero, List.set_cons_succ]
            refine plan_take (.int .i64 k) rfl (by kernel_rfl) (fun W HW => ran_move rfl (by kernel_rfl)) HS1 ?_
            simp only [Act.put, List.setIfInBounds_toArray, List.set_cons_zero, List.set_cons_succ]
            refine plan_take (.bool true) rfl (by kernel_rfl) (fun W HW => ran_bin (vx := (.int .i64 y)) (vy := (.int .i64 k)) rfl (by kernel_rfl) (by kernel_rfl) (g_gtr _ _ _ _ W) (b_gtr hz W)) HS1 ?_
            simp only [Act.put, List.setIfInBounds_toArray, List.set_cons_zero, List.set_cons_succ]
            refine plan_take (.bool true) rfl (by kernel_rfl) (fun W HW => ran_pick (b := true) rfl (by kernel_rfl) (by kernel_rfl)) HS1 ?_
            simp only [Act.put, List.setIfInBounds_toArray, List.set_cons_zero, List.set_cons_succ]
            refine plan_take (.bool false) rfl (by kernel_rfl) (fun W HW => ran_bin (vx := (.bool true)) (vy := (.bool true)) rfl (by kernel_rfl) (by kernel_rfl) (g_neb _ _ _ _ W) (b_neb _ _ W)) HS1 ?_
            simp only [Act.put, List.setIfInBounds_toArray, List.set_cons_zero, List.set_cons_succ]
            refine plan_take (.bool false) rfl (by kernel_rfl) (fun W HW => ran_pick (b := false) rfl (by kernel_rfl) (by kernel_rfl)) HS1 ?_
            simp only [Act.put, List.setIfInBounds_toArray, List.set_cons_zero, List.set_cons_succ]
            refine plan_end ?_
            refine NoPanic.normal ?_
            go_wp2
            go_meet
            exact ⟨rfl, HB.out.trans (hg.out.mono HB.out.size), HS1.1, HS1.2.1⟩
        · have e3 : (x == d) = false := by simp [hxd]
          have e4 : (sx == f) = false := by rw [h5]; simp [hxd]
          clear h5 hxd
          have HS1 : (W10.drew.cell? ⟨p, 0, none⟩ = some (.int .i64 x) ∧ W10.drew.cell? ⟨p, 1, none⟩ = some (.int .i64 y) ∧ W10.drew.cell? ⟨s, 0, none⟩ = some (.int .i64 sx) ∧ W10.drew.cell? ⟨s, 1, none⟩ = some (.int .i64 sy)) := KS.out _ (Below.refl _ _).drew
          refine wp_region_noPanic ?_
          refine region_plan [(0, true), (1, true), (2, true), (3, true), (4, true), (5, true), (7, true), (6, false), (8, true), (9, true), (10, true), (11, true), (12, true), (13, true), (14, true), (15, true), (16, true), (17, true), (18, true), (19, true), (20, true), (21, true), (22, true), (23, true), (24, true), (25, true)] (fun W' => (W'.cell? ⟨p, 0, none⟩ = some (.int .i64 x) ∧ W'.cell? ⟨p, 1, none⟩ = some (.int .i64 y) ∧ W'.cell? ⟨s, 0, none⟩ = some (.int .i64 sx) ∧ W'.cell? ⟨s, 1, none⟩ = some (.int .i64 sy))) (by kernel_rfl) (by kernel_rfl) (by kernel_rfl) (by kernel_rfl) (fun _ _ _ _ _ h => h) ?_
          refine plan_take (.agg #[.int .i64 sx, .int .i64 sy]) rfl (by kernel_rfl) (fun W HW => ran_load (vx := (.pointer (some ⟨s, 0, none⟩))) rfl (by kernel_rfl) (l_pl HW.2.2.1 HW.2.2.2)) HS1 ?_
          simp only [Act.put, List.setIfInBounds_toArray, List.set_cons_zero, List.set_cons_succ]
          refine plan_take (.int .i64 d) rfl (by kernel_rfl) (fun W HW => ran_move rfl (by kernel_rfl)) HS1 ?_
          simp only [Act.put, List.setIfInBounds_toArray, List.set_cons_zero, List.set_cons_succ]
          refine plan_take (.int .i64 f) rfl (by kernel_rfl) (fun W HW => ran_move rfl (by kernel_rfl)) HS1 ?_
          simp only [Act.put, List.setIfInBounds_toArray, List.set_cons_zero, List.set_cons_succ]
          refine plan_take (.int .i64 k) rfl (by kernel_rfl) (fun W HW => ran_move rfl (by kernel_rfl)) HS1 ?_
          simp only [Act.put, List.setIfInBounds_toArray, List.set_cons_zero, List.set_cons_succ]
          refine plan_take (.int .i64 i) rfl (by kernel_rfl) (fun W HW => ran_move rfl (by kernel_rfl)) HS1 ?_
          simp only [Act.put, List.setIfInBounds_toArray, List.set_cons_zero, List.set_cons_succ]
          refine plan_take (.int .i64 (i + 1)) rfl (by kernel_rfl) (fun W HW => ran_bin (vx := (.int .i64 i)) (vy := (.int .i64 1)) rfl (by kernel_rfl) (by kernel_rfl) (g_add _ _ _ _ W) (b_add a0 W)) HS1 ?_
          simp only [Act.put, List.setIfInBounds_toArray, List.set_cons_zero, List.set_cons_succ]
          refine plan_take (.agg #[.int .i64 x, .int .i64 y]) rfl (by kernel_rfl) (fun W HW => ran_load (vx := (.pointer (some ⟨p, 0, none⟩))) rfl (by kernel_rfl) (l_pl HW.1 HW.2.1)) HS1 ?_
          simp only [Act.put, List.setIfInBounds_toArray, List.set_cons_zero, List.set_cons_succ]
          refine plan_call rfl (by kernel_rfl) (ran_call (vs := #[.agg #[.int .i64 sx, .int .i64 sy], .int .i64 d, .int .i64 f, .int .i64 k, .int .i64 20000, .int .i64 (i + 1)]) rfl rfl (by kernel_rfl) (by kernel_rfl) (enters_jot _ _ _ _ _ _ _)) (c6 _) ?_
          rintro e w6 ⟨rfl, hk⟩
          have hg := Lib.hid ((show Below W10.heap.size W10 _ by (repeat (first | (with_reducible exact hb.out) | (with_reducible exact Below.refl _ _) | (with_reducible refine Below.drew ?_) | (with_reducible refine Below.alloc ?_ ?_ _) | omega | (simp <;> omega)))).trans (hk.mono (by (first | omega | (simp; done) | (simp; omega)))))
          have HS2 := KS.out _ hg.out
          refine ⟨_, rfl, HS2, ?_⟩
          clear HS1
          have HS1 := HS2
          clear HS2
          simp only [Act.put, List.setIfInBounds_toArray, List.set_cons_zero, List.set_cons_succ]
          refine plan_take (.bool false) rfl (by kernel_rfl) (fun W HW => ran_bin (vx := (.agg #[.int .i64 x, .int .i64 y])) (vy := (.agg #[.int .i64 x, .int .i64 y])) rfl (by kernel_rfl) (by kernel_rfl) (g_nep _ _ _ _ W) (b_nep _ _ W)) HS1 ?_
          simp only [Act.put, List.setIfInBounds_toArray, List.set_cons_zero, List.set_cons_succ]
          refine plan_take (.bool false) rfl (by kernel_rfl) (fun W HW => ran_move rfl (by kernel_rfl)) HS1 ?_
          simp only [Act.put, List.setIfInBounds_toArray, List.set_cons_zero, List.set_cons_succ]
          refine plan_take (.pointer (some ⟨s, 0, none⟩)) rfl (by kernel_rfl) (fun W HW => ran_field (vx := (.pointer (some ⟨s, 0, none⟩))) rfl (by kernel_rfl) (f_pl0 _ W)) HS1 ?_
          simp only [Act.put, List.setIfInBounds_toArray, List.set_cons_zero, List.set_cons_succ]
          refine plan_take (.int .i64 sx) rfl (by kernel_rfl) (fun W HW => ran_load (vx := (.pointer (some ⟨s, 0, none⟩))) rfl (by kernel_rfl) (l_int HW.2.2.1)) HS1 ?_
          simp only [Act.put, List.setIfInBounds_toArray, List.set_cons_zero, List.set_cons_succ]
          refine plan_take (.int .i64 f) rfl (by kernel_rfl) (fun W HW => ran_move rfl (by kernel_rfl)) HS1 ?_
          simp only [Act.put, List.setIfInBounds_toArray, List.set_cons_zero, List.set_cons_succ]
          refine plan_take (.bool false) rfl (by kernel_rfl) (fun W HW => ran_bin (vx := (.int .i64 sx)) (vy := (.int .i64 f)) rfl (by kernel_rfl) (by kernel_rfl) (g_eqi _ _ _ _ W) (b_eqi e4 W)) HS1 ?_
          simp only [Act.put, List.setIfInBounds_toArray, List.set_cons_zero, List.set_cons_succ]
          refine plan_take (.pointer (some ⟨p, 0, none⟩)) rfl (by kernel_rfl) (fun W HW => ran_field (vx := (.pointer (some ⟨p, 0, none⟩))) rfl (by kernel_rfl) (f_pl0 _ W)) HS1 ?_
          simp only [Act.put, List.setIfInBounds_toArray, List.set_cons_zero, List.set_cons_succ]
          refine plan_take (.int .i64 x) rfl (by kernel_rfl) (fun W HW => ran_load (vx := (.pointer (some ⟨p, 0, none⟩))) rfl (by kernel_rfl) (l_int HW.1)) HS1 ?_
          simp only [Act.put, List.setIfInBounds_toArray, List.set_cons_zero, List.set_cons_succ]
          refine plan_take (.int .i64 d) rfl (by kernel_rfl) (fun W HW => ran_move rfl (by kernel_rfl)) HS1 ?_
          simp only [Act.put, List.setIfInBounds_toArray, List.set_cons_zero, List.set_cons_succ]
          refine plan_take (.bool false) rfl (by kernel_rfl) (fun W HW => ran_bin (vx := (.int .i64 x)) (vy := (.int .i64 d)) rfl (by kernel_rfl) (by kernel_rfl) (g_eqi _ _ _ _ W) (b_eqi e3 W)) HS1 ?_
          simp only [Act.put, List.setIfInBounds_toArray, List.set_cons_zero, List.set_cons_succ]
          refine plan_take (.bool false) rfl (by kernel_rfl) (fun W HW => ran_move rfl (by kernel_rfl)) HS1 ?_
          simp only [Act.put, List.setIfInBounds_toArray, List.set_cons_zero, List.set_cons_succ]
          refine plan_skip rfl (by kernel_rfl) HS1 ?_
          simp only [Act.put, List.setIfInBounds_toArray, List.set_cons_zero, List.set_cons_succ]
          refine plan_skip rfl (by kernel_rfl) HS1 ?_
          simp only [Act.put, List.setIfInBounds_toArray, List.set_cons_zero, List.set_cons_succ]
          refine plan_skip rfl (by kernel_rfl) HS1 ?_
          simp only [Act.put, List.setIfInBounds_toArray, List.set_cons_zero, List.set_cons_succ]
          refine plan_skip rfl (by kernel_rfl) HS1 ?_
          simp only [Act.put, List.setIfInBounds_toArray, List.set_cons_zero, List.set_cons_succ]
          refine plan_take (.bool false) rfl (by kernel_rfl) (fun W HW => ran_pick (b := false) rfl (by kernel_rfl) (by kernel_rfl)) HS1 ?_
          simp only [Act.put, List.setIfInBounds_toArray, List.set_cons_zero, List.set_cons_succ]
          refine plan_take (.bool false) rfl (by kernel_rfl) (fun W HW => ran_bin (vx := (.bool false)) (vy := (.bool false)) rfl (by kernel_rfl) (by kernel_rfl) (g_neb _ _ _ _ W) (b_neb _ _ W)) HS1 ?_
          simp only [Act.put, List.setIfInBounds_toArray, List.set_cons_zero, List.set_cons_succ]
          refine plan_take (.bool false) rfl (by kernel_rfl) (fun W HW => ran_pick (b := false) rfl (by kernel_rfl) (by kernel_rfl)) HS1 ?_
          simp only [Act.put, List.setIfInBounds_toArray, List.set_cons_zero, List.set_cons_succ]
          refine plan_end ?_
          refine NoPanic.normal ?_
          go_wp2
          go_meet
          exact ⟨rfl, HB.out.trans (hg.out.mono HB.out.size), HS1.1, HS1.2.1⟩
      case rest =>
        clear HB s0 s1 c5 c6 HS
        obtain ⟨rfl, HB2, p0', p1'⟩ := hcut
        have HB := Lib.hid HB2
        clear HB2 p0 p1 hpl
        have p0 := p0'
        have p1 := p1'
        clear p0' p1'
        have hpl := lt_of_cell' p0
        go_upto_region 13 with (first
          | (go_at_call 14; ((with_reducible refine (cT _ _ _).mono ?_); rintro e w11 ⟨rfl, hb⟩; replace p0 := (hb.cell (p := ⟨p, 0, none⟩) (lt_of_cell' p0)).trans p0; replace p1 := (hb.cell (p := ⟨p, 1, none⟩) (lt_of_cell' p1)).trans p1; replace HB := Lib.hid (HB.out.trans (hb.mono HB.out.size)); replace hpl := lt_of_cell' p0; clear hb))
          | (go_at_call 12; ((with_reducible refine (c7 _).mono ?_); rintro e w11 ⟨rfl, hb⟩; replace p0 := (hb.cell (p := ⟨p, 0, none⟩) (lt_of_cell' p0)).trans p0; replace p1 := (hb.cell (p := ⟨p, 1, none⟩) (lt_of_cell' p1)).trans p1; replace HB := Lib.hid (HB.out.trans (hb.mono HB.out.size)); replace hpl := lt_of_cell' p0; clear hb)))
        obtain ⟨W13, hWW⟩ : ∃ z, (w11.alloc (.cells #[.int .i64 20000, .int .i64 uy] 23)) = z := ⟨_, rfl⟩
        have hb : Below w11.heap.size w11 W13 := by rw [← hWW]; exact (Below.refl _ _).alloc (Nat.le_refl _) _
        obtain ⟨u, hbl⟩ : ∃ z, w11.heap.size = z := ⟨_, rfl⟩
        have u0 : W13.cell? ⟨u, 0, none⟩ = some (.int .i64 20000) := by rw [← hWW, ← hbl]; simp [go_sem]
        have u1 : W13.cell? ⟨u, 1, none⟩ = some (.int .i64 uy) := by rw [← hWW, ← hbl]; simp [go_sem]
        rw [hWW, hbl]
        replace p0 := (hb.cell (p := ⟨p, 0, none⟩) (lt_of_cell' p0)).trans p0
        replace p1 := (hb.cell (p := ⟨p, 1, none⟩) (lt_of_cell' p1)).trans p1
        replace HB := Lib.hid (HB.out.trans (hb.mono HB.out.size))
        replace hpl := lt_of_cell' p0
        clear hb
        clear hWW hbl w11
        have hS : (W13.cell? ⟨p, 0, none⟩ = some (.int .i64 x) ∧ W13.cell? ⟨p, 1, none⟩ = some (.int .i64 y) ∧ W13.cell? ⟨u, 0, none⟩ = some (.int .i64 20000) ∧ W13.cell? ⟨u, 1, none⟩ = some (.int .i64 uy)) := ⟨p0, p1, u0, u1⟩
        have KS : Hid (∀ W', Below W13.heap.size W13 W' → (W'.cell? ⟨p, 0, none⟩ = some (.int .i64 x) ∧ W'.cell? ⟨p, 1, none⟩ = some (.int .i64 y) ∧ W'.cell? ⟨u, 0, none⟩ = some (.int .i64 20000) ∧ W'.cell? ⟨u, 1, none⟩ = some (.int .i64 uy))) := Lib.hid (fun W' h => ⟨(h.cell (lt_of_cell' p0)).trans p0, (h.cell (lt_of_cell' p1)).trans p1, (h.cell (lt_of_cell' u0)).trans u0, (h.cell (lt_of_cell' u1)).trans u1⟩)
        have hb : Hid (Below W13.heap.size W13 W13) := Lib.hid (Below.refl _ _)
        obtain ⟨h6, h7⟩ := HU.out
        have u3 : (uy == i + 1) = false := by simpa using h7
        have u4 : decide (uy = i + 1) = false := decide_eq_false h7
        have a0 : IntKind.i64.wrap (i + 1) = i + 1 := IntWalk.i64_in _ (by omega)
        clear p0 p1 u0 u1 HU c7 h7
        obtain ⟨z, hz⟩ : ∃ z, decide (y ≤ i) = z := ⟨_, rfl⟩
        rw [hz] at h6
        cases z with
        | true =>
          have h8 : y = uy := (of_decide_eq_true h6).symm
          clear h6
          subst h8
          go_region_held3 (fun W' => (W'.cell? ⟨p, 0, none⟩ = some (.int .i64 x) ∧ W'.cell? ⟨p, 1, none⟩ = some (.int .i64 y) ∧ W'.cell? ⟨u, 0, none⟩ = some (.int .i64 20000) ∧ W'.cell? ⟨u, 1, none⟩ = some (.int .i64 y))) (first | (with_reducible exact hS) | exact KS.out _ (by (repeat (first | (with_reducible exact hb.out) | (with_reducible exact Below.refl _ _) | (with_reducible refine Below.drew ?_) | (with_reducible refine Below.alloc ?_ ?_ _) | omega | (simp <;> omega))))) (first
            | (go_at_call 14; ((with_reducible refine (cT _ _ _).mono ?_); rintro e w6 ⟨rfl, hb2⟩; have hd2 := Lib.hid ((show Below W13.heap.size W13 _ by (repeat (first | (with_reducible exact hb.out) | (with_reducible exact Below.refl _ _) | (with_reducible refine Below.drew ?_) | (with_reducible refine Below.alloc ?_ ?_ _) | omega | (simp <;> omega)))).trans (hb2.mono (by (first | omega | (simp; done) | exact hb.out.size | (simp; exact hb.out.size) | (simp; omega))))); clear hb hb2; have hb := hd2; clear hd2; replace hS := KS.out _ hb.out))
            | (go_at_call 13; ((with_reducible refine (c8 _).mono ?_); rintro e w6 ⟨rfl, hb2⟩; have hd2 := Lib.hid ((show Below W13.heap.size W13 _ by (repeat (first | (with_reducible exact hb.out) | (with_reducible exact Below.refl _ _) | (with_reducible refine Below.drew ?_) | (with_reducible refine Below.alloc ?_ ?_ _) | omega | (simp <;> omega)))).trans (hb2.mono (by (first | omega | (simp; done) | exact hb.out.size | (simp; exact hb.out.size) | (simp; omega))))); clear hb hb2; have hb := hd2; clear hd2; replace hS := KS.out _ hb.out))
            | (go_at_call 7; ((with_reducible refine (haw _).mono ?_); rintro e w6 ⟨rfl, hb2⟩; have hd2 := Lib.hid ((show Below W13.heap.size W13 _ by (repeat (first | (with_reducible exact hb.out) | (with_reducible exact Below.refl _ _) | (with_reducible refine Below.drew ?_) | (with_reducible refine Below.alloc ?_ ?_ _) | omega | (simp <;> omega)))).trans (hb2.mono (by (first | omega | (simp; done) | exact hb.out.size | (simp; exact hb.out.size) | (simp; omega))))); clear hb hb2; have hb := hd2; clear hd2; replace hS := KS.out _ hb.out)))
          all_goals go_wp2_with fail
          all_goals go_ret
          all_goals exact ⟨rfl, HB.out.trans ((show Below W13.heap.size W13 _ by (repeat (first | (with_reducible exact hb.out) | (with_reducible exact Below.refl _ _) | (with_reducible refine Below.drew ?_) | (with_reducible refine Below.alloc ?_ ?_ _) | omega | (simp <;> omega)))).mono HB.out.size)⟩
        | false =>
          have h8 : (uy == y) = false := by simpa using of_decide_eq_false h6
          go_region_held3 (fun W' => (W'.cell? ⟨p, 0, none⟩ = some (.int .i64 x) ∧ W'.cell? ⟨p, 1, none⟩ = some (.int .i64 y) ∧ W'.cell? ⟨u, 0, none⟩ = some (.int .i64 20000) ∧ W'.cell? ⟨u, 1, none⟩ = some (.int .i64 uy))) (first | (with_reducible exact hS) | exact KS.out _ (by (repeat (first | (with_reducible exact hb.out) | (with_reducible exact Below.refl _ _) | (with_reducible refine Below.drew ?_) | (with_reducible refine Below.alloc ?_ ?_ _) | omega | (simp <;> omega))))) (first
            | (go_at_call 14; ((with_reducible refine (cT _ _ _).mono ?_); rintro e w6 ⟨rfl, hb2⟩; have hd2 := Lib.hid ((show Below W13.heap.size W13 _ by (repeat (first | (with_reducible exact hb.out) | (with_reducible exact Below.refl _ _) | (with_reducible refine Below.drew ?_) | (with_reducible refine Below.alloc ?_ ?_ _) | omega | (simp <;> omega)))).trans (hb2.mono (by (first | omega | (simp; done) | exact hb.out.size | (simp; exact hb.out.size) | (simp; omega))))); clear hb hb2; have hb := hd2; clear hd2; replace hS := KS.out _ hb.out))
            | (go_at_call 13; ((with_reducible refine (c8 _).mono ?_); rintro e w6 ⟨rfl, hb2⟩; have hd2 := Lib.hid ((show Below W13.heap.size W13 _ by (repeat (first | (with_reducible exact hb.out) | (with_reducible exact Below.refl _ _) | (with_reducible refine Below.drew ?_) | (with_reducible refine Below.alloc ?_ ?_ _) | omega | (simp <;> omega)))).trans (hb2.mono (by (first | omega | (simp; done) | exact hb.out.size | (simp; exact hb.out.size) | (simp; omega))))); clear hb hb2; have hb := hd2; clear hd2; replace hS := KS.out _ hb.out))
            | (go_at_call 7; ((with_reducible refine (haw _).mono ?_); rintro e w6 ⟨rfl, hb2⟩; have hd2 := Lib.hid ((show Below W13.heap.size W13 _ by (repeat (first | (with_reducible exact hb.out) | (with_reducible exact Below.refl _ _) | (with_reducible refine Below.drew ?_) | (with_reducible refine Below.alloc ?_ ?_ _) | omega | (simp <;> omega)))).trans (hb2.mono (by (first | omega | (simp; done) | exact hb.out.size | (simp; exact hb.out.size) | (simp; omega))))); clear hb hb2; have hb := hd2; clear hd2; replace hS := KS.out _ hb.out)))
          all_goals go_wp2_with fail
          all_goals go_ret
          all_goals exact ⟨rfl, HB.out.trans ((show Below W13.heap.size W13 _ by (repeat (first | (with_reducible exact hb.out) | (with_reducible exact Below.refl _ _) | (with_reducible refine Below.drew ?_) | (with_reducible refine Below.alloc ?_ ?_ _) | omega | (simp <;> omega)))).mono HB.out.size)⟩

end Go.Proofs.Ytfjngijmncbnbaa
