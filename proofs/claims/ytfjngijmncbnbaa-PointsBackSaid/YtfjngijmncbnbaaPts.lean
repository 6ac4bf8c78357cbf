/-
  The functions of points, where no number is beyond.
-/
import Derived.Test.YtfjngijmncbnbaaWorkN
import Derived.Deep.Fields
namespace Go.Proofs.Ytfjngijmncbnbaa
open Go.RowKit Go.Lib

def insP (x y p a n : Int) : Int × Int := if (decide (x = p) && decide (a < y)) = true then (x, y + n) else (x, y)

set_option maxRecDepth 20000 in
set_option maxHeartbeats 4000000 in
theorem ins_any (w : World) (x y p a n : Int) (hx : InR x) (hy : InR y) (hp : InR p) (ha : InR a) (hn : InR n) :
    Calls Try.prog 9 #[.agg #[.int .i64 x, .int .i64 y], .int .i64 p, .int .i64 a, .int .i64 n] w fun e w' => e = .returned (.agg #[.int .i64 (insP x y p a n).1, .int .i64 (insP x y p a n).2]) ∧ Below w.heap.size w w' := by
  have cW := work3_any x y p a n hx hy hp ha hn
  have cB0 := fun w q h => above_any w q x y p a h
  obtain ⟨x1, x2⟩ := hx
  obtain ⟨y1, y2⟩ := hy
  obtain ⟨p1, p2⟩ := hp
  obtain ⟨a1, a2⟩ := ha
  obtain ⟨n1, n2⟩ := hn
  unfold insP
  obtain ⟨B0, hB0⟩ : ∃ B, (decide (x = p) && decide (a < y)) = B := ⟨_, rfl⟩
  rw [hB0] at cB0 ⊢
  clear hB0
  cases B0 <;>
  ( go_enter Try.func9, Try.ntmps9
    go_wp2_with (first
      | (go_at_call 17; ((with_reducible refine (cW _ _ (by simp [go_sem]) (by simp [go_sem]) (by simp [go_sem]) (by simp)).mono ?_); rintro e w1 ⟨q, rfl, hq, hk, hb⟩; have hk := hk; (try simp at hq); have hqB : w.heap.size + 1 < q := (by omega); have hqN : q ≠ w.heap.size + 1 := (by omega); have hqM : w.heap.size + 1 ≠ q := (by omega); have hq1 := lt_of_cell' hk.c0; have s0 := (hb.cell (p := ⟨w.heap.size + 1, 0, none⟩) (by simp)); have s1 := (hb.cell (p := ⟨w.heap.size + 1, 1, none⟩) (by simp)); have t0 := (hb.frozen (p := ⟨w.heap.size + 1, 0, none⟩) (by simp)); have t1 := (hb.frozen (p := ⟨w.heap.size + 1, 1, none⟩) (by simp)); simp [go_sem] at s0 s1 t0 t1; have hz := hb.size; simp at hz; have HB := Lib.hid ((show Below w.heap.size w _ by (repeat (first | (with_reducible exact Below.refl _ _) | (with_reducible refine Below.drew ?_) | (with_reducible refine Below.alloc ?_ ?_ _) | (with_reducible refine Below.setCell ?_ ?_ _) | omega | (simp <;> omega)))).trans (hb.mono (by simp <;> omega))); clear hb; have hwb := lt_of_cell' s0; obtain ⟨k0, k1, k2, k3, k4⟩ := hk))
      | (go_at_call 19; ((with_reducible refine (cB0 _ _ ⟨k0, k1, k2, k3, k4⟩).mono ?_); rintro e w2 ⟨rfl, rfl⟩)))
    all_goals refine bodyPost_ret (v := .agg #[.int .i64 _, .int .i64 _]) (by simp [results, Try.results9, go_sem, *]; done) rfl ⟨rfl, ?_⟩
    all_goals (repeat (first | (with_reducible exact HB.out) | (with_reducible exact Below.refl _ _) | (with_reducible refine Below.drew ?_) | (with_reducible refine Below.alloc ?_ ?_ _) | (with_reducible refine Below.setCell ?_ ?_ _) | omega | (simp <;> omega))) )

def remP (x y p a : Int) (i : Bool) : Int × Int := if i = true then (p, a) else if (decide (x = p) && decide (a < y)) = true then (x, y - 1) else (x, y)

set_option maxRecDepth 20000 in
set_option maxHeartbeats 4000000 in
theorem rem_any (w : World) (x y p a : Int) (i : Bool) (hx : InR x) (hy : InR y) (hp : InR p) (ha : InR a) :
    Calls Try.prog 8 #[.agg #[.int .i64 x, .int .i64 y], .int .i64 p, .int .i64 a, .bool i] w fun e w' => e = .returned (.agg #[.int .i64 (remP x y p a i).1, .int .i64 (remP x y p a i).2]) ∧ Below w.heap.size w w' := by
  have cW := work2_any x y p a hx hy hp ha
  have cB0 := fun w q h => above_any w q x y p a h
  have cP0 := fun w q h => put_any w q x y p a h
  obtain ⟨x1, x2⟩ := hx
  obtain ⟨y1, y2⟩ := hy
  obtain ⟨p1, p2⟩ := hp
  obtain ⟨a1, a2⟩ := ha
  unfold remP
  obtain ⟨B0, hB0⟩ : ∃ B, (decide (x = p) && decide (a < y)) = B := ⟨_, rfl⟩
  rw [hB0] at cB0 ⊢
  clear hB0
  cases B0 <;>
  cases i <;>
  ( go_enter Try.func8, Try.ntmps8
    go_wp2_with (first
      | (go_at_call 17; ((with_reducible refine (cW _ _ (by simp [go_sem]) (by simp [go_sem]) (by simp)).mono ?_); rintro e w1 ⟨q, rfl, hq, hk, hb⟩; have hk := hk; (try simp at hq); have hqB : w.heap.size + 1 < q := (by omega); have hqN : q ≠ w.heap.size + 1 := (by omega); have hqM : w.heap.size + 1 ≠ q := (by omega); have hq1 := lt_of_cell' hk.c0; have s0 := (hb.cell (p := ⟨w.heap.size + 1, 0, none⟩) (by simp)); have s1 := (hb.cell (p := ⟨w.heap.size + 1, 1, none⟩) (by simp)); have t0 := (hb.frozen (p := ⟨w.heap.size + 1, 0, none⟩) (by simp)); have t1 := (hb.frozen (p := ⟨w.heap.size + 1, 1, none⟩) (by simp)); simp [go_sem] at s0 s1 t0 t1; have hz := hb.size; simp at hz; have HB := Lib.hid ((show Below w.heap.size w _ by (repeat (first | (with_reducible exact Below.refl _ _) | (with_reducible refine Below.drew ?_) | (with_reducible refine Below.alloc ?_ ?_ _) | (with_reducible refine Below.setCell ?_ ?_ _) | omega | (simp <;> omega)))).trans (hb.mono (by simp <;> omega))); clear hb; have hwb := lt_of_cell' s0; obtain ⟨k0, k1, k2, k3, k4⟩ := hk))
      | (go_at_call 19; ((with_reducible refine (cB0 _ _ ⟨k0, k1, k2, k3, k4⟩).mono ?_); rintro e w2 ⟨rfl, rfl⟩))
      | (go_at_call 18; ((with_reducible refine (cP0 _ _ ⟨k0, k1, k2, k3, k4⟩).mono ?_); rintro e w3 ⟨rfl, hk3, hc3, hf3, hs3, hb3⟩; replace s0 := (hc3 ⟨w.heap.size + 1, 0, none⟩ hqM).trans s0; replace s1 := (hc3 ⟨w.heap.size + 1, 1, none⟩ hqM).trans s1; replace t0 := (hf3 ⟨w.heap.size + 1, 0, none⟩ hqM).trans t0; replace t1 := (hf3 ⟨w.heap.size + 1, 1, none⟩ hqM).trans t1; replace HB := Lib.hid (HB.out.trans (hb3 _ (by omega))); replace hwb := lt_of_cell' s0; clear k0 k1 k2 k3 k4; obtain ⟨k0, k1, k2, k3, k4⟩ := hk3; clear hc3 hf3 hb3)))
    all_goals refine bodyPost_ret (v := .agg #[.int .i64 _, .int .i64 _]) (by simp [results, Try.results8, go_sem, *]; done) rfl ⟨rfl, ?_⟩
    all_goals (repeat (first | (with_reducible exact HB.out) | (with_reducible exact Below.refl _ _) | (with_reducible refine Below.drew ?_) | (with_reducible refine Below.alloc ?_ ?_ _) | (with_reducible refine Below.setCell ?_ ?_ _) | omega | (simp <;> omega))) )

def repP (x y t a c n : Int) : Int × Int := if (decide (x = t) && decide (a < y)) = true then (if decide (c < y - a) = true then (x, y + (n - c)) else (x, a)) else (x, y)

set_option maxRecDepth 20000 in
set_option maxHeartbeats 4000000 in
theorem rep_any (w : World) (x y t a c n : Int) (hx : InR x) (hy : InR y) (ht : InR t) (ha : InR a) (hc : InR c) (hn : InR n) :
    Calls Try.prog 15 #[.agg #[.int .i64 x, .int .i64 y], .int .i64 t, .int .i64 a, .int .i64 c, .int .i64 n] w fun e w' => e = .returned (.agg #[.int .i64 (repP x y t a c n).1, .int .i64 (repP x y t a c n).2]) ∧ Below w.heap.size w w' := by
  have cW := work4_any x y t a c n hx hy ht ha hc hn
  have cB0 := fun w q h => above_any w q x y t a h
  obtain ⟨x1, x2⟩ := hx
  obtain ⟨y1, y2⟩ := hy
  obtain ⟨t1, t2⟩ := ht
  obtain ⟨a1, a2⟩ := ha
  obtain ⟨c1, c2⟩ := hc
  obtain ⟨n1, n2⟩ := hn
  unfold repP
  obtain ⟨B0, hB0⟩ : ∃ B, (decide (x = t) && decide (a < y)) = B := ⟨_, rfl⟩
  rw [hB0] at cB0 ⊢
  clear hB0
  obtain ⟨B1, hB1⟩ : ∃ B, decide (c < y - a) = B := ⟨_, rfl⟩
  rw [hB1]
  cases B0 <;>
  cases B1 <;>
  ( have hT1 := hB1; simp only [decide_eq_true_eq, decide_eq_false_iff_not] at hT1
    go_enter Try.func15, Try.ntmps15
    go_wp2_with (first
      | (go_at_call 17; ((with_reducible refine (cW _ _ (by simp [go_sem]) (by simp [go_sem]) (by simp [go_sem]) (by simp [go_sem]) (by simp)).mono ?_); rintro e w1 ⟨q, rfl, hq, hk, hb⟩; have hk := hk; (try simp at hq); have hqB : w.heap.size + 1 < q := (by omega); have hqN : q ≠ w.heap.size + 1 := (by omega); have hqM : w.heap.size + 1 ≠ q := (by omega); have hq1 := lt_of_cell' hk.c0; have s0 := (hb.cell (p := ⟨w.heap.size + 1, 0, none⟩) (by simp)); have s1 := (hb.cell (p := ⟨w.heap.size + 1, 1, none⟩) (by simp)); have t0 := (hb.frozen (p := ⟨w.heap.size + 1, 0, none⟩) (by simp)); have t1 := (hb.frozen (p := ⟨w.heap.size + 1, 1, none⟩) (by simp)); simp [go_sem] at s0 s1 t0 t1; have hz := hb.size; simp at hz; have HB := Lib.hid ((show Below w.heap.size w _ by (repeat (first | (with_reducible exact Below.refl _ _) | (with_reducible refine Below.drew ?_) | (with_reducible refine Below.alloc ?_ ?_ _) | (with_reducible refine Below.setCell ?_ ?_ _) | omega | (simp <;> omega)))).trans (hb.mono (by simp <;> omega))); clear hb; have hwb := lt_of_cell' s0; obtain ⟨k0, k1, k2, k3, k4⟩ := hk))
      | (go_at_call 19; ((with_reducible refine (cB0 _ _ ⟨k0, k1, k2, k3, k4⟩).mono ?_); rintro e w2 ⟨rfl, rfl⟩)))
    all_goals refine bodyPost_ret (v := .agg #[.int .i64 _, .int .i64 _]) (by simp [results, Try.results15, go_sem, *]; done) rfl ⟨rfl, ?_⟩
    all_goals (repeat (first | (with_reducible exact HB.out) | (with_reducible exact Below.refl _ _) | (with_reducible refine Below.drew ?_) | (with_reducible refine Below.alloc ?_ ?_ _) | (with_reducible refine Below.setCell ?_ ?_ _) | omega | (simp <;> omega))) )

def sptP (x y t a f p i : Int) : Int × Int := if (decide (x = t) && decide (a < y)) = true then (f, y - a) else if decide (p < 0) = true then (x, y) else if (decide (x = p) && decide (i < y)) = true then (x, y + 1) else (x, y)

set_option maxRecDepth 20000 in
set_option maxHeartbeats 4000000 in
theorem spt_any (w : World) (x y t a f p i : Int) (hx : InR x) (hy : InR y) (ht : InR t) (ha : InR a) (hf : InR f) (hp : InR p) (hi : InR i) :
    Calls Try.prog 12 #[.agg #[.int .i64 x, .int .i64 y], .int .i64 t, .int .i64 a, .int .i64 f, .int .i64 p, .int .i64 i] w fun e w' => e = .returned (.agg #[.int .i64 (sptP x y t a f p i).1, .int .i64 (sptP x y t a f p i).2]) ∧ Below w.heap.size w w' := by
  have cW := work5_any x y t a f p i hx hy ht ha hf hp hi
  have cB0 := fun w q h => above_any w q x y t a h
  have cB2 := fun w q h => above_any w q x y p i h
  have cP0 := fun w q h => put_any w q x y f (y - a) h
  obtain ⟨x1, x2⟩ := hx
  obtain ⟨y1, y2⟩ := hy
  obtain ⟨t1, t2⟩ := ht
  obtain ⟨a1, a2⟩ := ha
  obtain ⟨f1, f2⟩ := hf
  obtain ⟨p1, p2⟩ := hp
  obtain ⟨i1, i2⟩ := hi
  unfold sptP
  obtain ⟨B0, hB0⟩ : ∃ B, (decide (x = t) && decide (a < y)) = B := ⟨_, rfl⟩
  rw [hB0] at cB0 ⊢
  clear hB0
  obtain ⟨B1, hB1⟩ : ∃ B, decide (p < 0) = B := ⟨_, rfl⟩
  rw [hB1]
  obtain ⟨B2, hB2⟩ : ∃ B, (decide (x = p) && decide (i < y)) = B := ⟨_, rfl⟩
  rw [hB2] at cB2 ⊢
  clear hB2
  cases B0 <;>
  cases B1 <;>
  cases B2 <;>
  ( have hT1 := hB1; simp only [decide_eq_true_eq, decide_eq_false_iff_not] at hT1
    go_enter Try.func12, Try.ntmps12
    go_wp2_with (first
      | (go_at_call 17; ((with_reducible refine (cW _ _ (by simp [go_sem]) (by simp [go_sem]) (by simp [go_sem]) (by simp [go_sem]) (by simp [go_sem]) (by simp)).mono ?_); rintro e w1 ⟨q, rfl, hq, hk, hb⟩; have hk := hk; (try simp at hq); have hqB : w.heap.size + 1 < q := (by omega); have hqN : q ≠ w.heap.size + 1 := (by omega); have hqM : w.heap.size + 1 ≠ q := (by omega); have hq1 := lt_of_cell' hk.c0; have s0 := (hb.cell (p := ⟨w.heap.size + 1, 0, none⟩) (by simp)); have s1 := (hb.cell (p := ⟨w.heap.size + 1, 1, none⟩) (by simp)); have t0 := (hb.frozen (p := ⟨w.heap.size + 1, 0, none⟩) (by simp)); have t1 := (hb.frozen (p := ⟨w.heap.size + 1, 1, none⟩) (by simp)); simp [go_sem] at s0 s1 t0 t1; have hz := hb.size; simp at hz; have HB := Lib.hid ((show Below w.heap.size w _ by (repeat (first | (with_reducible exact Below.refl _ _) | (with_reducible refine Below.drew ?_) | (with_reducible refine Below.alloc ?_ ?_ _) | (with_reducible refine Below.setCell ?_ ?_ _) | omega | (simp <;> omega)))).trans (hb.mono (by simp <;> omega))); clear hb; have hwb := lt_of_cell' s0; obtain ⟨k0, k1, k2, k3, k4⟩ := hk))
      | (go_at_call 19; ((with_reducible refine (cB0 _ _ ⟨k0, k1, k2, k3, k4⟩).mono ?_); rintro e w2 ⟨rfl, rfl⟩))
      | (go_at_call 19; ((with_reducible refine (cB2 _ _ ⟨k0, k1, k2, k3, k4⟩).mono ?_); rintro e w2 ⟨rfl, rfl⟩))
      | (go_at_call 18; ((with_reducible refine (cP0 _ _ ⟨k0, k1, k2, k3, k4⟩).mono ?_); rintro e w3 ⟨rfl, hk3, hc3, hf3, hs3, hb3⟩; replace s0 := (hc3 ⟨w.heap.size + 1, 0, none⟩ hqM).trans s0; replace s1 := (hc3 ⟨w.heap.size + 1, 1, none⟩ hqM).trans s1; replace t0 := (hf3 ⟨w.heap.size + 1, 0, none⟩ hqM).trans t0; replace t1 := (hf3 ⟨w.heap.size + 1, 1, none⟩ hqM).trans t1; replace HB := Lib.hid (HB.out.trans (hb3 _ (by omega))); replace hwb := lt_of_cell' s0; clear k0 k1 k2 k3 k4; obtain ⟨k0, k1, k2, k3, k4⟩ := hk3; clear hc3 hf3 hb3)))
    all_goals refine bodyPost_ret (v := .agg #[.int .i64 _, .int .i64 _]) (by simp [results, Try.results12, go_sem, *]; done) rfl ⟨rfl, ?_⟩
    all_goals (repeat (first | (with_reducible exact HB.out) | (with_reducible exact Below.refl _ _) | (with_reducible refine Below.drew ?_) | (with_reducible refine Below.alloc ?_ ?_ _) | (with_reducible refine Below.setCell ?_ ?_ _) | omega | (simp <;> omega))) )

def jotP (x y t o n p i : Int) : Int × Int := if decide (x = o) = true then (t, n + y) else if (decide (x = p) && decide (i < y)) = true then (x, y - 1) else if decide (x = p) = true then (if decide (y = i) = true then (t, n) else (x, y)) else (x, y)

set_option maxRecDepth 20000 in
set_option maxHeartbeats 4000000 in
theorem jot_any (w : World) (x y t o n p i : Int) (hx : InR x) (hy : InR y) (ht : InR t) (ho : InR o) (hn : InR n) (hp : InR p) (hi : InR i) :
    Calls Try.prog 13 #[.agg #[.int .i64 x, .int .i64 y], .int .i64 t, .int .i64 o, .int .i64 n, .int .i64 p, .int .i64 i] w fun e w' => e = .returned (.agg #[.int .i64 (jotP x y t o n p i).1, .int .i64 (jotP x y t o n p i).2]) ∧ Below w.heap.size w w' := by
  have cW := work5_any x y t o n p i hx hy ht ho hn hp hi
  have cB0 := fun w q h => in_any w q x y o h
  have cB1 := fun w q h => above_any w q x y p i h
  have cB2 := fun w q h => in_any w q x y p h
  have cP0 := fun w q h => put_any w q x y t (n + y) h
  have cP1 := fun w q h => put_any w q x y t n h
  obtain ⟨x1, x2⟩ := hx
  obtain ⟨y1, y2⟩ := hy
  obtain ⟨t1, t2⟩ := ht
  obtain ⟨o1, o2⟩ := ho
  obtain ⟨n1, n2⟩ := hn
  obtain ⟨p1, p2⟩ := hp
  obtain ⟨i1, i2⟩ := hi
  unfold jotP
  obtain ⟨B0, hB0⟩ : ∃ B, decide (x = o) = B := ⟨_, rfl⟩
  rw [hB0] at cB0 ⊢
  clear hB0
  obtain ⟨B1, hB1⟩ : ∃ B, (decide (x = p) && decide (i < y)) = B := ⟨_, rfl⟩
  rw [hB1] at cB1 ⊢
  clear hB1
  obtain ⟨B2, hB2⟩ : ∃ B, decide (x = p) = B := ⟨_, rfl⟩
  rw [hB2] at cB2 ⊢
  clear hB2
  obtain ⟨B3, hB3⟩ : ∃ B, decide (y = i) = B := ⟨_, rfl⟩
  rw [hB3]
  cases B0 <;>
  cases B1 <;>
  cases B2 <;>
  cases B3 <;>
  ( first
      | (have hT := of_decide_eq_true hB3; clear hB3; subst hT)
      | (have hT := of_decide_eq_false hB3)
    go_enter Try.func13, Try.ntmps13
    go_wp2_with (first
      | (go_at_call 17; ((with_reducible refine (cW _ _ (by simp [go_sem]) (by simp [go_sem]) (by simp [go_sem]) (by simp [go_sem]) (by simp [go_sem]) (by simp)).mono ?_); rintro e w1 ⟨q, rfl, hq, hk, hb⟩; have hk := hk; (try simp at hq); have hqB : w.heap.size + 1 < q := (by omega); have hqN : q ≠ w.heap.size + 1 := (by omega); have hqM : w.heap.size + 1 ≠ q := (by omega); have hq1 := lt_of_cell' hk.c0; have s0 := (hb.cell (p := ⟨w.heap.size + 1, 0, none⟩) (by simp)); have s1 := (hb.cell (p := ⟨w.heap.size + 1, 1, none⟩) (by simp)); have t0 := (hb.frozen (p := ⟨w.heap.size + 1, 0, none⟩) (by simp)); have t1 := (hb.frozen (p := ⟨w.heap.size + 1, 1, none⟩) (by simp)); simp [go_sem] at s0 s1 t0 t1; have hz := hb.size; simp at hz; have HB := Lib.hid ((show Below w.heap.size w _ by (repeat (first | (with_reducible exact Below.refl _ _) | (with_reducible refine Below.drew ?_) | (with_reducible refine Below.alloc ?_ ?_ _) | (with_reducible refine Below.setCell ?_ ?_ _) | omega | (simp <;> omega)))).trans (hb.mono (by simp <;> omega))); clear hb; have hwb := lt_of_cell' s0; obtain ⟨k0, k1, k2, k3, k4⟩ := hk))
      | (go_at_call 20; ((with_reducible refine (cB0 _ _ ⟨k0, k1, k2, k3, k4⟩).mono ?_); rintro e w2 ⟨rfl, rfl⟩))
      | (go_at_call 19; ((with_reducible refine (cB1 _ _ ⟨k0, k1, k2, k3, k4⟩).mono ?_); rintro e w2 ⟨rfl, rfl⟩))
      | (go_at_call 20; ((with_reducible refine (cB2 _ _ ⟨k0, k1, k2, k3, k4⟩).mono ?_); rintro e w2 ⟨rfl, rfl⟩))
      | (go_at_call 18; ((with_reducible refine (cP0 _ _ ⟨k0, k1, k2, k3, k4⟩).mono ?_); rintro e w3 ⟨rfl, hk3, hc3, hf3, hs3, hb3⟩; replace s0 := (hc3 ⟨w.heap.size + 1, 0, none⟩ hqM).trans s0; replace s1 := (hc3 ⟨w.heap.size + 1, 1, none⟩ hqM).trans s1; replace t0 := (hf3 ⟨w.heap.size + 1, 0, none⟩ hqM).trans t0; replace t1 := (hf3 ⟨w.heap.size + 1, 1, none⟩ hqM).trans t1; replace HB := Lib.hid (HB.out.trans (hb3 _ (by omega))); replace hwb := lt_of_cell' s0; clear k0 k1 k2 k3 k4; obtain ⟨k0, k1, k2, k3, k4⟩ := hk3; clear hc3 hf3 hb3))
      | (go_at_call 18; ((with_reducible refine (cP1 _ _ ⟨k0, k1, k2, k3, k4⟩).mono ?_); rintro e w3 ⟨rfl, hk3, hc3, hf3, hs3, hb3⟩; replace s0 := (hc3 ⟨w.heap.size + 1, 0, none⟩ hqM).trans s0; replace s1 := (hc3 ⟨w.heap.size + 1, 1, none⟩ hqM).trans s1; replace t0 := (hf3 ⟨w.heap.size + 1, 0, none⟩ hqM).trans t0; replace t1 := (hf3 ⟨w.heap.size + 1, 1, none⟩ hqM).trans t1; replace HB := Lib.hid (HB.out.trans (hb3 _ (by omega))); replace hwb := lt_of_cell' s0; clear k0 k1 k2 k3 k4; obtain ⟨k0, k1, k2, k3, k4⟩ := hk3; clear hc3 hf3 hb3)))
    all_goals refine bodyPost_ret (v := .agg #[.int .i64 _, .int .i64 _]) (by simp [results, Try.results13, go_sem, *]; done) rfl ⟨rfl, ?_⟩
    all_goals (repeat (first | (with_reducible exact HB.out) | (with_reducible exact Below.refl _ _) | (with_reducible refine Below.drew ?_) | (with_reducible refine Below.alloc ?_ ?_ _) | (with_reducible refine Below.setCell ?_ ?_ _) | omega | (simp <;> omega))) )

def wraP (x y p a n f : Int) : Int × Int := if decide (x = p) = true then (if decide (n ≤ y - a) = true then (x, y + (1 - n)) else if decide (a < y) = true then (f, y - a) else (x, y)) else (x, y)

set_option maxRecDepth 20000 in
set_option maxHeartbeats 4000000 in
theorem wra_any (w : World) (x y p a n f : Int) (hx : InR x) (hy : InR y) (hp : InR p) (ha : InR a) (hn : InR n) (hf : InR f) :
    Calls Try.prog 10 #[.agg #[.int .i64 x, .int .i64 y], .int .i64 p, .int .i64 a, .int .i64 n, .int .i64 f] w fun e w' => e = .returned (.agg #[.int .i64 (wraP x y p a n f).1, .int .i64 (wraP x y p a n f).2]) ∧ Below w.heap.size w w' := by
  have cW := work4_any x y p a n f hx hy hp ha hn hf
  have cB0 := fun w q h => in_any w q x y p h
  have cP0 := fun w q h => put_any w q x y f (y - a) h
  obtain ⟨x1, x2⟩ := hx
  obtain ⟨y1, y2⟩ := hy
  obtain ⟨p1, p2⟩ := hp
  obtain ⟨a1, a2⟩ := ha
  obtain ⟨n1, n2⟩ := hn
  obtain ⟨f1, f2⟩ := hf
  unfold wraP
  obtain ⟨B0, hB0⟩ : ∃ B, decide (x = p) = B := ⟨_, rfl⟩
  rw [hB0] at cB0 ⊢
  clear hB0
  obtain ⟨B1, hB1⟩ : ∃ B, decide (n ≤ y - a) = B := ⟨_, rfl⟩
  rw [hB1]
  obtain ⟨B2, hB2⟩ : ∃ B, decide (a < y) = B := ⟨_, rfl⟩
  rw [hB2]
  cases B0 <;>
  cases B1 <;>
  cases B2 <;>
  ( have hT1 := hB1; simp only [decide_eq_true_eq, decide_eq_false_iff_not] at hT1
    have hT2 := hB2; simp only [decide_eq_true_eq, decide_eq_false_iff_not] at hT2
    go_enter Try.func10, Try.ntmps10
    go_wp2_with (first
      | (go_at_call 17; ((with_reducible refine (cW _ _ (by simp [go_sem]) (by simp [go_sem]) (by simp [go_sem]) (by simp [go_sem]) (by simp)).mono ?_); rintro e w1 ⟨q, rfl, hq, hk, hb⟩; have hk := hk; (try simp at hq); have hqB : w.heap.size + 1 < q := (by omega); have hqN : q ≠ w.heap.size + 1 := (by omega); have hqM : w.heap.size + 1 ≠ q := (by omega); have hq1 := lt_of_cell' hk.c0; have s0 := (hb.cell (p := ⟨w.heap.size + 1, 0, none⟩) (by simp)); have s1 := (hb.cell (p := ⟨w.heap.size + 1, 1, none⟩) (by simp)); have t0 := (hb.frozen (p := ⟨w.heap.size + 1, 0, none⟩) (by simp)); have t1 := (hb.frozen (p := ⟨w.heap.size + 1, 1, none⟩) (by simp)); simp [go_sem] at s0 s1 t0 t1; have hz := hb.size; simp at hz; have HB := Lib.hid ((show Below w.heap.size w _ by (repeat (first | (with_reducible exact Below.refl _ _) | (with_reducible refine Below.drew ?_) | (with_reducible refine Below.alloc ?_ ?_ _) | (with_reducible refine Below.setCell ?_ ?_ _) | omega | (simp <;> omega)))).trans (hb.mono (by simp <;> omega))); clear hb; have hwb := lt_of_cell' s0; obtain ⟨k0, k1, k2, k3, k4⟩ := hk))
      | (go_at_call 20; ((with_reducible refine (cB0 _ _ ⟨k0, k1, k2, k3, k4⟩).mono ?_); rintro e w2 ⟨rfl, rfl⟩))
      | (go_at_call 18; ((with_reducible refine (cP0 _ _ ⟨k0, k1, k2, k3, k4⟩).mono ?_); rintro e w3 ⟨rfl, hk3, hc3, hf3, hs3, hb3⟩; replace s0 := (hc3 ⟨w.heap.size + 1, 0, none⟩ hqM).trans s0; replace s1 := (hc3 ⟨w.heap.size + 1, 1, none⟩ hqM).trans s1; replace t0 := (hf3 ⟨w.heap.size + 1, 0, none⟩ hqM).trans t0; replace t1 := (hf3 ⟨w.heap.size + 1, 1, none⟩ hqM).trans t1; replace HB := Lib.hid (HB.out.trans (hb3 _ (by omega))); replace hwb := lt_of_cell' s0; clear k0 k1 k2 k3 k4; obtain ⟨k0, k1, k2, k3, k4⟩ := hk3; clear hc3 hf3 hb3)))
    all_goals refine bodyPost_ret (v := .agg #[.int .i64 _, .int .i64 _]) (by simp [results, Try.results10, go_sem, *]; done) rfl ⟨rfl, ?_⟩
    all_goals (repeat (first | (with_reducible exact HB.out) | (with_reducible exact Below.refl _ _) | (with_reducible refine Below.drew ?_) | (with_reducible refine Below.alloc ?_ ?_ _) | (with_reducible refine Below.setCell ?_ ?_ _) | omega | (simp <;> omega))) )

def unwP (x y d n p i : Int) : Int × Int := if decide (x = d) = true then (p, i + y) else if (decide (x = p) && decide (i < y)) = true then (x, y + (n - 1)) else (x, y)

set_option maxRecDepth 20000 in
set_option maxHeartbeats 4000000 in
theorem unw_any (w : World) (x y d n p i : Int) (hx : InR x) (hy : InR y) (hd : InR d) (hn : InR n) (hp : InR p) (hi : InR i) :
    Calls Try.prog 11 #[.agg #[.int .i64 x, .int .i64 y], .int .i64 d, .int .i64 n, .int .i64 p, .int .i64 i] w fun e w' => e = .returned (.agg #[.int .i64 (unwP x y d n p i).1, .int .i64 (unwP x y d n p i).2]) ∧ Below w.heap.size w w' := by
  have cW := work4_any x y d n p i hx hy hd hn hp hi
  have cB0 := fun w q h => in_any w q x y d h
  have cB1 := fun w q h => above_any w q x y p i h
  have cP0 := fun w q h => put_any w q x y p (i + y) h
  obtain ⟨x1, x2⟩ := hx
  obtain ⟨y1, y2⟩ := hy
  obtain ⟨d1, d2⟩ := hd
  obtain ⟨n1, n2⟩ := hn
  obtain ⟨p1, p2⟩ := hp
  obtain ⟨i1, i2⟩ := hi
  unfold unwP
  obtain ⟨B0, hB0⟩ : ∃ B, decide (x = d) = B := ⟨_, rfl⟩
  rw [hB0] at cB0 ⊢
  clear hB0
  obtain ⟨B1, hB1⟩ : ∃ B, (decide (x = p) && decide (i < y)) = B := ⟨_, rfl⟩
  rw [hB1] at cB1 ⊢
  clear hB1
  cases B0 <;>
  cases B1 <;>
  ( go_enter Try.func11, Try.ntmps11
    go_wp2_with (first
      | (go_at_call 17; ((with_reducible refine (cW _ _ (by simp [go_sem]) (by simp [go_sem]) (by simp [go_sem]) (by simp [go_sem]) (by simp)).mono ?_); rintro e w1 ⟨q, rfl, hq, hk, hb⟩; have hk := hk; (try simp at hq); have hqB : w.heap.size + 1 < q := (by omega); have hqN : q ≠ w.heap.size + 1 := (by omega); have hqM : w.heap.size + 1 ≠ q := (by omega); have hq1 := lt_of_cell' hk.c0; have s0 := (hb.cell (p := ⟨w.heap.size + 1, 0, none⟩) (by simp)); have s1 := (hb.cell (p := ⟨w.heap.size + 1, 1, none⟩) (by simp)); have t0 := (hb.frozen (p := ⟨w.heap.size + 1, 0, none⟩) (by simp)); have t1 := (hb.frozen (p := ⟨w.heap.size + 1, 1, none⟩) (by simp)); simp [go_sem] at s0 s1 t0 t1; have hz := hb.size; simp at hz; have HB := Lib.hid ((show Below w.heap.size w _ by (repeat (first | (with_reducible exact Below.refl _ _) | (with_reducible refine Below.drew ?_) | (with_reducible refine Below.alloc ?_ ?_ _) | (with_reducible refine Below.setCell ?_ ?_ _) | omega | (simp <;> omega)))).trans (hb.mono (by simp <;> omega))); clear hb; have hwb := lt_of_cell' s0; obtain ⟨k0, k1, k2, k3, k4⟩ := hk))
      | (go_at_call 20; ((with_reducible refine (cB0 _ _ ⟨k0, k1, k2, k3, k4⟩).mono ?_); rintro e w2 ⟨rfl, rfl⟩))
      | (go_at_call 19; ((with_reducible refine (cB1 _ _ ⟨k0, k1, k2, k3, k4⟩).mono ?_); rintro e w2 ⟨rfl, rfl⟩))
      | (go_at_call 18; ((with_reducible refine (cP0 _ _ ⟨k0, k1, k2, k3, k4⟩).mono ?_); rintro e w3 ⟨rfl, hk3, hc3, hf3, hs3, hb3⟩; replace s0 := (hc3 ⟨w.heap.size + 1, 0, none⟩ hqM).trans s0; replace s1 := (hc3 ⟨w.heap.size + 1, 1, none⟩ hqM).trans s1; replace t0 := (hf3 ⟨w.heap.size + 1, 0, none⟩ hqM).trans t0; replace t1 := (hf3 ⟨w.heap.size + 1, 1, none⟩ hqM).trans t1; replace HB := Lib.hid (HB.out.trans (hb3 _ (by omega))); replace hwb := lt_of_cell' s0; clear k0 k1 k2 k3 k4; obtain ⟨k0, k1, k2, k3, k4⟩ := hk3; clear hc3 hf3 hb3)))
    all_goals refine bodyPost_ret (v := .agg #[.int .i64 _, .int .i64 _]) (by simp [results, Try.results11, go_sem, *]; done) rfl ⟨rfl, ?_⟩
    all_goals (repeat (first | (with_reducible exact HB.out) | (with_reducible exact Below.refl _ _) | (with_reducible refine Below.drew ?_) | (with_reducible refine Below.alloc ?_ ?_ _) | (with_reducible refine Below.setCell ?_ ?_ _) | omega | (simp <;> omega))) )

end Go.Proofs.Ytfjngijmncbnbaa
