/-
  example and awake, walked.
-/
import Derived.Test.YtggjoefhopoggaaDoorCExam

namespace Go.Proofs.YtggjoefhopoggaaDoor
open Go.RowKit Go.Lib

def ExTree (B : Nat) (w : World) (p : Nat) : Prop := ∃ nb l, Full B w p nb 5 l ∧ Inv 5 l ∧ sk l = exL
theorem sk_zero (b : Nat) : sk ((List.replicate 10 none).set 0 (some (nd0 b))) = exL0 := by rfl
theorem TB_zero {b q : Nat} (h : TB ((List.replicate 10 none).set 0 (some (nd0 b))) q) : q = b := by
  obtain ⟨i, x, hi, hx⟩ := h
  rw [List.getElem?_set] at hi
  split at hi
  · split at hi
    · obtain rfl : nd0 b = x := by simpa using hi
      rcases hx with hx | hx
      · exact hx.symm
      · cases hx
    · cases hi
  · rw [List.getElem?_replicate] at hi
    split at hi <;> cases hi

set_option maxRecDepth 20000 in
set_option maxHeartbeats 8000000 in
theorem example_any (w : World) (hT : OwnT w) : Calls Tryd.prog 27 #[] w fun e w' => ∃ p, e = .returned (.pointer (some ⟨p, 0, none⟩)) ∧ Below w.heap.size w w' ∧ Hid (ExTree w.heap.size w' p) := by
  have cN : Calls Tryd.prog 45 #[.int .i64 10, .int .i64 5] w fun e w' => e = .returned (.tuple #[.pointer (some ⟨w.heap.size + 1, 0, none⟩), .int .i64 0]) ∧ w'.heap.size = w.heap.size + 3 ∧ Below w.heap.size w w' ∧ TreeAt w' (w.heap.size + 1) w.heap.size 5 ((List.replicate 10 none).set 0 (some (nd0 (w.heap.size + 2)))) := new_any w 10 5 (by decide) (by decide) (by decide) (by decide)
  have HT := Lib.hid hT
  have cG1 : ∀ w1 : World, w1.heap.size = w.heap.size + 3 → Below w.heap.size w w1 → TreeAt w1 (w.heap.size + 1) w.heap.size 5 ((List.replicate 10 none).set 0 (some (nd0 (w.heap.size + 2)))) →
      Calls Tryd.prog 46 #[.pointer (some ⟨w.heap.size + 1, 0, none⟩), .int .i64 0, .int .i64 0, .agg #[.int .i64 2, .slice none 0 0, .string ⟨#[]⟩, .slice (some ⟨w1.heap.size + 1, 0, none⟩) 1 1]] ((w1.alloc (.cells #[.int .i64 0, .slice none 0 0, .string ⟨#[120, 121]⟩, .slice none 0 0] 67)).alloc (.cells #[.int .i64 10, .slice none 0 0, .string ⟨#[]⟩, .slice (some ⟨w1.heap.size, 0, none⟩) 1 1] 67)) fun e w' => e = .returned (.tuple #[.int .i64 1, .int .i64 0]) ∧ Below w.heap.size w w' ∧ Hid (∃ l, Full w.heap.size w' (w.heap.size + 1) w.heap.size 5 l ∧ Inv 5 l ∧ sk l = exL1) := fun w1 hs hb ht => by
    have hF := full_new ht hs
    have hI := inv_new 5 (by decide) 10 (w.heap.size + 2) (by decide)
    obtain ⟨W, hW⟩ : ∃ W, (w1.alloc (.cells #[.int .i64 0, .slice none 0 0, .string ⟨#[120, 121]⟩, .slice none 0 0] 67)).alloc (.cells #[.int .i64 10, .slice none 0 0, .string ⟨#[]⟩, .slice (some ⟨w1.heap.size, 0, none⟩) 1 1] 67) = W := ⟨_, rfl⟩
    have hb1 : Below w1.heap.size w1 W := by rw [← hW]; exact ((Below.refl _ _).alloc (Nat.le_refl _) _).alloc (by simp) _
    have hsz : W.heap.size = w1.heap.size + 1 + 1 := by rw [← hW]; simp
    have c0 : W.cell? ⟨w1.heap.size, 0, none⟩ = some (.int .i64 0) := by rw [← hW]; simp [go_sem]
    have c1 : W.cell? ⟨w1.heap.size, 1, none⟩ = some (.slice none 0 0) := by rw [← hW]; simp [go_sem]
    have c2 : W.cell? ⟨w1.heap.size, 2, none⟩ = some (.string ⟨#[120, 121]⟩) := by rw [← hW]; simp [go_sem]
    have c3 : W.cell? ⟨w1.heap.size, 3, none⟩ = some (.slice none 0 0) := by rw [← hW]; simp [go_sem]
    have d0 : W.cell? ⟨w1.heap.size + 1, 0, none⟩ = some (.int .i64 10) := by rw [← hW]; simp [go_sem]
    have d1 : W.cell? ⟨w1.heap.size + 1, 1, none⟩ = some (.slice none 0 0) := by rw [← hW]; simp [go_sem]
    have d2 : W.cell? ⟨w1.heap.size + 1, 2, none⟩ = some (.string ⟨#[]⟩) := by rw [← hW]; simp [go_sem]
    have d3 : W.cell? ⟨w1.heap.size + 1, 3, none⟩ = some (.slice (some ⟨w1.heap.size, 0, none⟩) 1 1) := by rw [← hW]; simp [go_sem]
    rw [hW]
    have hFar := far_at (nb := w.heap.size) (l := (List.replicate 10 none).set 0 (some (nd0 (w.heap.size + 2)))) (w := W) (b := w1.heap.size) (b' := w1.heap.size + 1) (by omega) (by omega) (by omega) (by omega) (fun h => by have := TB_zero h; omega) (fun h => by have := TB_zero h; omega) c0 c1 c2 c3 d0 d1 d2 d3
    have hi : ((List.replicate 10 none).set 0 (some (nd0 (w.heap.size + 2))))[0]? = some (some (nd0 (w.heap.size + 2))) := by simp
    refine (graft_sk w.heap.size W (w.heap.size + 1) w.heap.size 5 _ (hF.below hb1) hI (by decide) (by decide) (HT.out.below (hb.trans (hb1.mono hb.size))) (tP w1.heap.size (w1.heap.size + 1)) hFar (ex_slim _ _) (by rw [ex_size]; decide) 0 0 (nd0 (w.heap.size + 2)) hi (by show (1 : Int) ≠ 0; decide) (Nat.le_refl _) (ex_good _ _) (ex_short _ _) (by rw [depth0 hi rfl, ex_high]; decide) (by rw [ex_size, count_sk, sk_zero, List.length_set, List.length_replicate]; decide)).mono ?_
    rintro e w' ⟨j, hj, rfl, h1, l', h2, h3, h4, h5⟩
    rw [sk_zero] at hj h4
    rw [ex_plant1] at h4
    rw [ex_num1] at hj
    subst hj
    exact ⟨rfl, (hb.trans (hb1.mono hb.size)).trans h1, Lib.hid ⟨l', h2, h3, h4⟩⟩
  have cG2 : ∀ w1 : World, (∃ l, Full w.heap.size w1 (w.heap.size + 1) w.heap.size 5 l ∧ Inv 5 l ∧ sk l = exL1) → Below w.heap.size w w1 →
      Calls Tryd.prog 46 #[.pointer (some ⟨w.heap.size + 1, 0, none⟩), .int .i64 0, .int .i64 1, .agg #[.int .i64 2, .slice none 0 0, .string ⟨#[]⟩, .slice none 0 0]] w1 fun e w' => e = .returned (.tuple #[.int .i64 4, .int .i64 0]) ∧ Below w.heap.size w w' ∧ Hid (ExTree w.heap.size w' (w.heap.size + 1)) := fun w1 ⟨l, hF, hI, hsk⟩ hb => by
    obtain ⟨x, hi, hx⟩ := sk_some (l := l) (i := 0) (s := ⟨1, ⟨#[]⟩, -1, [1], []⟩) (by rw [hsk]; rfl)
    have e1 : x.tag = 1 := congrArg Sn.tag hx
    have e2 : x.up = -1 := congrArg Sn.up hx
    have e3 : x.kids = [1] := congrArg Sn.kids hx
    have hlen : l.length = 10 := by rw [← sk_length, hsk]; rfl
    refine (graft_sk w.heap.size w1 (w.heap.size + 1) w.heap.size 5 l hF hI (by decide) (by decide) (HT.out.below hb) tQ (far_q _ _ _) ex2_slim (by rw [ex2_size]; decide) 0 1 x hi (by rw [e1]; decide) (by rw [e3]; decide) ex2_good ex2_short (by rw [depth0 hi e2, ex2_high]; decide) (by rw [ex2_size, count_sk, hsk, hlen]; decide)).mono ?_
    rintro e w' ⟨j, hj, rfl, h1, l', h2, h3, h4, h5⟩
    rw [hsk] at hj h4
    rw [ex_plant2] at h4
    rw [ex_num2] at hj
    subst hj
    exact ⟨rfl, hb.trans h1, Lib.hid ⟨_, l', h2, h3, h4⟩⟩
  clear hT
  go_enter Tryd.func27, Tryd.ntmps27
  go_wp2_with (first
    | (go_at_call 45; ((with_reducible refine (cN).mono ?_); rintro e w1 ⟨rfl, hs1, hb1, ht1⟩; have cG1 := cG1 w1 hs1 hb1 ht1; rw [hs1] at cG1; clear ht1))
    | (go_at_call 46; ((with_reducible refine (cG1).mono ?_); rintro e w2 ⟨rfl, hb2, hG2⟩; have cG2 := cG2 w2 hG2.out hb2; clear cG1))
    | (go_at_call 46; ((with_reducible refine (cG2).mono ?_); rintro e w3 ⟨rfl, hb3, hG3⟩)))
  go_ret
  exact ⟨_, rfl, hb3, hG3⟩

theorem ex_tv {B : Nat} {w : World} {p : Nat} (h : ExTree B w p) : Tv w (.pointer (some ⟨p, 0, none⟩)) exL ∧ (∀ id, endsU exL 41 id = true) ∧ (∀ id, endsK exL 41 id) := by
  obtain ⟨nb, l, hF, hI, hs⟩ := h
  have h1 := full_tv hF
  rw [hs] at h1
  exact ⟨h1, fun id => by rw [← hs, ← sk_endsU]; exact hI.endsDa (by decide) id, fun id => by rw [← hs]; exact sk_endsK l 41 id (hI.endsHa (by decide) id)⟩
theorem ex_call0 {B : Nat} {w1 : World} {p : Nat} (hE : ExTree B w1 p) (W : World) (hb : Below w1.heap.size w1 W) :
    Calls Tryd.prog 8 #[.pointer (some ⟨p, 0, none⟩), .agg #[.int .i64 3, .int .i64 1], .agg #[.int .i64 1, .int .i64 1]] W fun e w' => e = .returned (.tuple #[.int .i64 (-1), .bool true]) ∧ Below W.heap.size W w' := by
  have hT : Tv W (.pointer (some ⟨p, 0, none⟩)) exL ∧ (∀ id, endsU exL 41 id = true) ∧ (∀ id, endsK exL 41 id) := ⟨(ex_tv hE).1.below hb, (ex_tv hE).2⟩
  have h := cmp_v hT.1 exL_short 3 1 1 1 41 (by decide) hT.2.1
  rw [ex_cmp1] at h
  exact h
theorem ex_call1 {B : Nat} {w1 : World} {p : Nat} (hE : ExTree B w1 p) (W : World) (hb : Below w1.heap.size w1 W) :
    Calls Tryd.prog 8 #[.pointer (some ⟨p, 0, none⟩), .agg #[.int .i64 0, .int .i64 1], .agg #[.int .i64 3, .int .i64 2]] W fun e w' => e = .returned (.tuple #[.int .i64 1, .bool true]) ∧ Below W.heap.size W w' := by
  have hT : Tv W (.pointer (some ⟨p, 0, none⟩)) exL ∧ (∀ id, endsU exL 41 id = true) ∧ (∀ id, endsK exL 41 id) := ⟨(ex_tv hE).1.below hb, (ex_tv hE).2⟩
  have h := cmp_v hT.1 exL_short 0 1 3 2 41 (by decide) hT.2.1
  rw [ex_cmp2] at h
  exact h
theorem ex_call2 {B : Nat} {w1 : World} {p : Nat} (hE : ExTree B w1 p) (W : World) (hb : Below w1.heap.size w1 W) :
    Calls Tryd.prog 12 #[.pointer (some ⟨p, 0, none⟩), .int .i64 3] W fun e w' => e = .returned (.int .i64 4) ∧ Below W.heap.size W w' := by
  have hT : Tv W (.pointer (some ⟨p, 0, none⟩)) exL ∧ (∀ id, endsU exL 41 id = true) ∧ (∀ id, endsK exL 41 id) := ⟨(ex_tv hE).1.below hb, (ex_tv hE).2⟩
  have h := next_v hT.1 3 41 (hT.2.2 3) 41 (hT.2.1 3)
  rw [ex_next3] at h
  exact h
theorem ex_call3 {B : Nat} {w1 : World} {p : Nat} (hE : ExTree B w1 p) (W : World) (hb : Below w1.heap.size w1 W) :
    Calls Tryd.prog 12 #[.pointer (some ⟨p, 0, none⟩), .int .i64 4] W fun e w' => e = .returned (.int .i64 (-1)) ∧ Below W.heap.size W w' := by
  have hT : Tv W (.pointer (some ⟨p, 0, none⟩)) exL ∧ (∀ id, endsU exL 41 id = true) ∧ (∀ id, endsK exL 41 id) := ⟨(ex_tv hE).1.below hb, (ex_tv hE).2⟩
  have h := next_v hT.1 4 41 (hT.2.2 4) 41 (hT.2.1 4)
  rw [ex_next4] at h
  exact h
theorem ex_call4 {B : Nat} {w1 : World} {p : Nat} (hE : ExTree B w1 p) (W : World) (hb : Below w1.heap.size w1 W) :
    Calls Tryd.prog 13 #[.pointer (some ⟨p, 0, none⟩), .int .i64 4] W fun e w' => e = .returned (.int .i64 3) ∧ Below W.heap.size W w' := by
  have hT : Tv W (.pointer (some ⟨p, 0, none⟩)) exL ∧ (∀ id, endsU exL 41 id = true) ∧ (∀ id, endsK exL 41 id) := ⟨(ex_tv hE).1.below hb, (ex_tv hE).2⟩
  have h := prev_v hT.1 4 41 (fun k _ => hT.2.2 k)
  rw [ex_prev4] at h
  exact h
theorem ex_call5 {B : Nat} {w1 : World} {p : Nat} (hE : ExTree B w1 p) (W : World) (hb : Below w1.heap.size w1 W) :
    Calls Tryd.prog 14 #[.pointer (some ⟨p, 0, none⟩), .int .i64 1] W fun e w' => e = .returned (.int .i64 4) ∧ Below W.heap.size W w' := by
  have hT : Tv W (.pointer (some ⟨p, 0, none⟩)) exL ∧ (∀ id, endsU exL 41 id = true) ∧ (∀ id, endsK exL 41 id) := ⟨(ex_tv hE).1.below hb, (ex_tv hE).2⟩
  have h := behind_v hT.1 1 41 (hT.2.1 1)
  rw [ex_behind1] at h
  exact h
theorem ex_call6 {B : Nat} {w1 : World} {p : Nat} (hE : ExTree B w1 p) (W : World) (hb : Below w1.heap.size w1 W) (q : Nat) (h0 : W.cell? ⟨q, 0, none⟩ = some (.int .i64 0)) (h1 : W.cell? ⟨q, 1, none⟩ = some (.int .i64 0)) (h2 : W.cell? ⟨q, 2, none⟩ = some (.int .i64 0)) :
    Calls Tryd.prog 9 #[.pointer (some ⟨p, 0, none⟩), .int .i64 0, .slice (some ⟨q, 0, none⟩) 3 3] W fun e w' => e = .returned (.tuple #[.int .i64 3, .bool true]) ∧ Below W.heap.size W w' := by
  have h := find_v ((ex_tv hE).1.below hb) 0 [0, 0, 0] (some ⟨q, 0, none⟩) 3 (.inr ⟨q, 0, rfl, fun j hj => by
    match j, hj with
    | 0, _ => exact h0
    | 1, _ => exact h1
    | 2, _ => exact h2⟩) (by decide)
  rw [ex_find] at h
  exact h
theorem cell3 (W : World) (x y z : Value) (t : TypeId) : (W.alloc (.cells #[x, y, z] t)).cell? ⟨W.heap.size, 0, none⟩ = some x ∧ (W.alloc (.cells #[x, y, z] t)).cell? ⟨W.heap.size, 1, none⟩ = some y ∧ (W.alloc (.cells #[x, y, z] t)).cell? ⟨W.heap.size, 2, none⟩ = some z := by simp [go_sem]
theorem ex_count {B : Nat} {w1 : World} {p : Nat} (hE : ExTree B w1 p) : Calls Tryd.prog 28 #[.pointer (some ⟨p, 0, none⟩)] w1 fun e w' => e = .returned (.int .i64 5) ∧ w1 = w' := by
  obtain ⟨nb, l, hF, hI, hs⟩ := hE
  have h := count_any w1 p nb 5 l hF.t
  rw [count_sk, hs] at h
  exact h
set_option maxRecDepth 20000 in
set_option maxHeartbeats 8000000 in
theorem oawake_any (w : World) (hT : OwnT w) : Calls Tryd.prog 7 #[] w fun e w' => e = .returned (.bool true) ∧ Below w.heap.size w w' := by
  have cE := example_any w hT
  clear hT
  go_enter Tryd.func7, Tryd.ntmps7
  go_wp2_with (first
    | (go_at_call 27; ((with_reducible refine (cE).mono ?_); rintro e w1 ⟨p, rfl, hb1, hE⟩; have cC := ex_count hE.out; have hb := Lib.hid (Below.refl w1.heap.size w1)))
    | (go_at_call 28; ((with_reducible refine (cC).mono ?_); rintro e w2 ⟨rfl, rfl⟩))
    | (go_at_call 8; ((with_reducible refine (ex_call0 hE.out _ (by (repeat (first | (with_reducible exact hb.out) | (with_reducible exact hb.out.size) | (with_reducible exact Below.refl _ _) | (with_reducible refine Below.alloc ?_ ?_ _) | omega | (simp <;> omega))))).mono ?_); rintro e w5 ⟨rfl, hb5⟩; have hd2 := Lib.hid ((show Below w1.heap.size w1 _ by (repeat (first | (with_reducible exact hb.out) | (with_reducible exact hb.out.size) | (with_reducible exact Below.refl _ _) | (with_reducible refine Below.alloc ?_ ?_ _) | omega | (simp <;> omega)))).trans (hb5.mono (by first | exact hb.out.size | (simp; exact hb.out.size) | (have hq9 := hb.out.size; simp; omega)))); clear hb hb5; have hb := hd2; clear hd2))
    | (go_at_call 8; ((with_reducible refine (ex_call1 hE.out _ (by (repeat (first | (with_reducible exact hb.out) | (with_reducible exact hb.out.size) | (with_reducible exact Below.refl _ _) | (with_reducible refine Below.alloc ?_ ?_ _) | omega | (simp <;> omega))))).mono ?_); rintro e w5 ⟨rfl, hb5⟩; have hd2 := Lib.hid ((show Below w1.heap.size w1 _ by (repeat (first | (with_reducible exact hb.out) | (with_reducible exact hb.out.size) | (with_reducible exact Below.refl _ _) | (with_reducible refine Below.alloc ?_ ?_ _) | omega | (simp <;> omega)))).trans (hb5.mono (by first | exact hb.out.size | (simp; exact hb.out.size) | (have hq9 := hb.out.size; simp; omega)))); clear hb hb5; have hb := hd2; clear hd2))
    | (go_at_call 12; ((with_reducible refine (ex_call2 hE.out _ (by (repeat (first | (with_reducible exact hb.out) | (with_reducible exact hb.out.size) | (with_reducible exact Below.refl _ _) | (with_reducible refine Below.alloc ?_ ?_ _) | omega | (simp <;> omega))))).mono ?_); rintro e w5 ⟨rfl, hb5⟩; have hd2 := Lib.hid ((show Below w1.heap.size w1 _ by (repeat (first | (with_reducible exact hb.out) | (with_reducible exact hb.out.size) | (with_reducible exact Below.refl _ _) | (with_reducible refine Below.alloc ?_ ?_ _) | omega | (simp <;> omega)))).trans (hb5.mono (by first | exact hb.out.size | (simp; exact hb.out.size) | (have hq9 := hb.out.size; simp; omega)))); clear hb hb5; have hb := hd2; clear hd2))
    | (go_at_call 12; ((with_reducible refine (ex_call3 hE.out _ (by (repeat (first | (with_reducible exact hb.out) | (with_reducible exact hb.out.size) | (with_reducible exact Below.refl _ _) | (with_reducible refine Below.alloc ?_ ?_ _) | omega | (simp <;> omega))))).mono ?_); rintro e w5 ⟨rfl, hb5⟩; have hd2 := Lib.hid ((show Below w1.heap.size w1 _ by (repeat (first | (with_reducible exact hb.out) | (with_reducible exact hb.out.size) | (with_reducible exact Below.refl _ _) | (with_reducible refine Below.alloc ?_ ?_ _) | omega | (simp <;> omega)))).trans (hb5.mono (by first | exact hb.out.size | (simp; exact hb.out.size) | (have hq9 := hb.out.size; simp; omega)))); clear hb hb5; have hb := hd2; clear hd2))
    | (go_at_call 13; ((with_reducible refine (ex_call4 hE.out _ (by (repeat (first | (with_reducible exact hb.out) | (with_reducible exact hb.out.size) | (with_reducible exact Below.refl _ _) | (with_reducible refine Below.alloc ?_ ?_ _) | omega | (simp <;> omega))))).mono ?_); rintro e w5 ⟨rfl, hb5⟩; have hd2 := Lib.hid ((show Below w1.heap.size w1 _ by (repeat (first | (with_reducible exact hb.out) | (with_reducible exact hb.out.size) | (with_reducible exact Below.refl _ _) | (with_reducible refine Below.alloc ?_ ?_ _) | omega | (simp <;> omega)))).trans (hb5.mono (by first | exact hb.out.size | (simp; exact hb.out.size) | (have hq9 := hb.out.size; simp; omega)))); clear hb hb5; have hb := hd2; clear hd2))
    | (go_at_call 14; ((with_reducible refine (ex_call5 hE.out _ (by (repeat (first | (with_reducible exact hb.out) | (with_reducible exact hb.out.size) | (with_reducible exact Below.refl _ _) | (with_reducible refine Below.alloc ?_ ?_ _) | omega | (simp <;> omega))))).mono ?_); rintro e w5 ⟨rfl, hb5⟩; have hd2 := Lib.hid ((show Below w1.heap.size w1 _ by (repeat (first | (with_reducible exact hb.out) | (with_reducible exact hb.out.size) | (with_reducible exact Below.refl _ _) | (with_reducible refine Below.alloc ?_ ?_ _) | omega | (simp <;> omega)))).trans (hb5.mono (by first | exact hb.out.size | (simp; exact hb.out.size) | (have hq9 := hb.out.size; simp; omega)))); clear hb hb5; have hb := hd2; clear hd2))
    | (go_at_call 9; ((with_reducible refine (ex_call6 hE.out _ (by (repeat (first | (with_reducible exact hb.out) | (with_reducible exact hb.out.size) | (with_reducible exact Below.refl _ _) | (with_reducible refine Below.alloc ?_ ?_ _) | omega | (simp <;> omega)))) _ (cell3 _ _ _ _ _).1 (cell3 _ _ _ _ _).2.1 (cell3 _ _ _ _ _).2.2).mono ?_); rintro e w5 ⟨rfl, hb5⟩; have hd2 := Lib.hid ((show Below w1.heap.size w1 _ by (repeat (first | (with_reducible exact hb.out) | (with_reducible exact hb.out.size) | (with_reducible exact Below.refl _ _) | (with_reducible refine Below.alloc ?_ ?_ _) | omega | (simp <;> omega)))).trans (hb5.mono (by first | exact hb.out.size | (simp; exact hb.out.size) | (have hq9 := hb.out.size; simp; omega)))); clear hb hb5; have hb := hd2; clear hd2)))
  go_ret
  exact ⟨rfl, hb1.trans (hb.out.mono hb1.size)⟩

end Go.Proofs.YtggjoefhopoggaaDoor
