/-
  The program's and the document's Same.
-/
import Derived.Test.YtafincmcmgedbaaGreatDoorCRow
import Derived.Test.YtafincmcmgedbaaGreatDoorShelf
import Derived.Laws.StructEq
import Derived.Deep.QuietTactic
import Derived.BigQuiet

namespace Go.Proofs.YtafincmcmgedbaaGreatDoor
open Go.RowKit Go.Lib

def eqC (x y : Ce) : Bool := decide (x = y)
def sameR (l m : Row) : Bool := decide (l = m)
theorem allEq_same : ∀ l m : Row, allEq eqC l m = sameR l m
  | [], [] => rfl
  | [], _ :: _ => by simp [allEq, sameR]
  | _ :: _, [] => by simp [allEq, sameR]
  | x :: l, y :: m => by
    have ih := allEq_same l m
    unfold allEq
    rw [ih]
    unfold sameR eqC
    rw [Bool.eq_iff_iff]
    simp

theorem neqC : NeqAt Tryz.prog 66 (fun (x : Ce) => .agg (encC x).toArray) eqC := by
  refine ⟨fun x y w => ?_, GuardAt.agg _ (by kernel_rfl)⟩
  obtain ⟨x1, x2, x3⟩ := x
  obtain ⟨y1, y2, y3⟩ := y
  have u3 := Tryz.underlying9
  have a3 := Tryz.isAgg9
  have z3 := Tryz.sizeOf9
  have hS : Tryz.prog.underlying 66 = some (.struct (Tryz.prog.fieldsOf 66)) := by kernel_rfl
  have hp : Tryz.prog.stoodInHeld 66 = false := by kernel_rfl
  have he : eqC (x1, x2, x3) (y1, y2, y3) = (decide (x1 = y1) && (decide (x2 = y2) && (x3.toList == y3.toList))) := by
    rw [str_eq]; unfold eqC; rw [Bool.eq_iff_iff]; simp
  rw [he]
  simp only [encC]
  rw [run_neq_struct, show (10000 : Nat) = 9999 + 1 from rfl, run_equalIn_agg w 9999 66 _ _ hS hp]
  simp only [Program.fieldsOf, Tryz.underlying66]
  go_simp
  by_cases h0 : x1 = y1 <;> by_cases h1 : x2 = y2 <;> cases h2 : x3.toList == y3.toList <;> simp_all

set_option maxHeartbeats 1000000 in
theorem equal_off (a b : Option Addr) (n m c d : Nat) (w : World) (h : n ≠ m) :
    Calls Tryz.prog 130 #[.slice a n c, .slice b m d] w fun e w' => e = .returned (.bool false) ∧ w = w' := by
  have h1 : ((n : Int) != (m : Int)) = true := by simp; omega
  have h2 : ¬ (n : Int) = (m : Int) := by omega
  go_enter Tryz.func130, Tryz.ntmps130
  go_wp2
  go_ret
  exact ⟨rfl, rfl⟩

set_option maxHeartbeats 1000000 in
theorem equal_zero (a b : Option Addr) (c d : Nat) (w : World) :
    Calls Tryz.prog 130 #[.slice a 0 c, .slice b 0 d] w fun e w' => e = .returned (.bool true) ∧ w = w' := by
  go_enter Tryz.func130, Tryz.ntmps130
  go_wp2
  go_loop [5, 13] (fun _ i => i = .int .i64 0) (fun _ _ => 0)
  case atStart => rfl
  case round =>
    subst hrel
    go_wp2
    go_ret
    exact ⟨rfl, rfl⟩

theorem equal_any (v1 v2 : Value) (l m : Row) (w : World) (h1 : RowAt w v1 l) (h2 : RowAt w v2 m) :
    Calls Tryz.prog 130 #[v1, v2] w fun e w' => e = .returned (.bool (sameR l m)) ∧ Below w.heap.size w w' := by
  by_cases hn : l.length = m.length
  · by_cases h0 : l.length = 0
    · have el : l = [] := List.eq_nil_of_length_eq_zero h0
      have em : m = [] := List.eq_nil_of_length_eq_zero (by omega)
      subst el em
      obtain ⟨a, c, rfl⟩ := h1.len
      obtain ⟨b, d, rfl⟩ := h2.len
      refine (equal_zero a b c d w).mono ?_
      rintro e w' ⟨rfl, rfl⟩
      exact ⟨rfl, Below.refl _ _⟩
    · obtain ⟨b1, o1, c1, rfl, _, hm1, _, hc1⟩ := h1.lies (by omega)
      obtain ⟨b2, o2, c2, rfl, _, hm2, _, hc2⟩ := h2.lies (by omega)
      unfold maxLen at hm1 hm2
      have h := AnyQ.slices_Equal Tryz.laysEqual 3 Tryz.isAgg66 Tryz.sizeOf66 encC (fun _ => rfl) eqC neqC b1 o1 l.length c1 b2 o2 m.length c2 l m w (Nat.le_refl _) (Nat.le_refl _) (by omega) (by omega) hc1.enc hc2.enc
      rw [List.take_length, List.take_length, allEq_same] at h
      refine h.mono ?_
      rintro e w' ⟨rfl, q, rfl⟩
      exact ⟨rfl, below_draws w q⟩
  · have e0 : sameR l m = false := decide_eq_false (fun e => hn (by rw [e]))
    rw [e0]
    obtain ⟨a, c, rfl⟩ := h1.len
    obtain ⟨b, d, rfl⟩ := h2.len
    refine (equal_off a b _ _ c d w hn).mono ?_
    rintro e w' ⟨rfl, rfl⟩
    exact ⟨rfl, Below.refl _ _⟩

set_option maxHeartbeats 1000000 in
theorem same_any (v1 v2 : Value) (l m : Row) (w : World) (h1 : RowAt w v1 l) (h2 : RowAt w v2 m) :
    Calls Tryz.prog 108 #[v1, v2] w fun e w' => e = .returned (.bool (sameR l m)) ∧ Below w.heap.size w w' := by
  have hc := equal_any v1 v2 l m w h1 h2
  obtain ⟨S, hS⟩ : ∃ S, sameR l m = S := ⟨_, rfl⟩
  rw [hS] at hc ⊢
  clear hS h1 h2
  go_enter Tryz.func108, Tryz.ntmps108
  go_wp2_with (go_at_call 130; ((with_reducible refine hc.mono ?_); rintro e w1 ⟨rfl, hb1⟩))
  go_ret
  exact ⟨rfl, hb1⟩

/-! ### the document's -/
theorem dropR_cons {l : Row} {k : Nat} (h : k < l.length) : l.drop k = l[k]! :: l.drop (k + 1) := by
  rw [List.drop_eq_getElem_cons h, List.getElem!_eq_getElem?_getD, List.getElem?_eq_getElem h]; rfl
theorem same_step {l m : Row} {k : Nat} (h1 : k < l.length) (h2 : k < m.length) : sameR (l.drop k) (m.drop k) = (decide (l[k]! = m[k]!) && sameR (l.drop (k + 1)) (m.drop (k + 1))) := by
  rw [dropR_cons h1, dropR_cons h2]
  unfold sameR
  rw [Bool.eq_iff_iff]
  simp only [List.cons.injEq, decide_eq_true_eq, Bool.and_eq_true]

set_option maxHeartbeats 8000000 in
theorem rsame_any (v1 v2 : Value) (l m : Row) (w : World) (h1 : RowAt w v1 l) (h2 : RowAt w v2 m) (hln : l.length ≤ 100000) :
    Calls Tryz.prog 44 #[v1, v2] w fun e w' => e = .returned (.bool (sameR l m)) ∧ Below w.heap.size w w' := by
  obtain ⟨a1, c1, e1⟩ := h1.len
  obtain ⟨a2, c2, e2⟩ := h2.len
  have H1 := Lib.hid h1
  have H2 := Lib.hid h2
  clear h1 h2
  subst e1 e2
  obtain ⟨n1, hn1⟩ : ∃ n1, l.length = n1 := ⟨_, rfl⟩
  obtain ⟨n2, hn2⟩ : ∃ n2, m.length = n2 := ⟨_, rfl⟩
  rw [hn1] at hln ⊢
  rw [hn2]
  by_cases hn : n1 = n2
  · subst hn
    obtain ⟨S, hS⟩ : ∃ S, sameR l m = S := ⟨_, rfl⟩
    rw [hS]
    have HS := Lib.hid hS
    have N1 := Lib.hid hn1
    have N2 := Lib.hid hn2
    clear hS hn1 hn2
    go_enter Tryz.func44, Tryz.ntmps44
    go_wp2
    go_loopw [5] (fun i wr => ∃ k : Nat, k ≤ n1 ∧ i = .int .i64 k ∧ Hid (sameR (l.drop k) (m.drop k) = S) ∧ ∃ z, wr = w.drewN z) (fun i _ => n1 - (RowKit.intOf i).toNat)
    case atStart => exact ⟨0, Nat.zero_le _, rfl, HS, 0, rfl⟩
    case round =>
      obtain ⟨k, hk, rfl, HK, z, rfl⟩ := hrel
      by_cases hlt : k < n1
      · have hkI : (k : Int) < (n1 : Int) := by omega
        have hst := same_step (l := l) (m := m) (k := k) (by rw [N1.out]; exact hlt) (by rw [N2.out]; exact hlt)
        rw [HK.out] at hst
        obtain ⟨b1, o1, d1, e, _, hm1, _, hc1⟩ := H1.out.lies (by rw [N1.out]; omega)
        obtain ⟨b2, o2, d2, e', _, hm2, _, hc2⟩ := H2.out.lies (by rw [N2.out]; omega)
        rw [N1.out] at e
        rw [N2.out] at e'
        obtain ⟨rfl, _, rfl⟩ := Value.slice.inj e
        obtain ⟨rfl, _, rfl⟩ := Value.slice.inj e'
        unfold maxLen at hm1 hm2
        obtain ⟨x1, x2, x3⟩ := hc1 k (by rw [N1.out]; exact hlt)
        obtain ⟨y1, y2, y3⟩ := hc2 k (by rw [N2.out]; exact hlt)
        obtain ⟨X, hX⟩ : ∃ X, l[k]! = X := ⟨_, rfl⟩
        obtain ⟨Y, hY⟩ : ∃ Y, m[k]! = Y := ⟨_, rfl⟩
        rw [hX] at x1 x2 x3 hst
        rw [hY] at y1 y2 y3 hst
        obtain ⟨X1, X2, X3⟩ := X
        obtain ⟨Y1, Y2, Y3⟩ := Y
        dsimp only at x1 x2 x3 y1 y2 y3
        clear hX hY hc1 hc2 HK e e'
        by_cases g1 : X1 = Y1
        · by_cases g2 : X2 = Y2
          · cases g3 : X3.toList == Y3.toList with
            | true =>
              have e3 : X3 = Y3 := by rw [str_eq] at g3; simpa using g3
              subst g1 g2 e3
              have HT : Hid (sameR (l.drop (k + 1)) (m.drop (k + 1)) = S) := Lib.hid (by rw [hst]; simp)
              clear hst g3
              go_wp2_with fail
              go_quiet (fail)
              go_wp2
              go_roundw
              case rel => exact ⟨k + 1, hlt, by go_num, HT, _, rfl⟩
              case measure => simp [RowKit.intOf]; omega
            | false =>
              have e3 : ¬ X3 = Y3 := by rw [str_eq] at g3; simpa using g3
              have HT : Hid (S = false) := Lib.hid (by rw [hst]; simp [e3])
              subst g1 g2
              clear hst e3
              go_wp2_with fail
              go_quiet (fail)
              go_wp2
              go_ret
              exact ⟨ret_bool HT.out.symm, by rw [World.drewN_drewN]; exact below_draws w _⟩
          · have HT : Hid (S = false) := Lib.hid (by rw [hst]; simp [g2])
            have g2b : (X2 != Y2) = true := by simpa using g2
            subst g1
            clear hst
            go_wp2_with fail
            go_quiet (fail)
            go_wp2
            go_ret
            exact ⟨ret_bool HT.out.symm, by rw [World.drewN_drewN]; exact below_draws w _⟩
        · have HT : Hid (S = false) := Lib.hid (by rw [hst]; simp [g1])
          have g1b : (X1 != Y1) = true := by simpa using g1
          clear hst
          go_wp2_with fail
          go_quiet (fail)
          go_wp2
          go_ret
          exact ⟨ret_bool HT.out.symm, by rw [World.drewN_drewN]; exact below_draws w _⟩
      · have hkn : k = n1 := by omega
        subst hkn
        have hl : S = true := by rw [← HK.out, List.drop_eq_nil_of_le (by rw [N1.out]; omega), List.drop_eq_nil_of_le (by rw [N2.out]; omega)]; rfl
        have HL := Lib.hid hl
        clear hl HK
        go_wp2
        go_ret
        exact ⟨ret_bool HL.out.symm, below_draws w z⟩
  · have e0 : sameR l m = false := decide_eq_false (fun e => hn (by rw [← hn1, ← hn2, e]))
    rw [e0]
    have g1 : ((n1 : Int) != (n2 : Int)) = true := by simp; omega
    have g2 : ¬ (n1 : Int) = (n2 : Int) := by omega
    clear hn1 hn2 e0 hn
    go_enter Tryz.func44, Tryz.ntmps44
    go_wp2
    go_ret
    exact ⟨rfl, Below.refl _ _⟩

end Go.Proofs.YtafincmcmgedbaaGreatDoor
