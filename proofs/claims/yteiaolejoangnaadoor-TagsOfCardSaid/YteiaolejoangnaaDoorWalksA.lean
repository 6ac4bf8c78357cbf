/-
  The contracts of layer 2's functions that only compute: class, list, line, box, may, heading, line of a kind; the program's and the document's.
-/
import Derived.Test.YteiaolejoangnaaDoorRows
import Derived.Test.YteiaolejoangnaaDoorPlain
import Derived.WalkKit
import Derived.WalkSpells
import Derived.WalkLawsBesides
namespace Go.Proofs.YteiaolejoangnaaDoor
open Go.RowKit

theorem ret_bool {a b : Bool} (h : a = b) : Ending.returned (.bool a) = .returned (.bool b) := by rw [h]
theorem ret_int {k : IntKind} {a b : Int} (h : a = b) : Ending.returned (.int k a) = .returned (.int k b) := by rw [h]

set_option maxHeartbeats 1000000 in
theorem class_any (t : Int) (w : World) :
    Calls Tryd.prog 13 #[.int .i64 t] w fun e w' => e = .returned (.int .i64 (cls t)) ∧ w = w' := by
  go_enter Tryd.func13, Tryd.ntmps13
  go_wp2
  all_goals go_ret
  all_goals (refine ⟨?_, rfl⟩; congr 2; simp_all [cls])

set_option maxHeartbeats 1000000 in
theorem rclass_any (t : Int) (w : World) :
    Calls Tryd.prog 14 #[.int .i64 t] w fun e w' => e = .returned (.int .i64 (cls t)) ∧ w = w' := by
  by_cases h0 : t < 0 ∨ 16 < t
  · have e : cls t = 0 := by unfold cls; repeat' split
                             all_goals omega
    rw [e]
    rcases h0 with h | h
    · go_enter Tryd.func14, Tryd.ntmps14
      go_wp2
      go_ret
      exact ⟨rfl, rfl⟩
    · have h' : ¬ t < 0 := by omega
      go_enter Tryd.func14, Tryd.ntmps14
      go_wp2
      go_ret
      exact ⟨rfl, rfl⟩
  · have hc : t = 0 ∨ t = 1 ∨ t = 2 ∨ t = 3 ∨ t = 4 ∨ t = 5 ∨ t = 6 ∨ t = 7 ∨ t = 8 ∨ t = 9 ∨ t = 10 ∨ t = 11 ∨ t = 12 ∨ t = 13 ∨ t = 14 ∨ t = 15 ∨ t = 16 := by omega
    rcases hc with rfl | rfl | rfl | rfl | rfl | rfl | rfl | rfl | rfl | rfl | rfl | rfl | rfl | rfl | rfl | rfl | rfl
    all_goals
      go_enter Tryd.func14, Tryd.ntmps14
      go_wp2
      go_ret
      exact ⟨rfl, rfl⟩

theorem isl_any (t : Int) (w : World) :
    Calls Tryd.prog 33 #[.int .i64 t] w fun e w' => e = .returned (.bool (isl t)) ∧ w = w' := by
  go_enter Tryd.func33, Tryd.ntmps33
  go_wp2
  all_goals go_ret
  all_goals (refine ⟨?_, rfl⟩; first | rfl | (congr 2; simp_all [isl]))

theorem inl_any (k : Int) (w : World) :
    Calls Tryd.prog 31 #[.int .i64 k] w fun e w' => e = .returned (.bool (inl k)) ∧ w = w' := by
  go_enter Tryd.func31, Tryd.ntmps31
  go_wp2_with (go_at_call 13; refine (class_any _ _).mono ?_; rintro e w' ⟨rfl, rfl⟩)
  all_goals go_ret
  all_goals (refine ⟨?_, rfl⟩; congr 2; simp_all [inl])

set_option maxHeartbeats 1000000 in
theorem inb_any (p k : Int) (w : World) :
    Calls Tryd.prog 30 #[.int .i64 p, .int .i64 k] w fun e w' => e = .returned (.bool (inb p k)) ∧ w = w' := by
  go_enter Tryd.func30, Tryd.ntmps30
  go_wp2_with (first | (go_at_call 13; refine (class_any _ _).mono ?_; rintro e w' ⟨rfl, rfl⟩) | (go_at_call 33; refine (isl_any _ _).mono ?_; rintro e w' ⟨rfl, rfl⟩))
  all_goals go_ret
  all_goals (refine ⟨?_, rfl⟩; congr 2; simp_all [inb])

set_option maxHeartbeats 1000000 in
theorem may_any (p k : Int) (w : World) :
    Calls Tryd.prog 20 #[.int .i64 p, .int .i64 k] w fun e w' => e = .returned (.bool (may p k)) ∧ w = w' := by
  go_enter Tryd.func20, Tryd.ntmps20
  go_wp2_with (first | (go_at_call 13; refine (class_any _ _).mono ?_; rintro e w' ⟨rfl, rfl⟩) | (go_at_call 30; refine (inb_any _ _ _).mono ?_; rintro e w' ⟨rfl, rfl⟩) | (go_at_call 31; refine (inl_any _ _).mono ?_; rintro e w' ⟨rfl, rfl⟩))
  all_goals go_ret
  all_goals (refine ⟨?_, rfl⟩; congr 2; simp_all [may])

theorem hd_any (t : Int) (w : World) :
    Calls Tryd.prog 15 #[.int .i64 t] w fun e w' => e = .returned (.int .i64 (hd t)) ∧ w = w' := by
  by_cases h3 : t < 3
  · go_enter Tryd.func15, Tryd.ntmps15
    go_wp2
    go_ret
    exact ⟨by simp [hd, h3], rfl⟩
  · by_cases h5 : 5 < t
    · go_enter Tryd.func15, Tryd.ntmps15
      go_wp2
      go_ret
      exact ⟨by simp [hd, h5], rfl⟩
    · have e : hd t = t - 3 + 1 := by simp [hd, h3, h5]
      rw [e]
      clear e
      go_enter Tryd.func15, Tryd.ntmps15
      go_wp2
      go_ret
      exact ⟨rfl, rfl⟩

theorem rhd_any (t : Int) (w : World) :
    Calls Tryd.prog 16 #[.int .i64 t] w fun e w' => e = .returned (.int .i64 (hd t)) ∧ w = w' := by
  by_cases hc : t = 3 ∨ t = 4 ∨ t = 5
  · rcases hc with rfl | rfl | rfl
    all_goals
      go_enter Tryd.func16, Tryd.ntmps16
      go_wp2
      go_ret
      exact ⟨rfl, rfl⟩
  · have e : hd t = 0 := by unfold hd; rw [if_pos (by omega)]
    have h3 : (t == 3) = false := by simp; omega
    have h4 : (t == 4) = false := by simp; omega
    have h5 : (t == 5) = false := by simp; omega
    rw [e]
    clear hc e
    go_enter Tryd.func16, Tryd.ntmps16
    go_wp2
    go_ret
    exact ⟨rfl, rfl⟩

theorem line_any (k : Int) (w : World) :
    Calls Tryd.prog 9 #[.int .i64 k] w fun e w' => e = .returned (.tuple #[.int .i64 (lnT k), .bool (lnB k)]) ∧ w = w' := by
  by_cases h0 : k < 0
  · have e1 : lnT k = 0 := by simp [lnT, h0]
    have e2 : lnB k = false := by simp [lnB]; omega
    rw [e1, e2]
    clear e1 e2
    go_enter Tryd.func9, Tryd.ntmps9
    go_wp2
    go_ret2
    exact ⟨rfl, rfl⟩
  · by_cases h3 : 3 < k
    · have e1 : lnT k = 0 := by simp [lnT, h3]
      have e2 : lnB k = false := by simp [lnB]; omega
      rw [e1, e2]
      clear e1 e2
      go_enter Tryd.func9, Tryd.ntmps9
      go_wp2
      go_ret2
      exact ⟨rfl, rfl⟩
    · have e1 : lnT k = 2 + k := by simp [lnT, h0, h3]
      have e2 : lnB k = true := by simp [lnB]; omega
      rw [e1, e2]
      clear e1 e2
      go_enter Tryd.func9, Tryd.ntmps9
      go_wp2
      go_ret2
      exact ⟨rfl, rfl⟩

theorem rline_any (k : Int) (w : World) :
    Calls Tryd.prog 10 #[.int .i64 k] w fun e w' => e = .returned (.tuple #[.int .i64 (lnT k), .bool (lnB k)]) ∧ w = w' := by
  by_cases hc : k = 0 ∨ k = 1 ∨ k = 2 ∨ k = 3
  · rcases hc with rfl | rfl | rfl | rfl
    all_goals
      go_enter Tryd.func10, Tryd.ntmps10
      go_wp2
      go_ret2
      exact ⟨rfl, rfl⟩
  · have h0 : (k == 0) = false := by simp; omega
    have h1 : (k == 1) = false := by simp; omega
    have h2 : (k == 2) = false := by simp; omega
    have h3 : (k == 3) = false := by simp; omega
    have e1 : lnT k = 0 := by unfold lnT; rw [if_pos (by omega)]
    have e2 : lnB k = false := by simp [lnB]; omega
    rw [e1, e2]
    clear e1 e2 hc
    go_enter Tryd.func10, Tryd.ntmps10
    go_wp2
    all_goals go_ret2
    all_goals first | exact ⟨rfl, rfl⟩ | (exfalso; simp_all)

end Go.Proofs.YteiaolejoangnaaDoor
