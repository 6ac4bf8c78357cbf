/-
  The contracts of what only computes on characters: letters, classes; and of the program's and the document's Name.
-/
import Derived.Test.YtcccaaleekednaaDoorRows
import Derived.Test.YtcccaaleekednaaDoorRow
import Derived.WalkKit
import Derived.WalkSpells
import Derived.WalkLawsBesides
import Derived.BigGuardPart
import Derived.Lib.Hide
import Derived.Lib.OthersKept
namespace Go.Proofs.YtcccaaleekednaaDoor
open Go.RowKit Go.Lib

theorem ret_bool {a b : Bool} (h : a = b) : Ending.returned (.bool a) = .returned (.bool b) := by rw [h]
theorem ret_int {k : IntKind} {a b : Int} (h : a = b) : Ending.returned (.int k a) = .returned (.int k b) := by rw [h]

/-- The same, on numbers that may be below 0. -/
def letZ (c : Int) : Bool := decide (97 ≤ c ∧ c ≤ 122)
def nameZ (c : Int) : Bool := decide ((97 ≤ c ∧ c ≤ 122) ∨ (48 ≤ c ∧ c ≤ 57) ∨ c = 45)
def mayZ (c : Int) : Bool := decide (32 ≤ c ∧ c ≠ 127 ∧ ¬ (55296 ≤ c ∧ c ≤ 57343) ∧ c ≤ 1114111)
theorem nameZ_nat (c : Nat) : nameZ (c : Int) = nameN c := by
  unfold nameZ nameN; rw [decide_eq_decide]; omega
theorem letZ_nat (c : Nat) : letZ (c : Int) = letN c := by
  unfold letZ letN; rw [decide_eq_decide]; omega
theorem mayZ_nat (c : Nat) : mayZ (c : Int) = mayN c := by
  unfold mayZ mayN; rw [decide_eq_decide]; omega

set_option maxHeartbeats 1000000 in
theorem letter_any (c : Int) (w : World) :
    Calls Tryd.prog 30 #[.int .i32 c] w fun e w' => e = .returned (.bool (letZ c)) ∧ w = w' := by
  go_enter Tryd.func30, Tryd.ntmps30
  go_wp2
  all_goals go_ret
  all_goals (refine ⟨ret_bool ?_, rfl⟩; rw [Bool.eq_iff_iff]; first | (simp_all [letZ]; done) | (simp_all [letZ]; omega))

set_option maxHeartbeats 1000000 in
theorem ofName_any (c : Int) (w : World) :
    Calls Tryd.prog 31 #[.int .i32 c] w fun e w' => e = .returned (.bool (nameZ c)) ∧ w = w' := by
  by_cases h : 97 ≤ c ∧ c ≤ 122
  · have e1 : letZ c = true := decide_eq_true h
    have e2 : nameZ c = true := by unfold nameZ; exact decide_eq_true (.inl h)
    rw [e2]
    have hc := letter_any c
    rw [e1] at hc
    clear h e1 e2
    go_enter Tryd.func31, Tryd.ntmps31
    go_wp2_with (go_at_call 30; ((with_reducible refine (hc _).mono ?_); rintro e w1 ⟨rfl, rfl⟩))
    all_goals go_ret
    all_goals exact ⟨rfl, rfl⟩
  · have e1 : letZ c = false := decide_eq_false h
    have e2 : nameZ c = decide ((48 ≤ c ∧ c ≤ 57) ∨ c = 45) := by unfold nameZ; rw [decide_eq_decide]; omega
    rw [e2]
    have hc := letter_any c
    rw [e1] at hc
    clear h e1 e2
    go_enter Tryd.func31, Tryd.ntmps31
    go_wp2_with (go_at_call 30; ((with_reducible refine (hc _).mono ?_); rintro e w1 ⟨rfl, rfl⟩))
    all_goals go_ret
    all_goals (refine ⟨ret_bool ?_, rfl⟩; rw [Bool.eq_iff_iff]; first | (simp_all; done) | (simp_all; omega))

/-- What a class says of whether a character may be. -/
def ClassPost (c : Int) (w : World) (e : Ending) (w' : World) : Prop := ∃ n : Int, e = .returned (.int .i64 n) ∧ decide (2 ≤ n) = mayZ c ∧ w = w'

set_option maxHeartbeats 4000000 in
theorem class_any (c : Int) (w : World) : Calls Tryd.prog 46 #[.int .i32 c] w (ClassPost c w) := by
  go_enter Tryd.func46, Tryd.ntmps46
  go_wp2
  all_goals go_ret
  all_goals (refine ⟨_, rfl, ?_, rfl⟩; unfold mayZ; rw [decide_eq_decide]; first | done | omega | (simp_all; done) | (simp_all; omega))

set_option maxHeartbeats 4000000 in
theorem rclass_any (c : Int) (w : World) : Calls Tryd.prog 47 #[.int .i32 c] w (ClassPost c w) := by
  go_enter Tryd.func47, Tryd.ntmps47
  go_wp2
  all_goals go_ret
  all_goals (refine ⟨_, rfl, ?_, rfl⟩; unfold mayZ; rw [decide_eq_decide]; first | done | omega | (simp_all; done) | (simp_all; omega))

theorem may_any (c : Int) (w : World) : Calls Tryd.prog 33 #[.int .i32 c] w fun e w' => e = .returned (.bool (mayZ c)) ∧ w = w' := by
  obtain ⟨M, hM⟩ : ∃ M, mayZ c = M := ⟨_, rfl⟩
  have hc := class_any c
  unfold ClassPost at hc
  rw [hM] at hc ⊢
  clear hM
  go_enter Tryd.func33, Tryd.ntmps33
  go_wp2_with (go_at_call 46; ((with_reducible refine (hc _).mono ?_); rintro e w1 ⟨n, rfl, rfl, rfl⟩))
  go_ret
  exact ⟨rfl, rfl⟩

theorem rmay_any (c : Int) (w : World) : Calls Tryd.prog 35 #[.int .i32 c] w fun e w' => e = .returned (.bool (mayZ c)) ∧ w = w' := by
  obtain ⟨M, hM⟩ : ∃ M, mayZ c = M := ⟨_, rfl⟩
  have hc := rclass_any c
  unfold ClassPost at hc
  rw [hM] at hc ⊢
  clear hM
  go_enter Tryd.func35, Tryd.ntmps35
  go_wp2_with (go_at_call 47; ((with_reducible refine (hc _).mono ?_); rintro e w1 ⟨n, rfl, rfl, rfl⟩))
  go_ret
  exact ⟨rfl, rfl⟩

end Go.Proofs.YtcccaaleekednaaDoor
