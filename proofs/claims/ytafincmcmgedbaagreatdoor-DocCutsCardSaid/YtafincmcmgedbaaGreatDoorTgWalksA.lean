/-
  The contracts of what only computes on characters: letters, classes; and of the program's and the document's Name.
-/
import Derived.Test.YtafincmcmgedbaaGreatDoorRows
import Derived.Test.YtafincmcmgedbaaGreatDoorTgWords
import Derived.WalkKit
import Derived.WalkSpells
import Derived.WalkLawsBesides
import Derived.BigGuardPart
import Derived.Lib.Hide
import Derived.Lib.OthersKept
namespace Go.Proofs.YtafincmcmgedbaaGreatDoor.Tg
open Go.RowKit Go.Lib

theorem ret_bool {a b : Bool} (h : a = b) : Ending.returned (.bool a) = .returned (.bool b) := by rw [h]
theorem ret_int {k : IntKind} {a b : Int} (h : a = b) : Ending.returned (.int k a) = .returned (.int k b) := by rw [h]

/-- The same, on numbers that may be below 0. -/
def letZ (c : Int) : Bool := decide (97 ≤ c ∧ c ≤ 122)
def nameZ (c : Int) : Bool := decide ((97 ≤ c ∧ c ≤ 122) ∨ (48 ≤ c ∧ c ≤ 57) ∨ c = 45)
def mayZ (c : Int) : Bool := decide (32 ≤ c ∧ c ≠ 127 ∧ ¬ (55296 ≤ c ∧ c ≤ 57343) ∧ c ≤ 1114111)
theorem nameZ_nat (c : Nat) : nameZ (c : Int) = nameN c := by
  unfold nameZ nameN; rw [decide_eq_decide]; omega
theorem letZ_nat (c : Nat) : letZ (c : Int) = letN c := by
  unfold letZ letN; rw [decide_eq_decide]; omega
theorem mayZ_nat (c : Nat) : mayZ (c : Int) = mayN c := by
  unfold mayZ mayN; rw [decide_eq_decide]; omega

/-- What a class says of whether a character may be. -/
def ClassPost (c : Int) (w : World) (e : Ending) (w' : World) : Prop := ∃ n : Int, e = .returned (.int .i64 n) ∧ decide (2 ≤ n) = mayZ c ∧ w = w'

set_option maxHeartbeats 4000000 in
theorem class_any (c : Int) (w : World) : Calls Tryz.prog 138 #[.int .i32 c] w (ClassPost c w) := by
  go_enter Tryz.func138, Tryz.ntmps138
  go_wp2
  all_goals go_ret
  all_goals (refine ⟨_, rfl, ?_, rfl⟩; unfold mayZ; rw [decide_eq_decide]; first | done | omega | (simp_all; done) | (simp_all; omega))

set_option maxHeartbeats 4000000 in
theorem rclass_any (c : Int) (w : World) : Calls Tryz.prog 126 #[.int .i32 c] w (ClassPost c w) := by
  go_enter Tryz.func126, Tryz.ntmps126
  go_wp2
  all_goals go_ret
  all_goals (refine ⟨_, rfl, ?_, rfl⟩; unfold mayZ; rw [decide_eq_decide]; first | done | omega | (simp_all; done) | (simp_all; omega))

theorem may_any (c : Int) (w : World) : Calls Tryz.prog 132 #[.int .i32 c] w fun e w' => e = .returned (.bool (mayZ c)) ∧ w = w' := by
  obtain ⟨M, hM⟩ : ∃ M, mayZ c = M := ⟨_, rfl⟩
  have hc := class_any c
  unfold ClassPost at hc
  rw [hM] at hc ⊢
  clear hM
  go_enter Tryz.func132, Tryz.ntmps132
  go_wp2_with (go_at_call 138; ((with_reducible refine (hc _).mono ?_); rintro e w1 ⟨n, rfl, rfl, rfl⟩))
  go_ret
  exact ⟨rfl, rfl⟩

theorem rmay_any (c : Int) (w : World) : Calls Tryz.prog 100 #[.int .i32 c] w fun e w' => e = .returned (.bool (mayZ c)) ∧ w = w' := by
  obtain ⟨M, hM⟩ : ∃ M, mayZ c = M := ⟨_, rfl⟩
  have hc := rclass_any c
  unfold ClassPost at hc
  rw [hM] at hc ⊢
  clear hM
  go_enter Tryz.func100, Tryz.ntmps100
  go_wp2_with (go_at_call 126; ((with_reducible refine (hc _).mono ?_); rintro e w1 ⟨n, rfl, rfl, rfl⟩))
  go_ret
  exact ⟨rfl, rfl⟩

end Go.Proofs.YtafincmcmgedbaaGreatDoor.Tg
