/-
  The walks of the statements of layer 2 on tags' numbers, and on Find.
-/
import Derived.Test.YteiaolejoangnaaDoorWalksI
namespace Go.Proofs.YteiaolejoangnaaDoor
open Go.RowKit

set_option maxHeartbeats 1000000 in
theorem lawMay_walk (p k : Int) (w : World) (hT : OwnT w) :
    Calls Tryd.prog 5 #[.int .i64 p, .int .i64 k] w fun e w' => e = .returned (.bool true) ∧ Below w.heap.size w w' := by
  go_enter Tryd.func5, Tryd.ntmps5
  go_wp2_with (first
    | (go_at_call 20; (with_reducible refine (may_any p k _).mono ?_); rintro e w1 ⟨rfl, rfl⟩)
    | (go_at_call 21; (with_reducible refine (rmay_any p k _).mono ?_); rintro e w1 ⟨rfl, rfl⟩)
    | (go_at_call 17; (with_reducible refine (awake_any _ hT).mono ?_); rintro e w1 ⟨rfl, hb⟩))
  go_ret
  exact ⟨rfl, hb⟩

set_option maxHeartbeats 1000000 in
theorem lawTell_walk (t k : Int) (w : World) (hT : OwnT w) :
    Calls Tryd.prog 3 #[.int .i64 t, .int .i64 k] w fun e w' => e = .returned (.bool true) ∧ Below w.heap.size w w' := by
  go_enter Tryd.func3, Tryd.ntmps3
  go_wp2_with (first
    | (go_at_call 9; (with_reducible refine (line_any k _).mono ?_); rintro e w1 ⟨rfl, rfl⟩)
    | (go_at_call 10; (with_reducible refine (rline_any k _).mono ?_); rintro e w1 ⟨rfl, rfl⟩)
    | (go_at_call 11; (with_reducible refine (name_any t _ hT).mono ?_); rintro e w1 ⟨rfl, rfl⟩)
    | (go_at_call 12; (with_reducible refine (rname_any t _).mono ?_); rintro e w1 ⟨rfl, hb1⟩; have hT1 := hT.in hb1)
    | (go_at_call 13; (with_reducible refine (class_any t _).mono ?_); rintro e w1 ⟨rfl, rfl⟩)
    | (go_at_call 14; (with_reducible refine (rclass_any t _).mono ?_); rintro e w1 ⟨rfl, rfl⟩)
    | (go_at_call 15; (with_reducible refine (hd_any t _).mono ?_); rintro e w1 ⟨rfl, rfl⟩)
    | (go_at_call 16; (with_reducible refine (rhd_any t _).mono ?_); rintro e w1 ⟨rfl, rfl⟩)
    | (go_at_call 17; (with_reducible refine (awake_any _ hT1).mono ?_); rintro e w1 ⟨rfl, hb2⟩))
  go_ret
  exact ⟨rfl, hb1.trans (hb2.mono hb1.size)⟩

set_option maxHeartbeats 1000000 in
theorem lawFind_walk (s : ByteArray) (w : World) (hT : OwnT w) (hs : s.size ≤ maxLen) :
    Calls Tryd.prog 4 #[.string s] w fun e w' => e = .returned (.bool true) ∧ Below w.heap.size w w' := by
  have hs' : s.size ≤ 9223372036854775807 := hs
  by_cases hl : 1000 < s.size
  · go_enter Tryd.func4, Tryd.ntmps4
    go_wp2_with (go_at_call 17; (with_reducible refine (awake_any _ hT).mono ?_); rintro e w1 ⟨rfl, hb⟩)
    go_ret
    exact ⟨rfl, hb⟩
  · go_enter Tryd.func4, Tryd.ntmps4
    go_wp2_with (first
      | (go_at_call 18; (with_reducible refine (find_at s _ _ _ hT hs rfl rfl).mono ?_); rintro e w1 ⟨rfl, hb1⟩; have hT1 := hT.in hb1)
      | (go_at_call 19; (with_reducible refine (rfind_at s _ _ _ hs rfl rfl).mono ?_); rintro e w2 ⟨rfl, hb2⟩; have hT2 := hT1.in hb2)
      | (go_at_call 17; (with_reducible refine (awake_any _ hT2).mono ?_); rintro e w3 ⟨rfl, hb3⟩))
    go_ret
    have hb := hb1.trans (hb2.mono hb1.size)
    exact ⟨rfl, hb.trans (hb3.mono hb.size)⟩

theorem content {p k : Int} (h : may p k = true) : (cls p = 2 ∧ (cls k = 2 ∨ cls k = 3) ∨ (cls p = 3 ∨ cls p = 4) ∧ (cls k = 1 ∨ cls k = 4 ∨ cls k = 5)) ∧ (k == 1) = false := by
  unfold may at h
  have k1 : k = 1 → cls k = 2 := by intro e; subst e; decide
  have l9 : isl k = true → cls k = 2 := by
    intro e
    have : k = 7 ∨ k = 8 := by simpa [isl] using e
    rcases this with rfl | rfl <;> decide
  have l1 : isl k = true → k ≠ 1 := by
    intro e
    have : k = 7 ∨ k = 8 := by simpa [isl] using e
    rcases this with rfl | rfl <;> decide
  have c9 : k = 9 → cls k = 3 := by intro e; subst e; decide
  split at h
  · rename_i h2
    unfold inb at h
    split at h
    · simp only [Bool.or_eq_true, beq_iff_eq] at h
      rcases h with h | h
      · exact ⟨Or.inl ⟨h2, Or.inl (l9 h)⟩, by simpa using l1 h⟩
      · exact ⟨Or.inl ⟨h2, Or.inr (c9 h)⟩, by subst h; rfl⟩
    · split at h
      · rename_i h3
        exact ⟨Or.inl ⟨h2, Or.inl h3⟩, by simpa using h⟩
      · split at h
        · rename_i h3
          exact ⟨Or.inl ⟨h2, Or.inr h3⟩, by
            have : k ≠ 1 := fun e => by have := k1 e; omega
            simpa using this⟩
        · cases h
  · have il : inl k = true → (cls k = 1 ∨ cls k = 4 ∨ cls k = 5) ∧ (k == 1) = false := by
      intro e
      have e' : cls k = 4 ∨ cls k = 5 ∨ cls k = 1 := by simpa [inl] using e
      refine ⟨by omega, ?_⟩
      have : k ≠ 1 := fun e2 => by have := k1 e2; omega
      simpa using this
    split at h
    · rename_i h4
      split at h
      · cases h
      · exact ⟨Or.inr ⟨Or.inr h4, (il h).1⟩, (il h).2⟩
    · split at h
      · rename_i h3
        exact ⟨Or.inr ⟨Or.inl h3, (il h).1⟩, (il h).2⟩
      · cases h

theorem may_9 (k : Int) : may 9 k = may 2 k := by
  simp [may, show cls 9 = 3 by decide, show cls 2 = 3 by decide]
theorem may_6 (k : Int) : may 6 k = may 1 k := by
  simp [may, inb, show cls 6 = 2 by decide, show cls 1 = 2 by decide, show isl 6 = false by decide, show isl 1 = false by decide]
theorem may_8 (k : Int) : may 8 k = may 7 k := by
  simp [may, inb, show cls 8 = 2 by decide, show cls 7 = 2 by decide, show isl 8 = true by decide, show isl 7 = true by decide]

end Go.Proofs.YteiaolejoangnaaDoor
