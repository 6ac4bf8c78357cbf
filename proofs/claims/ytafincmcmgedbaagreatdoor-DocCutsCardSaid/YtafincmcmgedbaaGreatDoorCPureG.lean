/-
  Steps and places: plain.
-/
import Derived.Test.YtafincmcmgedbaaGreatDoorCAppG
import Derived.Laws.Bits128

namespace Go.Proofs.YtafincmcmgedbaaGreatDoor
open Go.RowKit Go.Lib

theorem at_place {d : Doc} {a : Nat} (h : a < sizeD d + d.length) : ∃ i k, i < d.length ∧ k ≤ cnt d i ∧ offN d i k = a ∧ atD d (a : Int) = (((i : Int), (k : Int)), 0) := by
  rcases atL_is d 0 a with ⟨i, k, h1, h2, h3, h4⟩ | ⟨h1, _⟩
  · refine ⟨i, k, h1, h2, h3, ?_⟩
    unfold atD
    rw [if_neg (by omega), h4, Nat.zero_add]
  · omega
theorem sizeD_take_mono (d : Doc) {i j : Nat} (h : i ≤ j) : sizeD (d.take i) ≤ sizeD (d.take j) := by
  have := sizeD_take_le (d.take j) i
  rw [List.take_take, Nat.min_eq_left h] at this
  exact this
theorem offN_next {d : Doc} {i k i' k' : Nat} (h1 : i < d.length) (h2 : k ≤ cnt d i) (h : i < i') : offN d i k < offN d i' k' := by
  have a := sizeD_take_mono d (show i + 1 ≤ i' from h)
  rw [sizeD_next h1] at a
  unfold offN
  omega
theorem cmpI_lt {a b : Int} (h : a < b) : cmpI a b = -1 := by unfold cmpI; rw [if_pos h]
theorem cmpI_gt {a b : Int} (h : b < a) : cmpI a b = 1 := by unfold cmpI; rw [if_neg (by omega), if_neg (by omega)]
theorem cmpI_self (a : Int) : cmpI a a = 0 := by unfold cmpI; rw [if_neg (by omega), if_pos rfl]
theorem cmpP_lt1 {a b : Ps} (h : a.1 < b.1) : cmpP a b = -1 := by unfold cmpP; rw [cmpI_lt h]; rfl
theorem cmpP_gt1 {a b : Ps} (h : b.1 < a.1) : cmpP a b = 1 := by unfold cmpP; rw [cmpI_gt h]; rfl
theorem cmpP_eq1 {a b : Ps} (h : a.1 = b.1) : cmpP a b = cmpI a.2 b.2 := by unfold cmpP; rw [h, cmpI_self]; rfl
theorem cmp_off {d : Doc} {i k i' k' : Nat} (h1 : i < d.length) (h2 : k ≤ cnt d i) (h3 : i' < d.length) (h4 : k' ≤ cnt d i') :
    cmpP ((i : Int), (k : Int)) ((i' : Int), (k' : Int)) = cmpI (offN d i k : Nat) (offN d i' k' : Nat) := by
  have e : ∀ a b : Nat, offN d i a < offN d i b ↔ a < b := fun a b => by unfold offN; omega
  rcases Nat.lt_trichotomy i i' with h | h | h
  · have := offN_next (k' := k') h1 h2 h
    rw [cmpP_lt1 (by dsimp only; omega), cmpI_lt (by omega)]
  · subst h
    have a1 := e k k'
    have a2 := e k' k
    rw [show cmpP ((i : Int), (k : Int)) ((i : Int), (k' : Int)) = cmpI k k' from cmpP_eq1 rfl]
    rcases Nat.lt_trichotomy k k' with b | b | b
    · rw [cmpI_lt (by omega), cmpI_lt (by omega)]
    · subst b; rw [cmpI_self, cmpI_self]
    · rw [cmpI_gt (by omega), cmpI_gt (by omega)]
  · have := offN_next (k' := k) h3 h4 h
    rw [cmpP_gt1 (by dsimp only; omega), cmpI_gt (by omega)]
/-- Where the last place is. -/
theorem offset_end {d : Doc} {T : Nat} (h : sizeD d + d.length = T + 1) (h0 : 0 < d.length) : offsetD d (endD d) = ((T : Int), 0) := by
  rw [endD_pos h0, offsetD_mk (by omega) (Nat.le_refl _)]
  have := offN_end h0
  rw [show offN d (d.length - 1) (cnt d (d.length - 1)) = T by omega]
theorem step_off {d : Doc} {i k T : Nat} (h : sizeD d + d.length = T + 1) (h1 : i < d.length) (h2 : k ≤ cnt d i) (z : Int) :
    stepD d ((i : Int), (k : Int)) z = if (T : Int) - (offN d i k : Nat) < z then (endD d, false) else ((atD d ((offN d i k : Nat) + z)).1, decide ((atD d ((offN d i k : Nat) + z)).2 = 0)) := by
  unfold stepD
  rw [clampD_self (isD_mk h1 h2), offset_end h (by omega), offsetD_mk h1 h2]
theorem step_to {d : Doc} {i k i' k' T : Nat} (h : sizeD d + d.length = T + 1) (h1 : i < d.length) (h2 : k ≤ cnt d i) (h3 : i' < d.length) (h4 : k' ≤ cnt d i') {z : Int} (hz : (offN d i k : Nat) + z = (offN d i' k' : Nat)) :
    stepD d ((i : Int), (k : Int)) z = (((i' : Int), (k' : Int)), true) := by
  have hl := offN_lt h3 h4
  obtain ⟨i2, k2, a1, a2, a3, a4⟩ := at_place (d := d) (a := offN d i' k') hl
  obtain ⟨rfl, rfl⟩ := offN_inj a1 a2 h3 h4 a3
  rw [step_off h h1 h2, if_neg (by omega), hz, a4]
  rfl
/-- What a step is: it leads to a place, and back; or it is too far. -/
theorem step_any {d : Doc} {i k T : Nat} (h : sizeD d + d.length = T + 1) (h1 : i < d.length) (h2 : k ≤ cnt d i) (z : Int) :
    (∃ i' k' : Nat, stepD d ((i : Int), (k : Int)) z = (((i' : Int), (k' : Int)), true) ∧ stepD d ((i' : Int), (k' : Int)) (-z) = (((i : Int), (k : Int)), true) ∧ -(T : Int) ≤ z ∧ z ≤ T) ∨
    (stepD d ((i : Int), (k : Int)) z = ((0, 0), false) ∧ z < 0) ∨ (stepD d ((i : Int), (k : Int)) z = (endD d, false) ∧ 0 < z) := by
  have hl := offN_lt h1 h2
  by_cases hz : (T : Int) - (offN d i k : Nat) < z
  · exact .inr (.inr ⟨by rw [step_off h h1 h2, if_pos hz], by omega⟩)
  · by_cases hn : (offN d i k : Nat) + z < 0
    · refine .inr (.inl ⟨?_, by omega⟩)
      rw [step_off h h1 h2, if_neg hz]
      unfold atD
      rw [if_pos hn]
      rfl
    · obtain ⟨a, ha⟩ : ∃ a : Nat, (offN d i k : Nat) + z = (a : Int) := ⟨((offN d i k : Nat) + z).toNat, by omega⟩
      obtain ⟨i', k', b1, b2, b3, b4⟩ := at_place (d := d) (a := a) (by omega)
      subst b3
      exact .inl ⟨i', k', step_to h h1 h2 b1 b2 ha, step_to h b1 b2 h1 h2 (by omega), by omega, by omega⟩
theorem and24 (x : Int) : ∃ N : Nat, bits .and .i64 x 16777215 = (N : Int) ∧ N ≤ 16777215 := by
  have hle : (BitVec.ofInt 64 x &&& BitVec.ofInt 64 16777215).toNat ≤ 16777215 := by
    rw [BitVec.toNat_and]
    exact Nat.and_le_right
  refine ⟨(BitVec.ofInt 64 x &&& BitVec.ofInt 64 16777215).toNat, ?_, hle⟩
  show IntKind.i64.wrap (((BitVec.ofInt 64 x &&& BitVec.ofInt 64 16777215).toNat : Nat) : Int) = _
  exact IntWalk.i64_in _ (by omega)

end Go.Proofs.YtafincmcmgedbaaGreatDoor
