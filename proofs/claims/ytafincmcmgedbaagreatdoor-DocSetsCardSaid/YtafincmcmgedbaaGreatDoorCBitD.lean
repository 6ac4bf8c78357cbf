/-
  (The laws of bits of wip/cells Bit, without what leans on long.) Bits set and cleared: twice is once; what was set is there, what was cleared is not; low ones stay low. A row's links have lengths that are gone through.
-/
import Derived.Test.YtafincmcmgedbaaGreatDoorCAllSome
import Derived.Test.YtafincmcmgedbaaGreatDoorCMay

namespace Go.Proofs.YtafincmcmgedbaaGreatDoor
open Go.RowKit Go.Lib

abbrev B64 := BitVec 64
theorem wrap_bits (r : B64) : wrap64 (r.toNat : Int) = r.toInt := by
  have h1 := BitVec.toInt_eq_toNat_cond r
  have h2 := r.isLt
  unfold wrap64
  rw [h1]
  split <;> omega
theorem bits_or (x y : Int) : bits .or .i64 x y = (BitVec.ofInt 64 x ||| BitVec.ofInt 64 y).toInt := by
  rw [← wrap_bits]; unfold bits wrap64; exact IntKind.wrap_i64 _
theorem bits_and (x y : Int) : bits .and .i64 x y = (BitVec.ofInt 64 x &&& BitVec.ofInt 64 y).toInt := by
  rw [← wrap_bits]; unfold bits wrap64; exact IntKind.wrap_i64 _
theorem bits_andNot (x y : Int) : bits .andNot .i64 x y = (BitVec.ofInt 64 x &&& ~~~BitVec.ofInt 64 y).toInt := by
  rw [← wrap_bits]; unfold bits wrap64; exact IntKind.wrap_i64 _
theorem ofInt_bits (r : B64) : BitVec.ofInt 64 r.toInt = r := BitVec.ofInt_toInt

def setZ (x s c : Int) : Int := overZ x (lowZ s) (lowZ c)
def setB (x s c : B64) : B64 := (x &&& ~~~(c &&& 15#64)) ||| (s &&& 15#64)
theorem low_is (x : Int) : lowZ x = (BitVec.ofInt 64 x &&& 15#64).toInt := by unfold lowZ; rw [bits_and]; rfl
theorem set_is (x s c : Int) : setZ x s c = (setB (BitVec.ofInt 64 x) (BitVec.ofInt 64 s) (BitVec.ofInt 64 c)).toInt := by
  unfold setZ overZ setB
  rw [low_is, low_is, bits_or, bits_andNot, ofInt_bits, ofInt_bits, ofInt_bits]
theorem setB_twice (x s c : B64) : setB (setB x s c) s c = setB x s c := by
  apply BitVec.eq_of_getLsbD_eq
  intro i hi
  unfold setB
  simp only [BitVec.getLsbD_or, BitVec.getLsbD_and, BitVec.getLsbD_not, hi, decide_true, Bool.true_and]
  generalize x.getLsbD i = a
  generalize s.getLsbD i = b
  generalize c.getLsbD i = d
  generalize (15#64).getLsbD i = e
  revert a b d e
  decide
theorem setB_has (x s c : B64) : setB x s c &&& (s &&& 15#64) = s &&& 15#64 := by
  apply BitVec.eq_of_getLsbD_eq
  intro i hi
  unfold setB
  simp only [BitVec.getLsbD_or, BitVec.getLsbD_and, BitVec.getLsbD_not, hi, decide_true, Bool.true_and]
  generalize x.getLsbD i = a
  generalize s.getLsbD i = b
  generalize c.getLsbD i = d
  generalize (15#64).getLsbD i = e
  revert a b d e
  decide
theorem setB_lacks (x s c : B64) : setB x s c &&& ((c &&& 15#64) &&& ~~~s) = 0#64 := by
  apply BitVec.eq_of_getLsbD_eq
  intro i hi
  unfold setB
  simp only [BitVec.getLsbD_or, BitVec.getLsbD_and, BitVec.getLsbD_not, BitVec.getLsbD_zero, hi, decide_true, Bool.true_and]
  generalize x.getLsbD i = a
  generalize s.getLsbD i = b
  generalize c.getLsbD i = d
  generalize (15#64).getLsbD i = e
  revert a b d e
  decide
theorem setB_low (x s c : B64) (hx : x &&& 15#64 = x) : setB x s c &&& 15#64 = setB x s c := by
  rw [← hx]
  apply BitVec.eq_of_getLsbD_eq
  intro i hi
  unfold setB
  simp only [BitVec.getLsbD_or, BitVec.getLsbD_and, BitVec.getLsbD_not, hi, decide_true, Bool.true_and]
  generalize x.getLsbD i = a
  generalize s.getLsbD i = b
  generalize c.getLsbD i = d
  generalize (15#64).getLsbD i = e
  revert a b d e
  decide
theorem set_twice (x s c : Int) : setZ (setZ x s c) s c = setZ x s c := by
  rw [set_is (setZ x s c), set_is x, ofInt_bits, setB_twice]
theorem set_has (x s c : Int) : andZ (setZ x s c) (lowZ s) = lowZ s := by
  unfold andZ
  rw [bits_and, set_is, low_is, ofInt_bits, ofInt_bits, setB_has]
theorem set_lacks (x s c : Int) : andZ (setZ x s c) (bits .andNot .i64 (bits .and .i64 c 15) s) = 0 := by
  have e : bits .and .i64 c 15 = (BitVec.ofInt 64 c &&& 15#64).toInt := low_is c
  unfold andZ
  rw [e, bits_and, bits_andNot, set_is, ofInt_bits, ofInt_bits, ofInt_bits, setB_lacks]
  rfl
theorem low_small {x : Int} (h0 : 0 ≤ x) (h1 : x ≤ 15) : BitVec.ofInt 64 x &&& 15#64 = BitVec.ofInt 64 x := by
  obtain ⟨n, rfl⟩ := Int.eq_ofNat_of_zero_le h0
  have hn : n < 16 := by omega
  have : ∀ n : Fin 16, BitVec.ofInt 64 ((n.val : Nat) : Int) &&& 15#64 = BitVec.ofInt 64 ((n.val : Nat) : Int) := by decide
  exact this ⟨n, hn⟩
theorem small_low {r : B64} (h : r &&& 15#64 = r) : 0 ≤ r.toInt ∧ r.toInt ≤ 15 := by
  have h1 : r.toNat ≤ 15 := by
    rw [← h, BitVec.toNat_and]
    exact Nat.and_le_right
  rw [BitVec.toInt_eq_toNat_cond, if_pos (by omega)]
  omega
theorem set_small {x : Int} (s c : Int) (h0 : 0 ≤ x) (h1 : x ≤ 15) : 0 ≤ setZ x s c ∧ setZ x s c ≤ 15 := by
  rw [set_is]
  exact small_low (setB_low _ _ _ (low_small h0 h1))

/-! ### rows -/
theorem turnR_in {u : Ce → Ce} {l : Row} {f t k : Nat} (hk : k < l.length) (h1 : f ≤ k) (h2 : k < t) : (turnR u l f t)[k]! = u l[k]! := by
  rw [List.getElem!_eq_getElem?_getD, List.getElem!_eq_getElem?_getD, turnR_get, List.getElem?_eq_getElem hk]
  simp [h1, h2]
theorem turnR_off {u : Ce → Ce} {l : Row} {f t k : Nat} (h : ¬ (f ≤ k ∧ k < t)) : (turnR u l f t)[k]! = l[k]! := by
  rw [List.getElem!_eq_getElem?_getD, List.getElem!_eq_getElem?_getD, turnR_get]
  have : (fun c : Ce => if f ≤ k ∧ k < t then u c else c) = id := by
    funext c
    rw [if_neg h]; rfl
  rw [this, Option.map_id]; rfl
theorem turnR_twice {u : Ce → Ce} (hu : ∀ c, u (u c) = u c) (l : Row) (f t : Nat) : turnR u (turnR u l f t) f t = turnR u l f t := by
  apply List.ext_getElem?
  intro i
  rw [turnR_get, turnR_get, Option.map_map]
  congr 1
  funext c
  by_cases h : f ≤ i ∧ i < t
  · simp only [Function.comp, if_pos h, hu]
  · simp only [Function.comp, if_neg h]
theorem setC_twice (s c : Int) (x : Ce) : setC s c (setC s c x) = setC s c x := by
  have h := set_twice x.2.1 s c
  unfold setZ at h
  unfold setC
  rw [h]
theorem part_mem {l : Row} {f t : Nat} {x : Ce} (h : x ∈ (l.drop f).take (t - f)) : ∃ k, f ≤ k ∧ k < t ∧ k < l.length ∧ x = l[k]! := by
  obtain ⟨i, hi, rfl⟩ := List.mem_iff_getElem.1 h
  have h2 : i < t - f ∧ i < l.length - f := by simp only [List.length_take, List.length_drop] at hi; omega
  refine ⟨f + i, by omega, by omega, by omega, ?_⟩
  rw [List.getElem!_eq_getElem?_getD, List.getElem?_eq_getElem (by omega)]
  simp
/-- What was set, all have. -/
theorem all_set (l : Row) (f t : Nat) (s c : Int) (hft : f < t) (ht : t ≤ l.length) : allO (turnR (setC s c) l f t) f t (lowZ s) = true := by
  unfold allO
  have h1 : fitB (turnR (setC s c) l f t).length f t = true := by rw [turnR_length]; exact decide_eq_true (by omega)
  have h2 : ((((turnR (setC s c) l f t).drop (f : Int).toNat).take ((t : Int).toNat - (f : Int).toNat)).any (lacksB (lowZ s))) = false := by
    rw [List.any_eq_false]
    intro x hx
    obtain ⟨k, k1, k2, k3, rfl⟩ := part_mem hx
    rw [Int.toNat_natCast] at k1 k2
    rw [turnR_length] at k3
    rw [turnR_in k3 k1 k2]
    obtain ⟨X, hX⟩ : ∃ X, l[k]! = X := ⟨_, rfl⟩
    rw [hX]
    have h := set_has X.2.1 s c
    unfold setZ at h
    unfold lacksB setC
    simp [h]
  rw [h1, h2, decide_eq_true (show (f : Int) < (t : Int) by omega)]
  rfl
/-- What was cleared, and not set, none has. -/
theorem some_cleared (l : Row) (f t : Nat) (s c : Int) : someO (turnR (setC s c) l f t) f t (bits .andNot .i64 (bits .and .i64 c 15) s) = false := by
  unfold someO
  have h2 : ((((turnR (setC s c) l f t).drop (f : Int).toNat).take ((t : Int).toNat - (f : Int).toNat)).any (hasB (bits .andNot .i64 (bits .and .i64 c 15) s))) = false := by
    rw [List.any_eq_false]
    intro x hx
    obtain ⟨k, k1, k2, k3, rfl⟩ := part_mem hx
    rw [Int.toNat_natCast] at k1 k2
    rw [turnR_length] at k3
    rw [turnR_in k3 k1 k2]
    obtain ⟨X, hX⟩ : ∃ X, l[k]! = X := ⟨_, rfl⟩
    rw [hX]
    have h := set_lacks X.2.1 s c
    unfold setZ at h
    unfold hasB setC
    simp [h]
  rw [h2, Bool.and_false]
theorem may_set (l : Row) (f t : Nat) (s c : Int) (h : mayR l = true) : mayR (turnR (setC s c) l f t) = true := by
  unfold mayR at h ⊢
  rw [List.all_eq_true] at h ⊢
  intro x hx
  obtain ⟨k, hk, rfl⟩ := List.mem_iff_getElem.1 hx
  have hkl : k < l.length := by rw [turnR_length] at hk; exact hk
  have hm := h l[k] (List.getElem_mem hkl)
  have e : (turnR (setC s c) l f t)[k] = if f ≤ k ∧ k < t then setC s c l[k] else l[k] := by
    have := turnR_get (setC s c) l f t k
    rw [List.getElem?_eq_getElem hk, List.getElem?_eq_getElem hkl] at this
    exact Option.some.inj this
  rw [e]
  split
  · have h2 : 0 ≤ (l[k]).2.1 ∧ (l[k]).2.1 ≤ 15 := by
      unfold mayC at hm
      simp only [Bool.and_eq_true, decide_eq_true_eq] at hm
      exact ⟨hm.1.1.2, hm.1.2⟩
    have h3 := set_small s c h2.1 h2.2
    unfold setZ at h3
    unfold mayC setC at *
    simp only [Bool.and_eq_true, decide_eq_true_eq] at hm ⊢
    exact ⟨⟨⟨hm.1.1.1, h3.1⟩, h3.2⟩, hm.2⟩
  · exact hm

end Go.Proofs.YtafincmcmgedbaaGreatDoor
