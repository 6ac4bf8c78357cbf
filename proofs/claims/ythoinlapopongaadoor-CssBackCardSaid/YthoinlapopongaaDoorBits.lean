/-
  The low four bits; a style as Print writes it, as a function of them.
-/
import Derived.Test.YthoinlapopongaaDoorWalksA
import Derived.Lib.Join
namespace Go.Proofs.YthoinlapopongaaDoor
open Go.RowKit Go.Lib

/-- The low four bits of a number. -/
def low (x : Int) : Nat := (BitVec.ofInt 64 x).toNat % 16
theorem low_lt (x : Int) : low x < 16 := Nat.mod_lt _ (by decide)
theorem and_small (n t : Nat) (ht : t < 16) : n &&& t = n % 16 &&& t := by
  have h1 : n % 16 = n &&& 15 := (Nat.and_two_pow_sub_one_eq_mod n 4).symm
  have h2 : 15 &&& t = t := by
    have : ∀ t : Fin 16, 15 &&& t.val = t.val := by decide
    exact this ⟨t, ht⟩
  rw [h1, Nat.and_assoc, h2]
theorem and_le_small (n t : Nat) : n &&& t ≤ t := Nat.and_le_right
theorem ofInt_small (t : Nat) (ht : t < 16) : (BitVec.ofInt 64 (t : Int)).toNat = t := by
  rw [BitVec.toNat_ofInt]; omega
theorem toInt_small (r : B64) (h : r.toNat < 16) : r.toInt = (r.toNat : Int) := by
  rw [BitVec.toInt_eq_toNat_cond, if_pos (by omega)]
theorem and_low (x : Int) (t : Nat) (ht : t < 16) : bits .and .i64 x (t : Int) = ((low x &&& t : Nat) : Int) := by
  have h := and_le_small (BitVec.ofInt 64 x).toNat t
  have e : (BitVec.ofInt 64 x &&& BitVec.ofInt 64 (t : Int)).toNat = (BitVec.ofInt 64 x).toNat &&& t := by rw [BitVec.toNat_and, ofInt_small t ht]
  rw [bits_and, toInt_small _ (by rw [e]; omega), e]
  unfold low
  rw [← and_small _ _ ht]
theorem low_or (x y : Int) : low (bits .or .i64 x y) = low x ||| low y := by
  unfold low
  rw [bits_or, ofInt_bits, BitVec.toNat_or]
  exact Nat.or_mod_two_pow (n := 4)
theorem low_bits (r : B64) : low r.toInt = r.toNat % 16 := by unfold low; rw [ofInt_bits]
theorem low_of (n : Nat) (h : n < 16) : low (n : Int) = n := by
  unfold low; rw [ofInt_small n h]; omega

/-- A part of a style. -/
def pieceS (p u : ByteArray) : ByteArray := p ++ ⟨#[58, 32]⟩ ++ u
def partN (a b t : Nat) (p u : ByteArray) : List ByteArray := if (a ||| b) &&& t = 0 then [] else [pieceS p u]
def ofOneN (a : Nat) (word : ByteArray) : ByteArray := if a = 0 then kNormal else word

def ofStrokesN (a : Nat) : ByteArray := if a = 4 then kUnder else if a = 8 then kThrough else if a = 12 then kBoth else kNone
def listN (a b : Nat) : List ByteArray := partN a b 1 kWeight (ofOneN (a &&& 1) kBold) ++ partN a b 2 kStyle (ofOneN (a &&& 2) kItalic) ++ partN a b 12 kDeco (ofStrokesN (a &&& 12))
/-- The style of what is set and what is cleared. -/
def printN (a b : Nat) : ByteArray := ⟨(Lib.join ((listN a b).map (·.data.toList)) [59, 32]).toArray⟩
theorem listN_small : ∀ a b : Fin 16, (Lib.join ((listN a.val b.val).map (·.data.toList)) [59, 32]).length ≤ 1000 := by decide +kernel

/-- The document's: two parts put together; the style. -/
def joinR (a b : ByteArray) : ByteArray := if a = ⟨#[]⟩ ∨ b = ⟨#[]⟩ then a ++ b else a ++ ⟨#[59, 32]⟩ ++ b
def weightR (a b : Nat) : ByteArray := if a &&& 1 = 1 then pieceS kWeight kBold else if b &&& 1 = 1 then pieceS kWeight kNormal else ⟨#[]⟩
def styleR (a b : Nat) : ByteArray := if a &&& 2 = 2 then pieceS kStyle kItalic else if b &&& 2 = 2 then pieceS kStyle kNormal else ⟨#[]⟩
def decoR (a b : Nat) : ByteArray := if a &&& 12 = 4 then pieceS kDeco kUnder else if a &&& 12 = 8 then pieceS kDeco kThrough else if a &&& 12 = 12 then pieceS kDeco kBoth else if b &&& 12 = 0 then ⟨#[]⟩ else pieceS kDeco kNone
def printR (a b : Nat) : ByteArray := joinR (joinR (weightR a b) (styleR a b)) (decoR a b)

theorem size_zero_iff (w : ByteArray) : w.size = 0 ↔ w = ⟨#[]⟩ := by
  constructor
  · intro h
    have h2 : w.data.toList.length = 0 := by rw [← size_eq]; exact h
    rw [← Lib.mk_data w, List.eq_nil_of_length_eq_zero h2]
  · rintro rfl; rfl
def optS (w : ByteArray) : List ByteArray := if w.size = 0 then [] else [w]
theorem optS_nil : optS ⟨#[]⟩ = [] := rfl
theorem optS_one {w : ByteArray} (h : w ≠ ⟨#[]⟩) : optS w = [w] := by unfold optS; rw [if_neg (fun e => h ((size_zero_iff w).1 e))]
theorem bytes_list {a b : ByteArray} (h : a.data.toList = b.data.toList) : a = b := by rw [← Lib.mk_data a, ← Lib.mk_data b, h]
theorem append_list (a b : ByteArray) : (a ++ b).data.toList = a.data.toList ++ b.data.toList := by rw [ByteArray.data_append, Array.toList_append]
theorem joined_ne (a b : ByteArray) : a ++ ⟨#[59, 32]⟩ ++ b ≠ ⟨#[]⟩ := by
  intro e
  have := congrArg (fun x => x.data.toList.length) e
  simp only [append_list, List.length_append] at this
  simp at this
theorem join_is (x y z : ByteArray) : (⟨(Lib.join ((optS x ++ optS y ++ optS z).map (·.data.toList)) [59, 32]).toArray⟩ : ByteArray) = joinR (joinR x y) z := by
  have empty : ∀ a : ByteArray, (⟨#[]⟩ : ByteArray) ++ a = a := fun a => bytes_list (by rw [append_list]; rfl)
  have empty' : ∀ a : ByteArray, a ++ (⟨#[]⟩ : ByteArray) = a := fun a => bytes_list (by rw [append_list]; simp)
  by_cases hx : x = ⟨#[]⟩ <;> by_cases hy : y = ⟨#[]⟩ <;> by_cases hz : z = ⟨#[]⟩
  all_goals
    apply bytes_list
    simp only [hx, hy, hz, optS_nil, optS_one, joinR, empty, empty', joined_ne, ne_eq, not_false_eq_true, or_self, or_true, or_false, if_true, if_false, List.nil_append, List.append_nil, List.cons_append, List.map_cons, List.map_nil, Lib.join_nil, Lib.join_cons, Lib.joinTail, List.flatten_cons, List.flatten_nil, append_list, List.append_assoc]
theorem low_one : ∀ a : Fin 16, a.val &&& 1 = 0 ∨ a.val &&& 1 = 1 := by decide
theorem low_two : ∀ a : Fin 16, a.val &&& 2 = 0 ∨ a.val &&& 2 = 2 := by decide
theorem low_twelve : ∀ a : Fin 16, a.val &&& 12 = 0 ∨ a.val &&& 12 = 4 ∨ a.val &&& 12 = 8 ∨ a.val &&& 12 = 12 := by decide
theorem part_weight {a b : Nat} (ha : a < 16) (hb : b < 16) : partN a b 1 kWeight (ofOneN (a &&& 1) kBold) = optS (weightR a b) := by
  unfold partN ofOneN weightR
  rw [Nat.and_or_distrib_right]
  rcases low_one ⟨a, ha⟩ with h | h <;> rcases low_one ⟨b, hb⟩ with k | k <;> (dsimp only at h k; rw [h, k]; rfl)
theorem part_style {a b : Nat} (ha : a < 16) (hb : b < 16) : partN a b 2 kStyle (ofOneN (a &&& 2) kItalic) = optS (styleR a b) := by
  unfold partN ofOneN styleR
  rw [Nat.and_or_distrib_right]
  rcases low_two ⟨a, ha⟩ with h | h <;> rcases low_two ⟨b, hb⟩ with k | k <;> (dsimp only at h k; rw [h, k]; rfl)
theorem part_deco {a b : Nat} (ha : a < 16) (hb : b < 16) : partN a b 12 kDeco (ofStrokesN (a &&& 12)) = optS (decoR a b) := by
  unfold partN ofStrokesN decoR
  rw [Nat.and_or_distrib_right]
  rcases low_twelve ⟨a, ha⟩ with h | h | h | h <;> rcases low_twelve ⟨b, hb⟩ with k | k | k | k <;> (dsimp only at h k; rw [h, k]; rfl)
theorem print_is {a b : Nat} (ha : a < 16) (hb : b < 16) : printN a b = printR a b := by
  unfold printN listN printR
  rw [part_weight ha hb, part_style ha hb, part_deco ha hb, join_is]

end Go.Proofs.YthoinlapopongaaDoor
