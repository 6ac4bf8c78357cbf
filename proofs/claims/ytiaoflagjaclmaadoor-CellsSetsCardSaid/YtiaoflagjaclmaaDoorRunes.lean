/-
  A text's characters: decoded; clean. No step of the program.
-/
import Derived.Lib.ValidLaws
import Derived.Lib.MapLaws
import Derived.Lib.IndexMore
import Derived.Lib.Strings
import Derived.Laws.Cover4
import Derived.Laws.IdiomStrings
namespace Go.Proofs.YtiaoflagjaclmaaDoor
open Go.Lib

/-- May a character be? -/
def mayN (c : Nat) : Bool := decide (32 ≤ c ∧ c ≠ 127 ∧ ¬ (55296 ≤ c ∧ c ≤ 57343) ∧ c ≤ 1114111)

def runesG : Nat → List UInt8 → List Nat
  | 0, _ => []
  | n + 1, l => if l = [] then [] else (decodeL l).1 :: runesG n (l.drop (decodeL l).2)
theorem runesG_nil : ∀ n, runesG n [] = []
  | 0 => rfl
  | _ + 1 => by simp [runesG]
theorem runesG_fuel : ∀ (n m : Nat) (l : List UInt8), l.length ≤ n → l.length ≤ m → runesG n l = runesG m l
  | 0, m, l, hn, _ => by
    have : l = [] := List.eq_nil_of_length_eq_zero (by omega)
    subst this
    rw [runesG_nil, runesG_nil]
  | n + 1, 0, l, _, hm => by
    have : l = [] := List.eq_nil_of_length_eq_zero (by omega)
    subst this
    rw [runesG_nil, runesG_nil]
  | n + 1, m + 1, l, hn, hm => by
    by_cases hne : l = []
    · subst hne
      rw [runesG_nil, runesG_nil]
    · have hw := decodeL_width l
      have hl : 0 < l.length := List.length_pos_iff.2 hne
      simp only [runesG, if_neg hne]
      rw [runesG_fuel n m _ (by rw [List.length_drop]; omega) (by rw [List.length_drop]; omega)]
def runesD (l : List UInt8) : List Nat := runesG l.length l
theorem runesD_nil : runesD [] = [] := rfl
theorem runesD_step (l : List UInt8) (hne : l ≠ []) : runesD l = (decodeL l).1 :: runesD (l.drop (decodeL l).2) := by
  have hw := decodeL_width l
  have hl : 0 < l.length := List.length_pos_iff.2 hne
  unfold runesD
  obtain ⟨n, hn⟩ : ∃ n, l.length = n + 1 := ⟨l.length - 1, by omega⟩
  rw [hn]
  simp only [runesG, if_neg hne]
  rw [runesG_fuel n _ _ (by rw [List.length_drop]; omega) (Nat.le_refl _)]
theorem runesD_length : ∀ (n : Nat) (l : List UInt8), l.length ≤ n → (runesD l).length ≤ l.length
  | 0, l, h => by
    have : l = [] := List.eq_nil_of_length_eq_zero (by omega)
    subst this; simp [runesD_nil]
  | n + 1, l, h => by
    by_cases hne : l = []
    · subst hne; simp [runesD_nil]
    · have hw := decodeL_width l
      have hl : 0 < l.length := List.length_pos_iff.2 hne
      rw [runesD_step l hne, List.length_cons]
      have := runesD_length n (l.drop (decodeL l).2) (by rw [List.length_drop]; omega)
      rw [List.length_drop] at this
      omega

def runeCellsD (l : List UInt8) : List Value := (runesD l).map fun (r : Nat) => Value.int .i32 (r : Int)
theorem convRunes (s : ByteArray) : ∀ (bound i : Nat) (acc : Array Value), s.size ≤ bound + i → (Conv.runesFrom s bound i acc).toList = acc.toList ++ runeCellsD (s.data.toList.drop i)
  | 0, i, acc, h => by
    have : s.data.toList.drop i = [] := List.drop_eq_nil_of_le (by rw [← size_eq]; omega)
    rw [this]; simp [Conv.runesFrom, runeCellsD, runesD_nil]
  | bound + 1, i, acc, h => by
    unfold Conv.runesFrom
    by_cases hi : i < s.size
    · have hne : s.data.toList.drop i ≠ [] := by
        intro h0
        have := congrArg List.length h0
        rw [List.length_drop, ← size_eq] at this
        simp at this; omega
      have hw := decodeL_width (s.data.toList.drop i)
      rw [decodeL_drop] at hw
      rw [if_pos hi, convRunes s bound _ _ (by omega)]
      unfold runeCellsD
      rw [runesD_step _ hne, decodeL_drop, List.drop_drop]
      simp
    · rw [if_neg hi]
      have : s.data.toList.drop i = [] := List.drop_eq_nil_of_le (by rw [← size_eq]; omega)
      rw [this]; simp [runeCellsD, runesD_nil]


/-- What a character becomes in a clean text, and whether it stays. -/
def cleanZ (c : Int) : Int × Bool := if c = 9 ∨ c = 12 ∨ c = 13 then (32, true) else if c = 10 then (10, true) else (c, decide (32 ≤ c ∧ c ≠ 127 ∧ ¬ (55296 ≤ c ∧ c ≤ 57343) ∧ c ≤ 1114111))
def keepZ (r : Nat) : List Int := if (cleanZ (r : Int)).2 then [(cleanZ (r : Int)).1] else []
/-- The characters of a clean text. -/
def cleanD (l : List UInt8) : List Int := (runesD l).flatMap keepZ
theorem cleanD_nil : cleanD [] = [] := rfl
theorem cleanD_step (l : List UInt8) (hne : l ≠ []) : cleanD l = keepZ (decodeL l).1 ++ cleanD (l.drop (decodeL l).2) := by
  unfold cleanD
  rw [runesD_step l hne, List.flatMap_cons]
theorem keepZ_le (r : Nat) : (keepZ r).length ≤ 1 := by unfold keepZ; split <;> simp
theorem flatKeep_le : ∀ rs : List Nat, (rs.flatMap keepZ).length ≤ rs.length
  | [] => by simp
  | r :: rs => by
    have h := keepZ_le r
    have ih := flatKeep_le rs
    rw [List.flatMap_cons, List.length_append, List.length_cons]
    omega
theorem cleanD_length (l : List UInt8) : (cleanD l).length ≤ l.length := by
  have h1 := flatKeep_le (runesD l)
  have h2 := runesD_length _ l (Nat.le_refl _)
  unfold cleanD
  omega

end Go.Proofs.YtiaoflagjaclmaaDoor
