/-
  What a declaration says by the document, in the words of its table; where the program's declarations say that, its styles are the document's.
-/
import Derived.Test.YthoinlapopongaaDoorWalksO
namespace Go.Proofs.YthoinlapopongaaDoor
open Go.RowKit Go.Lib

def toldD (p v : ByteArray) : B64 × B64 :=
  if p = kWeight then (if v = kBold ∨ v = kHeavy then (1#64, 0#64) else if v = kNormal ∨ v = kPlain then (0#64, 1#64) else (0#64, 0#64))
  else if p = kStyle then (if v = kItalic then (2#64, 0#64) else if v = kNormal then (0#64, 2#64) else (0#64, 0#64))
  else if p = kDeco then strokesS v
  else (0#64, 0#64)
theorem words_doc (v : ByteArray) (h : ¬ v = kNone) :
    strokesS v = if (wordsOf (strokesOf (wordsS v)).toInt (allStrokes (wordsS v))).2.2 = true then (BitVec.ofInt 64 (wordsOf (strokesOf (wordsS v)).toInt (allStrokes (wordsS v))).1, BitVec.ofInt 64 (wordsOf (strokesOf (wordsS v)).toInt (allStrokes (wordsS v))).2.1) else (0#64, 0#64) := by
  unfold strokesS
  rw [if_neg h]
  obtain ⟨Z, hZ⟩ : ∃ Z, strokesOf (wordsS v) = Z := ⟨_, rfl⟩
  have hs := strokesOf_some (wordsS v)
  rw [hZ] at hs ⊢
  cases allStrokes (wordsS v) with
  | false => rfl
  | true => rcases hs with rfl | rfl | rfl | rfl <;> decide
theorem doc_is (p v : ByteArray) : docS p v = toldD p v := by
  unfold docS toldD saysS
  by_cases h1 : p = kWeight
  · rw [if_pos h1, if_pos h1]
    by_cases h2 : v = kBold ∨ v = kHeavy
    · rw [if_pos h2, if_pos h2]; rfl
    · rw [if_neg h2, if_neg h2]
      by_cases h3 : v = kNormal ∨ v = kPlain
      · rw [if_pos h3, if_pos h3]; rfl
      · rw [if_neg h3, if_neg h3]; rfl
  · rw [if_neg h1, if_neg h1]
    by_cases h2 : p = kStyle
    · rw [if_pos h2, if_pos h2]
      by_cases h3 : v = kItalic
      · rw [if_pos h3, if_pos h3]; rfl
      · rw [if_neg h3, if_neg h3]
        by_cases h4 : v = kNormal
        · rw [if_pos h4, if_pos h4]; rfl
        · rw [if_neg h4, if_neg h4]; rfl
    · rw [if_neg h2, if_neg h2]
      by_cases h3 : p = kDeco
      · rw [if_pos h3, if_pos h3]
        by_cases h4 : v = kNone
        · rw [if_pos h4]; unfold strokesS; rw [if_pos h4]; rfl
        · rw [if_neg h4]; exact (words_doc v h4).symm
      · rw [if_neg h3, if_neg h3]; rfl
theorem parse_doc (hT : ∀ p v, toldD p v = toldS p v) (s : ByteArray) : parseR s = parseS s := by
  have e : stepR = stepS := by
    funext z d
    unfold stepR stepS
    rw [doc_is, hT]
  unfold parseR parseS foldR foldS
  rw [e]

theorem told_doc (p v : ByteArray) : toldD p v = toldS p v := by
  unfold toldD toldS weightS oneS
  by_cases h1 : p = kWeight
  · rw [if_pos h1, if_pos h1]
    by_cases h2 : v = kHeavy
    · subst h2; decide
    · rw [if_neg h2]
      by_cases h3 : v = kPlain
      · subst h3; decide
      · rw [if_neg h3]
        simp only [h2, h3, or_false]
  · rw [if_neg h1, if_neg h1]

end Go.Proofs.YthoinlapopongaaDoor
