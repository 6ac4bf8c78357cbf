/-
  The contracts of the document's Runes, Value, Target.
  The contract of the document's Target.
-/
import Derived.Test.YtehjfcefkiglaaaDoorTgWalksC
import Derived.Test.YtehjfcefkiglaaaDoorCRow
import Derived.Laws.Cover4
import Derived.Laws.IdiomStrings

namespace Go.Proofs.YtehjfcefkiglaaaDoor.Tg
open Go.RowKit Go.Lib

/-- The characters, in memory. -/
def RunesAt (w : World) (g : Nat) (rs : List Nat) : Prop := ∀ j, j < rs.length → w.cell? ⟨g, j, none⟩ = some (.int .i32 ((rs[j]! : Nat) : Int))
def RunesPost (s : ByteArray) (w : World) (e : Ending) (w' : World) : Prop := ∃ c, e = .returned (.slice (some ⟨w.heap.size, 0, none⟩) (runesD s.data.toList).length c) ∧ RunesAt w' w.heap.size (runesD s.data.toList) ∧ Below w.heap.size w w'

theorem runes_size (s : ByteArray) : (Conv.runesFrom s s.size 0 #[]).toList = runeCellsD s.data.toList := by
  have := convRunes s s.size 0 #[] (by omega)
  simpa using this

theorem intsOf_at (rs : List Nat) (j : Nat) (hj : j < rs.length) : (rs.map fun (r : Nat) => (r : Int)).getD j 0 = ((rs[j]! : Nat) : Int) := by
  rw [List.getD_eq_getElem?_getD, List.getElem?_map, List.getElem!_eq_getElem?_getD, List.getElem?_eq_getElem hj]
  rfl
theorem dropN_cons {l : List Nat} {k : Nat} (h : k < l.length) : l.drop k = l[k]! :: l.drop (k + 1) := by
  rw [List.drop_eq_getElem_cons h, List.getElem!_eq_getElem?_getD, List.getElem?_eq_getElem h]; rfl

end Go.Proofs.YtehjfcefkiglaaaDoor.Tg

namespace Go.Proofs.YtehjfcefkiglaaaDoor.Tg
open Go.RowKit Go.Lib

/-- How much stands ahead of the first colon. -/
def ahN (l : List UInt8) : Nat := (aheadL l).length
theorem ahN_le (l : List UInt8) : ahN l ≤ l.length := ahead_length l
theorem ahN_ne : ∀ (l : List UInt8) (j : Nat), j < ahN l → l.getD j 0 ≠ 58
  | [], j, h => by simp [ahN, aheadL] at h
  | b :: t, j, h => by
    unfold ahN aheadL at h
    rw [List.takeWhile_cons] at h
    by_cases hb : b = 58
    · subst hb; simp at h
    · have hb' : (b != 58) = true := by simpa using hb
      rw [hb', if_pos rfl] at h
      cases j with
      | zero => simpa using hb
      | succ j => simpa using ahN_ne t j (by simpa [ahN, aheadL] using h)
theorem ahN_at : ∀ l : List UInt8, ahN l < l.length → l.getD (ahN l) 0 = 58
  | [], h => by simp at h
  | b :: t, h => by
    by_cases hb : b = 58
    · subst hb; simp [ahN, aheadL]
    · have hb' : (b != 58) = true := by simpa using hb
      have e : ahN (b :: t) = ahN t + 1 := by
        unfold ahN aheadL
        rw [List.takeWhile_cons, hb', if_pos rfl, List.length_cons]
      rw [e] at h ⊢
      have := ahN_at t (by simpa using h)
      simpa using this
theorem ahead_take : ∀ l : List UInt8, aheadL l = l.take (ahN l)
  | [] => rfl
  | b :: t => by
    by_cases hb : b = 58
    · subst hb; simp [ahN, aheadL]
    · have hb' : (b != 58) = true := by simpa using hb
      have e : ahN (b :: t) = ahN t + 1 := by
        unfold ahN aheadL
        rw [List.takeWhile_cons, hb', if_pos rfl, List.length_cons]
      rw [e, List.take_succ_cons, ← ahead_take t]
      unfold aheadL
      rw [List.takeWhile_cons, hb', if_pos rfl]

/-- The letters from k on are the word's. -/
def wordB (l : List UInt8) (k : Nat) : Bool := ((l.take 10).drop k).map smallB == jsL.drop k
theorem word_step {s : ByteArray} {k : Nat} (hk : k < 10) (h10 : 10 ≤ s.size) (hs : k < s.size) : wordB s.data.toList k = (smallB s[k] == jsL.getD k 0 && wordB s.data.toList (k + 1)) := by
  unfold wordB
  have hl : 10 ≤ s.data.toList.length := by rw [← size_eq]; exact h10
  have h1 : k < (s.data.toList.take 10).length := by rw [List.length_take]; omega
  have hj : k < jsL.length := hk
  rw [List.drop_eq_getElem_cons h1, List.drop_eq_getElem_cons hj, List.map_cons]
  have e1 : (s.data.toList.take 10)[k] = s[k] := by
    rw [List.getElem_take]; rfl
  have e2 : jsL.getD k 0 = jsL[k] := by rw [List.getD_eq_getElem?_getD, List.getElem?_eq_getElem hj]; rfl
  rw [e1, e2]
  rfl
theorem word_end (l : List UInt8) : wordB l 10 = true := by
  unfold wordB
  rw [List.drop_eq_nil_of_le (by rw [List.length_take]; omega), List.drop_eq_nil_of_le (by decide)]
  rfl
theorem smallB_int (b : UInt8) : ((smallB b).toNat : Int) = if (65 : Int) ≤ (b.toNat : Int) ∧ (b.toNat : Int) ≤ 90 then (b.toNat : Int) + 32 else (b.toNat : Int) := by
  have hb := b.toNat_lt
  unfold smallB
  by_cases h : 65 ≤ b.toNat ∧ b.toNat ≤ 90
  · rw [if_pos h, if_pos (by omega)]
    have : (b + 32).toNat = b.toNat + 32 := by
      rw [UInt8.toNat_add]; simp; omega
    omega
  · rw [if_neg h, if_neg (by omega)]

theorem ne_g {b j : UInt8} (h1 : (65 : Int) ≤ (b.toNat : Int)) (h2 : (b.toNat : Int) ≤ 90) (h : ((b.toNat : Int) + 32 != (j.toNat : Int)) = true) : (smallB b == j) = false := by
  have e := smallB_int b
  rw [if_pos ⟨h1, h2⟩] at e
  apply Bool.eq_false_iff.2
  intro h3
  rw [eq_of_beq h3] at e
  simp [← e] at h
theorem eq_g {b j : UInt8} (h1 : (65 : Int) ≤ (b.toNat : Int)) (h2 : (b.toNat : Int) ≤ 90) (h : ((b.toNat : Int) + 32 != (j.toNat : Int)) = false) : (smallB b == j) = true := by
  have e := smallB_int b
  rw [if_pos ⟨h1, h2⟩] at e
  have h3 : (b.toNat : Int) + 32 = (j.toNat : Int) := by simpa using h
  have : smallB b = j := UInt8.toNat_inj.1 (Int.ofNat.inj (e.trans h3))
  simpa using this
theorem ne_n {b j : UInt8} (h0 : ¬ ((65 : Int) ≤ (b.toNat : Int) ∧ (b.toNat : Int) ≤ 90)) (h : ((b.toNat : Int) != (j.toNat : Int)) = true) : (smallB b == j) = false := by
  have e := smallB_int b
  rw [if_neg h0] at e
  apply Bool.eq_false_iff.2
  intro h3
  rw [eq_of_beq h3] at e
  simp [← e] at h
theorem eq_n {b j : UInt8} (h0 : ¬ ((65 : Int) ≤ (b.toNat : Int) ∧ (b.toNat : Int) ≤ 90)) (h : ((b.toNat : Int) != (j.toNat : Int)) = false) : (smallB b == j) = true := by
  have e := smallB_int b
  rw [if_neg h0] at e
  have h3 : (b.toNat : Int) = (j.toNat : Int) := by simpa using h
  have : smallB b = j := UInt8.toNat_inj.1 (Int.ofNat.inj (e.trans h3))
  simpa using this
/-- The word. -/
def jsB : ByteArray := ⟨#[106, 97, 118, 97, 115, 99, 114, 105, 112, 116]⟩
theorem jsB_at {q : Nat} (h : q < 10) : jsL.getD q 0 = (⟨#[106, 97, 118, 97, 115, 99, 114, 105, 112, 116]⟩ : ByteArray)[q]'h := getD_at (s := jsB) (k := q) h

theorem u8_of_int {a b : UInt8} (h : (a.toNat : Int) = (b.toNat : Int)) : a = b := UInt8.toNat_inj.1 (Int.ofNat.inj h)

end Go.Proofs.YtehjfcefkiglaaaDoor.Tg
