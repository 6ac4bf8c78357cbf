/-
  The plain mathematics of layer 2 (tags): classes, content, names, small letters; nothing here speaks of the program.
-/
import Derived.WalkKit
namespace Go.Proofs.YtggjoefhopoggaaDoor

/-- The class of a number as a tag. -/
def cls (t : Int) : Int :=
  if t = 0 then 1
  else if t = 1 ∨ t = 6 ∨ t = 7 ∨ t = 8 then 2
  else if t = 2 ∨ t = 3 ∨ t = 4 ∨ t = 5 ∨ t = 9 then 3
  else if t = 10 ∨ t = 11 ∨ t = 12 ∨ t = 13 ∨ t = 14 ∨ t = 15 then 4
  else if t = 16 then 5 else 0

/-- Is it ul or ol? -/
def isl (t : Int) : Bool := t == 7 || t == 8

/-- What may stand in a line. -/
def inl (k : Int) : Bool := decide (cls k = 4 ∨ cls k = 5 ∨ cls k = 1)

/-- What may stand in a box. -/
def inb (p k : Int) : Bool :=
  if isl p then isl k || k == 9
  else if cls k = 2 then k != 1
  else if cls k = 3 then k != 9 else false

/-- May the one stand in the other? -/
def may (p k : Int) : Bool :=
  if cls p = 2 then inb p k
  else if cls p = 4 then (if p = 10 ∧ k = 10 then false else inl k)
  else if cls p = 3 then inl k else false

/-- May the one stand in the other, as the document's definition goes. -/
def rmay (p k : Int) : Bool :=
  if (p == 7 || p == 8) = true then k == 7 || (k == 8 || k == 9)
  else if cls p = 2 then k == 6 || (k == 7 || (k == 8 || (decide (2 ≤ k) && decide (k ≤ 5))))
  else if (cls p == 3 || cls p == 4) = true then (cls k == 4 || (cls k == 5 || cls k == 1)) && (p != 10 || k != 10)
  else false

theorem cls_out {t : Int} (h : t < 0 ∨ 16 < t) : cls t = 0 := by
  unfold cls; repeat' split
  all_goals omega

theorem rmay_in : ∀ p k : Nat, p < 17 → k < 17 → rmay p k = may p k := by
  have h : ∀ p : Fin 17, ∀ k : Fin 17, rmay (p.val : Int) (k.val : Int) = may (p.val : Int) (k.val : Int) := by decide
  intro p k hp hk
  exact h ⟨p, hp⟩ ⟨k, hk⟩

theorem rmay_eq (p k : Int) : rmay p k = may p k := by
  by_cases hp : p < 0 ∨ 16 < p
  · have e := cls_out hp
    have e7 : (p == 7) = false := by simp; omega
    have e8 : (p == 8) = false := by simp; omega
    simp [rmay, may, e, e7, e8]
  · obtain ⟨a, rfl⟩ : ∃ a : Nat, p = a := ⟨p.toNat, by omega⟩
    by_cases hk : k < 0 ∨ 16 < k
    · have e := cls_out hk
      have e1 : inl k = false := by simp [inl, e]
      have e6 : (k == 6) = false := by simp; omega
      have e7 : (k == 7) = false := by simp; omega
      have e8 : (k == 8) = false := by simp; omega
      have e9 : (k == 9) = false := by simp; omega
      have e2 : (decide (2 ≤ k) && decide (k ≤ 5)) = false := by simp; omega
      have ei : inb a k = false := by simp [inb, isl, e, e7, e8, e9]
      simp only [rmay, may, e, e1, e6, e7, e8, e9, e2, ei]
      simp
    · obtain ⟨b, rfl⟩ : ∃ b : Nat, k = b := ⟨k.toNat, by omega⟩
      exact rmay_in a b (by omega) (by omega)

def hd (t : Int) : Int := if t < 3 ∨ 5 < t then 0 else t - 3 + 1

def lnT (k : Int) : Int := if k < 0 ∨ 3 < k then 0 else 2 + k
def lnB (k : Int) : Bool := decide (0 ≤ k ∧ k ≤ 3)

theorem cls_range (t : Int) : 0 ≤ cls t ∧ cls t ≤ 5 := by
  unfold cls; repeat' split
  all_goals omega

/-- The tags' own names, as bytes; that of a text is empty. -/
def tab : List (List UInt8) := [[], [100, 105, 118], [112], [104, 49], [104, 50], [104, 51], [98, 108, 111, 99, 107, 113, 117, 111, 116, 101], [117, 108], [111, 108], [108, 105], [97], [98], [105], [117], [115], [115, 112, 97, 110], [98, 114]]

/-- All names of a tag, its own first. -/
def names : List (List (List UInt8)) := [[], [[100, 105, 118]], [[112]], [[104, 49]], [[104, 50]], [[104, 51]], [[98, 108, 111, 99, 107, 113, 117, 111, 116, 101]], [[117, 108]], [[111, 108]], [[108, 105]], [[97]], [[98], [115, 116, 114, 111, 110, 103]], [[105], [101, 109]], [[117], [105, 110, 115]], [[115], [115, 116, 114, 105, 107, 101], [100, 101, 108]], [[115, 112, 97, 110]], [[98, 114]]]

def nm (k : Nat) : ByteArray := ⟨(tab.getD k []).toArray⟩

def ownCells : Array Value := #[.string (nm 0), .string (nm 1), .string (nm 2), .string (nm 3), .string (nm 4), .string (nm 5), .string (nm 6), .string (nm 7), .string (nm 8), .string (nm 9), .string (nm 10), .string (nm 11), .string (nm 12), .string (nm 13), .string (nm 14), .string (nm 15), .string (nm 16)]

/-- The own name of a number as a tag; empty, if it has none. -/
def nameOf (t : Int) : ByteArray := if t < 0 ∨ 16 < t then nm 0 else nm t.toNat

/-- A letter turned small. -/
def low (c : UInt8) : UInt8 := if 65 ≤ c ∧ c ≤ 90 then c - 65 + 97 else c

/-- Names with their tags, in the order of tags. -/
def dict : List (List UInt8 × Int) := [([100, 105, 118], 1), ([112], 2), ([104, 49], 3), ([104, 50], 4), ([104, 51], 5), ([98, 108, 111, 99, 107, 113, 117, 111, 116, 101], 6), ([117, 108], 7), ([111, 108], 8), ([108, 105], 9), ([97], 10), ([98], 11), ([115, 116, 114, 111, 110, 103], 11), ([105], 12), ([101, 109], 12), ([117], 13), ([105, 110, 115], 13), ([115], 14), ([115, 116, 114, 105, 107, 101], 14), ([100, 101, 108], 14), ([115, 112, 97, 110], 15), ([98, 114], 16)]

def look (l : List UInt8) : Option (List UInt8 × Int) := dict.find? fun p => p.1 == l

/-- The tag of a name that is small already, 0 for none; and whether there is one. -/
def fndT (l : List UInt8) : Int := ((look l).map (·.2)).getD 0
def fndB (l : List UInt8) : Bool := (look l).isSome

theorem fndT_range (l : List UInt8) : 0 ≤ fndT l ∧ fndT l ≤ 16 := by
  unfold fndT look
  cases h : dict.find? fun p => p.1 == l with
  | none => simp
  | some p =>
    have hm := List.mem_of_find?_eq_some h
    have hall : ∀ q ∈ dict, 0 ≤ q.2 ∧ q.2 ≤ 16 := by decide
    exact hall p hm

theorem fndT_none {l : List UInt8} (h : fndB l = false) : fndT l = 0 := by
  unfold fndB at h; unfold fndT
  cases hl : look l with
  | none => rfl
  | some p => rw [hl] at h; cases h

theorem fnd_class {l : List UInt8} (h : fndB l = true) : 2 ≤ cls (fndT l) := by
  unfold fndB look at h; unfold fndT look
  cases hl : dict.find? fun p => p.1 == l with
  | none => rw [hl] at h; cases h
  | some p =>
    have hm := List.mem_of_find?_eq_some hl
    have hall : ∀ q ∈ dict, 2 ≤ cls q.2 := by decide
    exact hall p hm

theorem fnd_own : ∀ k : Nat, k < 17 → 0 < k → fndT (tab.getD k []) = k ∧ fndB (tab.getD k []) = true := by decide

theorem low_own : ∀ k : Nat, k < 17 → (tab.getD k []).map low = tab.getD k [] := by decide

end Go.Proofs.YtggjoefhopoggaaDoor
