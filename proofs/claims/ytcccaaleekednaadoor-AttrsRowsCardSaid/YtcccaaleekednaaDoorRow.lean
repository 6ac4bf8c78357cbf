/-
  Plain facts on rows of attributes: found, got, put, dropped, taken alone, told the same. No step of the program.
-/
import Derived.Test.YtcccaaleekednaaDoorWords
import Derived.Lib.SlBy
namespace Go.Proofs.YtcccaaleekednaaDoor
open Go.Lib

/-- An attribute: its name, its value. -/
abbrev At : Type := ByteArray × ByteArray
abbrev Row : Type := List At

instance : Inhabited ByteArray := ⟨ByteArray.empty⟩

def hasR (l : Row) (n : ByteArray) : Bool := l.any fun a => decide (a.1 = n)
def findR : Row → ByteArray → Nat
  | [], _ => 0
  | a :: l, n => if a.1 = n then 0 else findR l n + 1
def findZ (l : Row) (n : ByteArray) : Int := if findR l n < l.length then (findR l n : Int) else -1
def getR : Row → ByteArray → ByteArray
  | [], _ => ⟨#[]⟩
  | a :: l, n => if a.1 = n then a.2 else getR l n
def putR : Row → ByteArray → ByteArray → Row
  | [], n, v => [(n, v)]
  | a :: l, n, v => if a.1 = n then (a.1, v) :: l else a :: putR l n v
def dropR : Row → ByteArray → Row
  | [], _ => []
  | a :: l, n => if a.1 = n then l else a :: dropR l n
def onlyR (l : Row) (ns : List ByteArray) : Row := l.filter fun a => ns.any fun n => decide (n = a.1)
def distR : Row → Bool
  | [] => true
  | a :: l => !hasR l a.1 && distR l
def okR (l : Row) : Bool := l.all fun a => nameS a.1 && valueS a.2
def mayR (l : Row) : Bool := okR l && distR l

theorem findR_le : ∀ (l : Row) (n : ByteArray), findR l n ≤ l.length
  | [], _ => Nat.le_refl _
  | a :: l, n => by unfold findR; split <;> simp; exact findR_le l n
theorem hasR_iff : ∀ (l : Row) (n : ByteArray), hasR l n = decide (findR l n < l.length)
  | [], _ => rfl
  | a :: l, n => by
    have ih := hasR_iff l n
    unfold hasR at ih ⊢
    rw [List.any_cons, ih]
    by_cases h : a.1 = n <;> simp [findR, h]
theorem findR_at : ∀ (l : Row) (n : ByteArray), findR l n < l.length → (l[findR l n]!).1 = n
  | [], _, h => by simp at h
  | a :: l, n, h => by
    by_cases e : a.1 = n
    · simp [findR, e]
    · have h' : findR l n < l.length := by simpa [findR, e] using h
      simpa [findR, e] using findR_at l n h'
theorem findR_ahead : ∀ (l : Row) (n : ByteArray) (j : Nat), j < findR l n → (l[j]!).1 ≠ n
  | [], _, j, h => by simp [findR] at h
  | a :: l, n, 0, h => by
    intro e
    have : a.1 = n := by simpa using e
    simp [findR, this] at h
  | a :: l, n, j + 1, h => by
    by_cases e : a.1 = n
    · simp [findR, e] at h
    · have h' : j < findR l n := by simpa [findR, e] using h
      simpa using findR_ahead l n j h'
theorem findR_none (l : Row) (n : ByteArray) (h : ∀ j, j < l.length → (l[j]!).1 ≠ n) : findR l n = l.length := by
  rcases Nat.lt_or_ge (findR l n) l.length with h1 | h1
  · exact absurd (findR_at l n h1) (h _ h1)
  · exact Nat.le_antisymm (findR_le l n) h1
theorem findR_is (l : Row) (n : ByteArray) (k : Nat) (hk : k < l.length) (h : (l[k]!).1 = n) (h2 : ∀ j, j < k → (l[j]!).1 ≠ n) : findR l n = k := by
  rcases Nat.lt_trichotomy (findR l n) k with h1 | h1 | h1
  · exact absurd (findR_at l n (by omega)) (h2 _ h1)
  · exact h1
  · exact absurd h (findR_ahead l n k h1)
theorem idx_findZ (l : Row) (n : ByteArray) : idxBy (fun _ (y : At) => decide (y.1 = n)) l default = findZ l n := by
  unfold findZ
  by_cases h : findR l n < l.length
  · rw [if_pos h]
    have := idxBy_hit (fun _ (y : At) => decide (y.1 = n)) l l.length (findR l n) default h (Nat.le_refl _) (decide_eq_true (findR_at l n h)) (fun j hj => decide_eq_false (findR_ahead l n j hj))
    rwa [List.take_length] at this
  · rw [if_neg h]
    have hn : findR l n = l.length := Nat.le_antisymm (findR_le l n) (by omega)
    have := idxBy_miss (fun _ (y : At) => decide (y.1 = n)) l l.length default (fun j hj => decide_eq_false (findR_ahead l n j (by omega)))
    rwa [List.take_length] at this

theorem getR_at : ∀ (l : Row) (n : ByteArray), findR l n < l.length → getR l n = (l[findR l n]!).2
  | [], _, h => by simp at h
  | a :: l, n, h => by
    by_cases e : a.1 = n
    · simp [findR, getR, e]
    · have h' : findR l n < l.length := by simpa [findR, e] using h
      simpa [findR, getR, e] using getR_at l n h'
theorem getR_none : ∀ (l : Row) (n : ByteArray), ¬ findR l n < l.length → getR l n = ⟨#[]⟩
  | [], _, _ => rfl
  | a :: l, n, h => by
    by_cases e : a.1 = n
    · simp [findR, e] at h
    · have h' : ¬ findR l n < l.length := by simpa [findR, e] using h
      simpa [getR, e] using getR_none l n h'
theorem putR_none : ∀ (l : Row) (n v : ByteArray), ¬ findR l n < l.length → putR l n v = l ++ [(n, v)]
  | [], _, _, _ => rfl
  | a :: l, n, v, h => by
    by_cases e : a.1 = n
    · simp [findR, e] at h
    · have h' : ¬ findR l n < l.length := by simpa [findR, e] using h
      simpa [putR, e] using putR_none l n v h'
theorem putR_at : ∀ (l : Row) (n v : ByteArray), findR l n < l.length → putR l n v = l.set (findR l n) ((l[findR l n]!).1, v)
  | [], _, _, h => by simp at h
  | a :: l, n, v, h => by
    by_cases e : a.1 = n
    · simp [findR, putR, e]
    · have h' : findR l n < l.length := by simpa [findR, e] using h
      simpa [findR, putR, e] using putR_at l n v h'
theorem dropR_none : ∀ (l : Row) (n : ByteArray), ¬ findR l n < l.length → dropR l n = l
  | [], _, _ => rfl
  | a :: l, n, h => by
    by_cases e : a.1 = n
    · simp [findR, e] at h
    · have h' : ¬ findR l n < l.length := by simpa [findR, e] using h
      simpa [dropR, e] using dropR_none l n h'
theorem dropR_at : ∀ (l : Row) (n : ByteArray), findR l n < l.length → dropR l n = l.take (findR l n) ++ l.drop (findR l n + 1)
  | [], _, h => by simp at h
  | a :: l, n, h => by
    by_cases e : a.1 = n
    · simp [findR, dropR, e]
    · have h' : findR l n < l.length := by simpa [findR, e] using h
      simpa [findR, dropR, e] using dropR_at l n h'

/-! ### what follows -/
theorem putR_length : ∀ (l : Row) (n v : ByteArray), (putR l n v).length = if hasR l n then l.length else l.length + 1
  | [], _, _ => rfl
  | a :: l, n, v => by
    have ih := putR_length l n v
    by_cases e : a.1 = n
    · simp [putR, hasR, e]
    · have : hasR (a :: l) n = hasR l n := by simp [hasR, e]
      rw [this]
      simp only [putR, if_neg e, List.length_cons, ih]
      split <;> rfl
theorem putR_has : ∀ (l : Row) (n v : ByteArray), hasR (putR l n v) n = true
  | [], n, v => by simp [putR, hasR]
  | a :: l, n, v => by
    by_cases e : a.1 = n
    · simp [putR, hasR, e]
    · have := putR_has l n v
      unfold hasR at this ⊢
      simp only [putR, if_neg e, List.any_cons, this, Bool.or_true]
theorem putR_get : ∀ (l : Row) (n v : ByteArray), getR (putR l n v) n = v
  | [], n, v => by simp [putR, getR]
  | a :: l, n, v => by
    by_cases e : a.1 = n
    · simp [putR, getR, e]
    · simpa [putR, getR, e] using putR_get l n v
theorem putR_other_get : ∀ (l : Row) (n v o : ByteArray), o ≠ n → getR (putR l n v) o = getR l o
  | [], n, v, o, h => by simp [putR, getR, Ne.symm h]
  | a :: l, n, v, o, h => by
    by_cases e : a.1 = n
    · have : ¬ n = o := Ne.symm h
      simp [putR, getR, e, this]
    · by_cases e2 : a.1 = o
      · simp [putR, getR, e2, h]
      · simpa [putR, getR, e, e2] using putR_other_get l n v o h
theorem putR_other_has : ∀ (l : Row) (n v o : ByteArray), o ≠ n → hasR (putR l n v) o = hasR l o
  | [], n, v, o, h => by simp [putR, hasR, Ne.symm h]
  | a :: l, n, v, o, h => by
    by_cases e : a.1 = n
    · simp [putR, hasR, e]
    · have := putR_other_has l n v o h
      unfold hasR at this ⊢
      simp only [putR, if_neg e, List.any_cons, this]
theorem okR_put : ∀ (l : Row) (n v : ByteArray), okR l = true → nameS n = true → valueS v = true → okR (putR l n v) = true
  | [], n, v, _, h1, h2 => by simp [putR, okR, h1, h2]
  | a :: l, n, v, h, h1, h2 => by
    unfold okR at h
    rw [List.all_cons, Bool.and_eq_true] at h
    by_cases e : a.1 = n
    · have ha := h.1
      rw [Bool.and_eq_true] at ha
      unfold okR
      simp only [putR, if_pos e, List.all_cons, Bool.and_eq_true]
      exact ⟨⟨ha.1, h2⟩, h.2⟩
    · have := okR_put l n v h.2 h1 h2
      unfold okR at this ⊢
      simp only [putR, if_neg e, List.all_cons, h.1, this, Bool.and_self]
theorem distR_put : ∀ (l : Row) (n v : ByteArray), distR l = true → distR (putR l n v) = true
  | [], n, v, _ => by simp [putR, distR, hasR]
  | a :: l, n, v, h => by
    unfold distR at h
    rw [Bool.and_eq_true] at h
    by_cases e : a.1 = n
    · simp only [putR, if_pos e, distR, Bool.and_eq_true]
      exact h
    · have := distR_put l n v h.2
      simp only [putR, if_neg e, distR, Bool.and_eq_true]
      rw [putR_other_has l n v a.1 e]
      exact ⟨h.1, this⟩
theorem mayR_put (l : Row) (n v : ByteArray) (h1 : nameS n = true) (h2 : valueS v = true) (h : mayR l = true) : mayR (putR l n v) = true := by
  unfold mayR at h ⊢
  rw [Bool.and_eq_true] at h ⊢
  exact ⟨okR_put l n v h.1 h1 h2, distR_put l n v h.2⟩
theorem dropR_put : ∀ (l : Row) (n v : ByteArray), hasR l n = false → dropR (putR l n v) n = l
  | [], n, v, _ => by simp [putR, dropR]
  | a :: l, n, v, h => by
    unfold hasR at h
    rw [List.any_cons, Bool.or_eq_false_iff] at h
    have e : ¬ a.1 = n := by simpa using h.1
    have := dropR_put l n v h.2
    simp [putR, dropR, e, this]
theorem dropR_length : ∀ (l : Row) (n : ByteArray), hasR l n = true → (dropR l n).length + 1 = l.length
  | [], n, h => by simp [hasR] at h
  | a :: l, n, h => by
    by_cases e : a.1 = n
    · simp [dropR, e]
    · have h' : hasR l n = true := by simpa [hasR, e] using h
      have := dropR_length l n h'
      simp [dropR, e, this]

/-! ### names told apart -/
theorem hasR_append (l m : Row) (n : ByteArray) : hasR (l ++ m) n = (hasR l n || hasR m n) := by unfold hasR; rw [List.any_append]
/-- How many names there are. -/
def kindsR : Row → Nat
  | [] => 0
  | a :: l => if hasR l a.1 then kindsR l else kindsR l + 1
theorem kindsR_le : ∀ l : Row, kindsR l ≤ l.length
  | [] => Nat.le_refl _
  | a :: l => by have := kindsR_le l; unfold kindsR; split <;> simp <;> omega
theorem kindsR_eq : ∀ l : Row, decide (kindsR l = l.length) = distR l
  | [] => rfl
  | a :: l => by
    have ih := kindsR_eq l
    have hle := kindsR_le l
    unfold kindsR distR
    cases h : hasR l a.1
    · simp [← ih]
    · simp; omega
theorem kindsR_snoc : ∀ (l : Row) (a : At), kindsR (l ++ [a]) = if hasR l a.1 then kindsR l else kindsR l + 1
  | [], a => by simp [kindsR, hasR]
  | b :: l, a => by
    have ih := kindsR_snoc l a
    have e1 : hasR (l ++ [a]) b.1 = (hasR l b.1 || decide (a.1 = b.1)) := by rw [hasR_append]; simp [hasR]
    have e2 : hasR (b :: l) a.1 = (decide (b.1 = a.1) || hasR l a.1) := by simp [hasR]
    show kindsR (b :: (l ++ [a])) = _
    unfold kindsR
    rw [ih, e1, e2]
    by_cases h : b.1 = a.1
    · rw [h]
      cases hl : hasR l a.1 <;> simp
    · have h' : ¬ a.1 = b.1 := Ne.symm h
      simp only [h, h', decide_false, Bool.or_false, Bool.false_or]
      cases hasR l a.1 <;> cases hasR l b.1 <;> simp

theorem filter_two {a : ByteArray} : ∀ l : Row, distR l = true → (onlyR l [a]).length ≤ 1
  | [], _ => by simp [onlyR]
  | b :: l, h => by
    unfold distR at h
    rw [Bool.and_eq_true] at h
    have ih := filter_two (a := a) l h.2
    unfold onlyR at ih ⊢
    rw [List.filter_cons]
    split
    · rename_i hb
      have hb' : a = b.1 := by simpa using hb
      have hn : hasR l b.1 = false := by simpa using h.1
      have : l.filter (fun x => [a].any fun n => decide (n = x.1)) = [] := by
        rw [List.filter_eq_nil_iff]
        intro x hx
        unfold hasR at hn
        rw [List.any_eq_false] at hn
        have := hn x hx
        simp at this ⊢
        intro e
        exact this (by rw [← e, hb'])
      rw [this]; simp
    · exact ih
end Go.Proofs.YtcccaaleekednaaDoor
