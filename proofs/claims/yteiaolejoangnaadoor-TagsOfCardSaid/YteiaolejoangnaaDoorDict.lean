/-
  The program's map of names, as data: what its entries, one behind the other, come to; whether a name is in it, and what it has there.
-/
import Derived.Test.YteiaolejoangnaaDoorPlain
import Derived.Maps.Own
import Derived.Maps.Views
import Derived.KernelRfl
namespace Go.Proofs.YteiaolejoangnaaDoor

def sk (l : List UInt8) : Lit := .string l
def ik (n : Int) : DataW Unit := .lit (.int .i64 n)

def dm1 : DataW Unit := (DataW.map []).put (sk [115, 116, 114, 111, 110, 103]) (ik 11)
def dm2 : DataW Unit := dm1.put (sk [101, 109]) (ik 12)
def dm3 : DataW Unit := dm2.put (sk [105, 110, 115]) (ik 13)
def dm4 : DataW Unit := dm3.put (sk [115, 116, 114, 105, 107, 101]) (ik 14)
def dm5 : DataW Unit := dm4.put (sk [100, 101, 108]) (ik 14)

/-- The map behind so many rounds. -/
def dmR : Nat → DataW Unit
  | 0 => dm5
  | k + 1 => if k = 0 then dmR k else (dmR k).put (sk (tab.getD k [])) (ik k)

theorem dmR_one : dmR 1 = dmR 0 := rfl
theorem dmR_step (k : Nat) (h : 0 < k) : dmR (k + 1) = (dmR k).put (sk (tab.getD k [])) (ik k) := by
  show (if k = 0 then dmR k else _) = _
  rw [if_neg (by omega)]

theorem isMap5 : Maps.IsMap dm5 := ((((Maps.isMap_empty.put _ _).put _ _).put _ _).put _ _).put _ _

theorem dmR_isMap : ∀ k, Maps.IsMap (dmR k)
  | 0 => isMap5
  | k + 1 => by
    by_cases h : k = 0
    · subst h; exact isMap5
    · rw [dmR_step k (by omega)]; exact (dmR_isMap k).put _ _

/-- The pairs that are put in, the last one first. -/
def puts : List (List UInt8 × Int) := [([98, 114], 16), ([115, 112, 97, 110], 15), ([115], 14), ([117], 13), ([105], 12), ([98], 11), ([97], 10), ([108, 105], 9), ([111, 108], 8), ([117, 108], 7), ([98, 108, 111, 99, 107, 113, 117, 111, 116, 101], 6), ([104, 51], 5), ([104, 50], 4), ([104, 49], 3), ([112], 2), ([100, 105, 118], 1), ([100, 101, 108], 14), ([115, 116, 114, 105, 107, 101], 14), ([105, 110, 115], 13), ([101, 109], 12), ([115, 116, 114, 111, 110, 103], 11)]

def putAll : List (List UInt8 × Int) → DataW Unit
  | [] => .map []
  | p :: r => (putAll r).put (sk p.1) (ik p.2)

theorem dmR_end : dmR 17 = putAll puts := rfl

theorem putAll_isMap : ∀ l, Maps.IsMap (putAll l)
  | [] => Maps.isMap_empty
  | _ :: r => (putAll_isMap r).put _ _

theorem isKey (l : List UInt8) : WideAt.IsKeyLit (sk l) := by simp [WideAt.IsKeyLit, sk]

theorem putAll_has (k : List UInt8) : ∀ l, Maps.has (putAll l) (sk k) = (l.find? fun p => p.1 == k).isSome
  | [] => rfl
  | p :: r => by
    by_cases h : p.1 = k
    · subst h
      rw [List.find?_cons_of_pos (by simp)]
      exact Maps.has_put_same (putAll_isMap r) (isKey _) _
    · rw [List.find?_cons_of_neg (by simpa using h), ← putAll_has k r]
      exact Maps.has_put_other (fun e => h (by simpa [sk] using e.symm)) _

theorem putAll_at (k : List UInt8) : ∀ l, (putAll l).atKey (sk k) (ik 0) = ik (((l.find? fun p => p.1 == k).map (·.2)).getD 0)
  | [] => rfl
  | p :: r => by
    by_cases h : p.1 = k
    · subst h
      rw [List.find?_cons_of_pos (by simp)]
      exact Maps.atKey_put_same (putAll_isMap r) (isKey _) _ _
    · rw [List.find?_cons_of_neg (by simpa using h), ← putAll_at k r]
      exact Maps.atKey_put_other (fun e => h (by simpa [sk] using e.symm)) _ _

/-- The two lists of pairs find the same. -/
theorem puts_dict (k : List UInt8) : (puts.find? fun p => p.1 == k) = look k := by
  by_cases hk : ∃ p ∈ dict, p.1 = k
  · obtain ⟨p, hp, rfl⟩ := hk
    have h : ∀ q ∈ dict, (puts.find? fun p => p.1 == q.1) = look q.1 := by decide
    exact h p hp
  · have h1 : look k = none := by
      unfold look
      rw [List.find?_eq_none]
      intro p hp he
      exact hk ⟨p, hp, by simpa using he⟩
    rw [h1, List.find?_eq_none]
    intro p hp he
    have hsub : ∀ q ∈ puts, q ∈ dict := by decide
    exact hk ⟨p, hsub p hp, by simpa using he⟩

theorem dict_has (k : List UInt8) : Maps.has (dmR 17) (sk k) = fndB k := by
  rw [dmR_end, putAll_has, puts_dict]; rfl
theorem dict_at (k : List UInt8) : (dmR 17).atKey (sk k) (ik 0) = ik (fndT k) := by
  rw [dmR_end, putAll_at, puts_dict]; rfl

end Go.Proofs.YteiaolejoangnaaDoor
