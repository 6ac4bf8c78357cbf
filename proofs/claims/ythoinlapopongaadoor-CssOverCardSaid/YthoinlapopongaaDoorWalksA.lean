/-
  The contracts of what only computes: Over, what one word says, what is written of a bit.
-/
import Derived.Test.YthoinlapopongaaDoorStyle
import Derived.Test.YthoinlapopongaaDoorRange
import Derived.WalkKit
import Derived.WalkSpells
import Derived.WalkLawsBesides
import Derived.BigGuardPart
import Derived.Lib.Hide
import Derived.Lib.OthersKept
namespace Go.Proofs.YthoinlapopongaaDoor
open Go.RowKit Go.Lib

theorem ret_int {k : IntKind} {a b : Int} (h : a = b) : Ending.returned (.int k a) = .returned (.int k b) := by rw [h]
theorem ret_bool {a b : Bool} (h : a = b) : Ending.returned (.bool a) = .returned (.bool b) := by rw [h]
theorem ret_str {a b : ByteArray} (h : a = b) : Ending.returned (.string a) = .returned (.string b) := by rw [h]

theorem over_any (x s c : Int) (w : World) :
    Calls Tryd.prog 13 #[.int .i64 x, .int .i64 s, .int .i64 c] w fun e w' =>
      e = .returned (.int .i64 (overS (BitVec.ofInt 64 x) (BitVec.ofInt 64 s) (BitVec.ofInt 64 c)).toInt) ∧ w = w' := by
  go_enter Tryd.func13, Tryd.ntmps13
  go_wp2
  go_ret
  refine ⟨ret_int ?_, rfl⟩
  unfold overS
  rw [bits_or, bits_andNot, ofInt_bits]

theorem list_ne {v u : ByteArray} (h : ¬ v = u) : (v.toList == u.toList) = false := by
  rw [Bool.eq_false_iff]
  intro e
  have e' : v.toList = u.toList := by simpa using e
  rw [toList_data, toList_data] at e'
  apply h
  rw [← Lib.mk_data v, ← Lib.mk_data u, e']
theorem list_ne' {v : ByteArray} {l : List UInt8} (h : ¬ v = ⟨l.toArray⟩) : (v.toList == l) = false := by
  have := list_ne h
  rwa [toList_data ⟨l.toArray⟩] at this
theorem list_ne'' {v : ByteArray} {l : List UInt8} (h : ¬ ⟨l.toArray⟩ = v) : (l == v.toList) = false := by
  have := list_ne h
  rwa [toList_data ⟨l.toArray⟩] at this
theorem one_any (bit : B64) (v word : ByteArray) (w : World) :
    Calls Tryd.prog 30 #[.int .i64 bit.toInt, .string v, .string word] w fun e w' =>
      e = .returned (.tuple #[.int .i64 (oneS bit v word).1.toInt, .int .i64 (oneS bit v word).2.toInt]) ∧ w = w' := by
  unfold oneS
  by_cases h1 : v = word
  · rw [if_pos h1]
    subst h1
    go_enter Tryd.func30, Tryd.ntmps30
    go_wp2
    go_ret2
    exact ⟨rfl, rfl⟩
  · rw [if_neg h1]
    have hl := list_ne h1
    by_cases h2 : v = kNormal
    · rw [if_pos h2]
      subst h2
      replace hl := list_ne'' h1
      go_enter Tryd.func30, Tryd.ntmps30
      go_wp2
      go_ret2
      exact ⟨rfl, rfl⟩
    · rw [if_neg h2]
      have hl2 := list_ne' h2
      go_enter Tryd.func30, Tryd.ntmps30
      go_wp2
      go_ret2
      exact ⟨rfl, rfl⟩

theorem weight_any (v : ByteArray) (w : World) :
    Calls Tryd.prog 29 #[.string v] w fun e w' => e = .returned (.string (weightS v)) ∧ w = w' := by
  unfold weightS
  by_cases h1 : v = kHeavy
  · rw [if_pos h1]
    subst h1
    go_enter Tryd.func29, Tryd.ntmps29
    go_wp2
    go_ret
    exact ⟨rfl, rfl⟩
  · rw [if_neg h1]
    have hl := list_ne' h1
    by_cases h2 : v = kPlain
    · rw [if_pos h2]
      subst h2
      go_enter Tryd.func29, Tryd.ntmps29
      go_wp2
      go_ret
      exact ⟨rfl, rfl⟩
    · rw [if_neg h2]
      have hl2 := list_ne' h2
      go_enter Tryd.func29, Tryd.ntmps29
      go_wp2
      go_ret
      exact ⟨rfl, rfl⟩

/-- The words of what is set. -/
def ofOne (set : Int) (word : ByteArray) : ByteArray := if set = 0 then kNormal else word
theorem ofOne_any (set : Int) (word : ByteArray) (w : World) :
    Calls Tryd.prog 21 #[.int .i64 set, .string word] w fun e w' => e = .returned (.string (ofOne set word)) ∧ w = w' := by
  unfold ofOne
  by_cases h1 : set = 0
  · rw [if_pos h1]
    subst h1
    go_enter Tryd.func21, Tryd.ntmps21
    go_wp2
    go_ret
    exact ⟨rfl, rfl⟩
  · rw [if_neg h1]
    go_enter Tryd.func21, Tryd.ntmps21
    go_wp2
    go_ret
    exact ⟨rfl, rfl⟩
abbrev kBoth : ByteArray := ⟨#[117, 110, 100, 101, 114, 108, 105, 110, 101, 32, 108, 105, 110, 101, 45, 116, 104, 114, 111, 117, 103, 104]⟩
def ofStrokes (set : Int) : ByteArray := if set = 4 then kUnder else if set = 8 then kThrough else if set = 12 then kBoth else kNone
theorem ofStrokes_any (set : Int) (w : World) :
    Calls Tryd.prog 22 #[.int .i64 set] w fun e w' => e = .returned (.string (ofStrokes set)) ∧ w = w' := by
  unfold ofStrokes
  by_cases h1 : set = 4
  · rw [if_pos h1]
    subst h1
    go_enter Tryd.func22, Tryd.ntmps22
    go_wp2
    go_ret
    exact ⟨rfl, rfl⟩
  · rw [if_neg h1]
    by_cases h2 : set = 8
    · rw [if_pos h2]
      subst h2
      go_enter Tryd.func22, Tryd.ntmps22
      go_wp2
      go_ret
      exact ⟨rfl, rfl⟩
    · rw [if_neg h2]
      by_cases h3 : set = 12
      · rw [if_pos h3]
        subst h3
        go_enter Tryd.func22, Tryd.ntmps22
        go_wp2
        go_ret
        exact ⟨rfl, rfl⟩
      · rw [if_neg h3]
        go_enter Tryd.func22, Tryd.ntmps22
        go_wp2
        go_ret
        exact ⟨rfl, rfl⟩

/-- All but the cells of some blocks lies as it lay. -/
structure But (bad : Nat → Prop) (w w' : World) : Prop where
  os : w'.os = w.os
  tape : w'.tape = w.tape
  output : w'.output = w.output
  size : w.heap.size ≤ w'.heap.size
  same : ∀ k, k < w.heap.size → ¬ bad k → w'.heap[k]? = w.heap[k]?
theorem But.of_below {bad : Nat → Prop} {w w' : World} (h : Below w.heap.size w w') : But bad w w' := ⟨h.os, h.tape, h.output, h.size, fun k hk _ => h.block k hk⟩
theorem But.trans {bad : Nat → Prop} {u v w : World} (h : But bad u v) (k : But bad v w) : But bad u w :=
  ⟨k.os.trans h.os, k.tape.trans h.tape, k.output.trans h.output, Nat.le_trans h.size k.size, fun i hi hb => (k.same i (Nat.lt_of_lt_of_le hi h.size) hb).trans (h.same i hi hb)⟩
theorem But.below {bad : Nat → Prop} {B : Nat} {w w' : World} (h : But bad w w') (hB : B ≤ w.heap.size) (hb : ∀ k, bad k → B ≤ k) : Below B w w' :=
  ⟨h.os, h.tape, h.output, h.size, fun k hk => h.same k (by omega) (fun e => by have := hb k e; omega)⟩
theorem But.stays {bad own : Nat → Prop} {w w' : World} (h : But bad w w') (hd : ∀ k, own k → ¬ bad k) : Stays own w w' :=
  ⟨h.size, fun k ho hk => h.same k hk (hd k ho)⟩
theorem But.set {bad : Nat → Prop} (w : World) (b i : Nat) (v : Value) (hb : bad b) : But bad w (w.setCell ⟨b, i, none⟩ v) :=
  ⟨rfl, rfl, rfl, by simp [World.setCell], fun k _ hn => Below.heap_setCell _ _ _ _ (fun e => hn (by rw [e]; exact hb))⟩
theorem But.drew (bad : Nat → Prop) (w : World) : But bad w w.drew := ⟨rfl, rfl, rfl, Nat.le_refl _, fun _ _ _ => rfl⟩

end Go.Proofs.YthoinlapopongaaDoor
