/-
  A tree of nodes by their numbers, in memory; what only asks: is, node, Has, Tag, Parent.
-/
import Derived.Test.YtggjoefhopoggaaDoorTagB
import Derived.WalkKit
import Derived.WalkSpells
import Derived.WalkLawsBesides
import Derived.BigGuardPart
import Derived.Lib.Hide
import Derived.Lib.OthersKept
import Derived.Lib.Strings
import Derived.Below
import Derived.LoopTactic
import Derived.Deep.DeepCutAuto
import Derived.Laws.OwnMore
import Derived.RangeFuncOwn
import Derived.LaidEqlPtr
namespace Go.Proofs.YtggjoefhopoggaaDoor
open Go.RowKit Go.Lib

theorem lt_of_cell' {w : World} {a : Addr} {v : Value} (h : w.cell? a = some v) : a.block < w.heap.size := by
  obtain ⟨o, ho, _⟩ := cells_of_cell h
  exact (Array.getElem?_eq_some_iff.1 ho).1
/-- A node: its block; its tag, its attributes' row, its text, its parent, its kids; what its attributes read as. -/
structure Nd where
  ab : Nat
  tag : Int
  aa : Option Addr
  an : Nat
  ac : Nat
  tx : ByteArray
  up : Int
  ka : Option Addr
  kc : Nat
  kids : List Int
  ats : List (ByteArray × ByteArray)
instance : Inhabited Nd := ⟨⟨0, 0, none, 0, 0, ⟨#[]⟩, 0, none, 0, [], []⟩⟩
/-- Its kids lie there. -/
def KidsAt (w : World) (ka : Option Addr) (kids : List Int) : Prop :=
  kids = [] ∨ ∃ b o, ka = some ⟨b, o, none⟩ ∧ ∀ j, j < kids.length → w.cell? ⟨b, o + j, none⟩ = some (.int .i64 (kids[j]!))
structure NodeAt (w : World) (x : Nd) : Prop where
  c0 : w.cell? ⟨x.ab, 0, none⟩ = some (.int .i64 x.tag)
  c1 : w.cell? ⟨x.ab, 1, none⟩ = some (.slice x.aa x.an x.ac)
  c2 : w.cell? ⟨x.ab, 2, none⟩ = some (.string x.tx)
  c3 : w.cell? ⟨x.ab, 3, none⟩ = some (.slice none 0 0)
  c4 : w.cell? ⟨x.ab, 4, none⟩ = some (.int .i64 x.up)
  c5 : w.cell? ⟨x.ab, 5, none⟩ = some (.slice x.ka x.kids.length x.kc)
  f : ∀ j, w.frozen? ⟨x.ab, j, none⟩ = false
  ks : KidsAt w x.ka x.kids
  kl : x.kids.length ≤ 2000
theorem KidsAt.below {w w' : World} {ka : Option Addr} {kids : List Int} (h : KidsAt w ka kids) (hb : Below w.heap.size w w') : KidsAt w' ka kids := by
  rcases h with h | ⟨b, o, e, h⟩
  · exact .inl h
  · exact .inr ⟨b, o, e, fun j hj => (hb.cell (p := ⟨b, o + j, none⟩) (lt_of_cell' (h j hj))).trans (h j hj)⟩
/-- A tree: the block of it, of its nodes' row; its nodes. -/
structure TreeAt (w : World) (p nb : Nat) (deep : Int) (l : List (Option Nd)) : Prop where
  c0 : w.cell? ⟨p, 0, none⟩ = some (.pointer (some ⟨p, 0, none⟩))
  c1 : w.cell? ⟨p, 1, none⟩ = some (.slice (some ⟨nb, 0, none⟩) l.length l.length)
  c2 : w.cell? ⟨p, 2, none⟩ = some (.int .i64 deep)
  le : l.length ≤ 2000
  no : ∀ i : Nat, l[i]? = some none → w.cell? ⟨nb, i, none⟩ = some (.pointer none)
  yes : ∀ (i : Nat) (x : Nd), l[i]? = some (some x) → w.cell? ⟨nb, i, none⟩ = some (.pointer (some ⟨x.ab, 0, none⟩)) ∧ NodeAt w x
  f : ∀ i, w.frozen? ⟨nb, i, none⟩ = false
/-- Its blocks lie apart. -/
structure Apart (p nb : Nat) (l : List (Option Nd)) : Prop where
  pn : p ≠ nb
  pa : ∀ (i : Nat) (x : Nd), l[i]? = some (some x) → x.ab ≠ p ∧ x.ab ≠ nb
  aa : ∀ (i j : Nat) (x y : Nd), l[i]? = some (some x) → l[j]? = some (some y) → i ≠ j → x.ab ≠ y.ab
  ka : ∀ (i : Nat) (x : Nd) b o, l[i]? = some (some x) → x.ka = some ⟨b, o, none⟩ → x.kids ≠ [] → b ≠ p ∧ b ≠ nb ∧ ∀ (j : Nat) (y : Nd), l[j]? = some (some y) → b ≠ y.ab

def ndAt (l : List (Option Nd)) (id : Int) : Option Nd := if 0 ≤ id then (l[id.toNat]?).getD none else none
def ndV : Option Nd → Value
  | none => .pointer none
  | some x => .pointer (some ⟨x.ab, 0, none⟩)
def hasT (l : List (Option Nd)) (id : Int) : Bool := (ndAt l id).isSome
def tagT (l : List (Option Nd)) (id : Int) : Int := ((ndAt l id).map (·.tag)).getD (-1)
def upT (l : List (Option Nd)) (id : Int) : Int := ((ndAt l id).map (·.up)).getD (-1)
theorem ndAt_some {l : List (Option Nd)} {id : Int} {x : Nd} (h : ndAt l id = some x) : 0 ≤ id ∧ l[id.toNat]? = some (some x) := by
  unfold ndAt at h
  by_cases h0 : 0 ≤ id
  · rw [if_pos h0] at h
    refine ⟨h0, ?_⟩
    cases e : l[id.toNat]? with
    | none => rw [e] at h; cases h
    | some y => rw [e] at h; exact congrArg some h
  · rw [if_neg h0] at h; cases h
theorem TreeAt.node {w : World} {p nb : Nat} {deep : Int} {l : List (Option Nd)} (h : TreeAt w p nb deep l) {id : Int} {x : Nd} (hx : ndAt l id = some x) : NodeAt w x := (h.yes _ _ (ndAt_some hx).2).2

theorem eqTree (p : Nat) (w : World) : (binOp .eql 26 (.pointer (some ⟨p, 0, none⟩)) (.pointer (some ⟨p, 0, none⟩))).run Tryd.prog w = .ok (.bool true) w := by
  obtain ⟨j, hj⟩ := Option.isSome_iff_exists.1 (show (Tryd.prog.info? 77).isSome = true by kernel_rfl)
  exact run_eql_ptr_same w _ Tryd.underlying26 hj
theorem eqNilNode (a : Option Addr) (w : World) : (binOp .eql 62 (.pointer none) (.pointer a)).run Tryd.prog w = .ok (.bool a.isNone) w := by
  have h : Tryd.prog.underlying 62 = some (.pointer 69) := Tryd.underlying62
  have h2 : ∀ d : Nat, (Op.equalIn (d + 1) 62 (.pointer none) (.pointer a)).run Tryd.prog w = .ok a.isNone w := fun d => by
    cases a <;> simp [Op.equalIn, run_underlying h]
  simp only [binOp]
  simp [Op.equal, Op.maxDepth, h2 9999]

set_option maxRecDepth 20000 in
theorem is_any (w : World) (p nb : Nat) (deep : Int) (l : List (Option Nd)) (h : TreeAt w p nb deep l) :
    Calls Tryd.prog 47 #[.pointer (some ⟨p, 0, none⟩)] w fun e w' => e = .returned (.bool true) ∧ w = w' := by
  have c0 := h.c0
  have hq := eqTree p
  clear h
  go_enter Tryd.func47, Tryd.ntmps47
  go_wp2
  go_ret
  exact ⟨rfl, rfl⟩

set_option maxRecDepth 20000 in
theorem node_any (w : World) (p nb : Nat) (deep id : Int) (l : List (Option Nd)) (h : TreeAt w p nb deep l) :
    Calls Tryd.prog 43 #[.pointer (some ⟨p, 0, none⟩), .int .i64 id] w fun e w' => e = .returned (ndV (ndAt l id)) ∧ w = w' := by
  have cI := is_any w p nb deep l h
  have c1 := h.c1
  have hle := h.le
  by_cases h0 : id < 0
  · have e : ndAt l id = none := by unfold ndAt; rw [if_neg (by omega)]
    rw [e]
    obtain ⟨n, hn⟩ : ∃ n, l.length = n := ⟨_, rfl⟩
    rw [hn] at c1
    clear h e hle hn
    go_enter Tryd.func43, Tryd.ntmps43
    go_wp2_with (go_at_call 47; ((with_reducible refine cI.mono ?_); rintro e w1 ⟨rfl, rfl⟩))
    go_ret
    exact ⟨rfl, rfl⟩
  · obtain ⟨k, rfl⟩ : ∃ k : Nat, id = k := ⟨id.toNat, by omega⟩
    have hk0 : (0 : Int) ≤ (k : Int) := by omega
    by_cases hk : k < l.length
    · have hc : w.cell? ⟨nb, k, none⟩ = some (ndV (ndAt l (k : Int))) := by
        have e : ndAt l (k : Int) = (l[k]?).getD none := by unfold ndAt; rw [if_pos hk0, Int.toNat_natCast]
        rw [e]
        cases e2 : l[k]? with
        | none => rw [List.getElem?_eq_none_iff] at e2; omega
        | some y =>
          cases y with
          | none => exact h.no _ e2
          | some x => exact (h.yes _ _ e2).1
      obtain ⟨V, hV⟩ : ∃ V, ndV (ndAt l (k : Int)) = V := ⟨_, rfl⟩
      rw [hV] at hc ⊢
      obtain ⟨n, hn⟩ : ∃ n, l.length = n := ⟨_, rfl⟩
      rw [hn] at c1 hle hk
      have hkI : (k : Int) < (n : Int) := by omega
      have hkn : ¬ (n : Int) ≤ (k : Int) := by omega
      clear h hV hn
      go_enter Tryd.func43, Tryd.ntmps43
      go_wp2_with (go_at_call 47; ((with_reducible refine cI.mono ?_); rintro e w1 ⟨rfl, rfl⟩))
      go_ret
      exact ⟨rfl, rfl⟩
    · have e : ndAt l (k : Int) = none := by unfold ndAt; rw [if_pos hk0, Int.toNat_natCast, List.getElem?_eq_none_iff.2 (by omega)]; rfl
      rw [e]
      obtain ⟨n, hn⟩ : ∃ n, l.length = n := ⟨_, rfl⟩
      rw [hn] at c1 hk
      have hkI : (n : Int) ≤ (k : Int) := by omega
      clear h e hle hn
      go_enter Tryd.func43, Tryd.ntmps43
      go_wp2_with (go_at_call 47; ((with_reducible refine cI.mono ?_); rintro e w1 ⟨rfl, rfl⟩))
      go_ret
      exact ⟨rfl, rfl⟩

set_option maxRecDepth 20000 in
theorem has_any (w : World) (p nb : Nat) (deep id : Int) (l : List (Option Nd)) (h : TreeAt w p nb deep l) :
    Calls Tryd.prog 22 #[.pointer (some ⟨p, 0, none⟩), .int .i64 id] w fun e w' => e = .returned (.bool (hasT l id)) ∧ w = w' := by
  have cN := node_any w p nb deep id l h
  unfold hasT
  clear h
  cases hx : ndAt l id with
  | none =>
    rw [hx] at cN
    clear hx
    unfold ndV at cN
    go_enter Tryd.func22, Tryd.ntmps22
    go_wp2_with (go_at_call 43; ((with_reducible refine cN.mono ?_); rintro e w1 ⟨rfl, rfl⟩))
    go_ret
    exact ⟨rfl, rfl⟩
  | some x =>
    rw [hx] at cN
    clear hx
    unfold ndV at cN
    dsimp only at cN
    go_enter Tryd.func22, Tryd.ntmps22
    go_wp2_with (go_at_call 43; ((with_reducible refine cN.mono ?_); rintro e w1 ⟨rfl, rfl⟩))
    go_ret
    exact ⟨rfl, rfl⟩

set_option maxRecDepth 20000 in
theorem parent_any (w : World) (p nb : Nat) (deep id : Int) (l : List (Option Nd)) (h : TreeAt w p nb deep l) :
    Calls Tryd.prog 23 #[.pointer (some ⟨p, 0, none⟩), .int .i64 id] w fun e w' => e = .returned (.int .i64 (upT l id)) ∧ w = w' := by
  have cN := node_any w p nb deep id l h
  unfold upT
  cases hx : ndAt l id with
  | none =>
    rw [hx] at cN
    clear hx h
    unfold ndV at cN
    go_enter Tryd.func23, Tryd.ntmps23
    go_wp2_with (go_at_call 43; ((with_reducible refine cN.mono ?_); rintro e w1 ⟨rfl, rfl⟩))
    go_ret
    exact ⟨rfl, rfl⟩
  | some x =>
    have c4 := (h.node hx).c4
    rw [hx] at cN
    clear hx h
    unfold ndV at cN
    dsimp only at cN
    go_enter Tryd.func23, Tryd.ntmps23
    go_wp2_with (go_at_call 43; ((with_reducible refine cN.mono ?_); rintro e w1 ⟨rfl, rfl⟩))
    go_ret
    exact ⟨rfl, rfl⟩

end Go.Proofs.YtggjoefhopoggaaDoor
