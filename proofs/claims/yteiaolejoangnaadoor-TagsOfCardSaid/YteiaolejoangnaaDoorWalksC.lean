/-
  The contract of the document's Names: of each tag a slice of its names, its own first, in new memory.
-/
import Derived.Test.YteiaolejoangnaaDoorWalksB
import Derived.Deep.DeepCutAuto
import Derived.Lib.Hide
namespace Go.Proofs.YteiaolejoangnaaDoor
open Go.RowKit

/-- A slice value holds these texts. -/
def HoldsS (w : World) (v : Value) (l : List (List UInt8)) : Prop :=
  (l = [] ∧ v = .slice none 0 0) ∨ ∃ b, 0 < l.length ∧ b < w.heap.size ∧ v = .slice (some ⟨b, 0, none⟩) l.length l.length ∧ ∀ j, j < l.length → w.cell? ⟨b, j, none⟩ = some (.string ⟨(l.getD j []).toArray⟩)

theorem holds_of {w : World} {b : Nat} {l : List (List UInt8)} {t : TypeId} {fr : Nat × Nat} {cs : Array Value} (h : w.heap[b]? = some (.cells cs t fr)) (hc : cs = (l.map fun s => Value.string ⟨s.toArray⟩).toArray) (hl : 0 < l.length) :
    HoldsS w (.slice (some ⟨b, 0, none⟩) l.length l.length) l := by
  refine Or.inr ⟨b, hl, (Array.getElem?_eq_some_iff.1 h).1, rfl, fun j hj => ?_⟩
  subst hc
  simp [World.cell?, h, hj]

def namesOf (t : Int) : List (List UInt8) := if t < 0 ∨ 16 < t then [] else names.getD t.toNat []

def NamesPost (t : Int) (w : World) (e : Ending) (w' : World) : Prop := ∃ v, e = .returned v ∧ HoldsS w' v (namesOf t) ∧ Below w.heap.size w w'

/-- A world behind new blocks. -/
def allocs (w : World) : List Obj → World
  | [] => w
  | o :: r => allocs (w.alloc o) r

theorem allocs_below (l : List Obj) : ∀ (B : Nat) (w0 w : World), B ≤ w.heap.size → Below B w0 w → Below B w0 (allocs w l) := by
  induction l with
  | nil => intro B w0 w _ h; exact h
  | cons o r ih => intro B w0 w hB h; exact ih B w0 _ (by simp; omega) (h.alloc hB o)

theorem allocs_at (l : List Obj) : ∀ (w : World) (j : Nat) (o : Obj), l[j]? = some o → (allocs w l).heap[w.heap.size + j]? = some o := by
  induction l with
  | nil => intro w j o h; simp at h
  | cons x r ih =>
    intro w j o h
    cases j with
    | zero =>
      have e : x = o := by simpa using h
      subst e
      have hb := allocs_below r (w.heap.size + 1) (w.alloc x) (w.alloc x) (by simp) (Below.refl _ _)
      show (allocs (w.alloc x) r).heap[w.heap.size]? = some x
      rw [hb.block _ (by omega)]
      exact (MapKept.heap_alloc w x).1
    | succ j =>
      have := ih (w.alloc x) j o (by simpa using h)
      have e : (w.alloc x).heap.size + j = w.heap.size + (j + 1) := by simp; omega
      rw [e] at this
      exact this

def nameObj (l : List (List UInt8)) : Obj := .cells (l.map fun s => Value.string ⟨s.toArray⟩).toArray 9
def nameVal (n : Nat) (k : Nat) : Value := if k = 0 then .slice none 0 0 else .slice (some ⟨n + (k - 1), 0, none⟩) (names.getD k []).length (names.getD k []).length
def nameObjs (n : Nat) : List Obj := (names.drop 1).map nameObj ++ [.cells ((List.range 17).map (nameVal n)).toArray 39]

/-- What stands behind the first statement. -/
def AllNames (w : World) (v : Value) (wx : World) : Prop :=
  ∃ B, v = .slice (some ⟨B, 0, none⟩) 17 17 ∧ (∀ k, k ≤ 16 → ∃ u, wx.cell? ⟨B, k, none⟩ = some u ∧ HoldsS wx u (names.getD k [])) ∧ Below w.heap.size w wx

theorem allNames_made (w : World) : AllNames w (.slice (some ⟨w.heap.size + 16, 0, none⟩) 17 17) (allocs w (nameObjs w.heap.size)) := by
  refine ⟨_, rfl, fun k hk => ⟨nameVal w.heap.size k, ?_, ?_⟩, allocs_below _ _ _ _ (Nat.le_refl _) (Below.refl _ _)⟩
  · have h := allocs_at (nameObjs w.heap.size) w 16 (.cells ((List.range 17).map (nameVal w.heap.size)).toArray 39) rfl
    simp [World.cell?, h, List.getElem?_range (show k < 17 by omega)]
  · by_cases h0 : k = 0
    · subst h0; exact Or.inl ⟨rfl, rfl⟩
    · have hl : (nameObjs w.heap.size)[k - 1]? = some (nameObj (names.getD k [])) ∧ 0 < (names.getD k []).length := by
        have hc : k = 1 ∨ k = 2 ∨ k = 3 ∨ k = 4 ∨ k = 5 ∨ k = 6 ∨ k = 7 ∨ k = 8 ∨ k = 9 ∨ k = 10 ∨ k = 11 ∨ k = 12 ∨ k = 13 ∨ k = 14 ∨ k = 15 ∨ k = 16 := by omega
        rcases hc with rfl | rfl | rfl | rfl | rfl | rfl | rfl | rfl | rfl | rfl | rfl | rfl | rfl | rfl | rfl | rfl <;> exact ⟨rfl, by decide⟩
      have h := allocs_at _ w (k - 1) _ hl.1
      unfold nameVal
      rw [if_neg h0]
      exact holds_of h rfl hl.2

set_option maxHeartbeats 4000000 in
theorem names_in (k : Nat) (w : World) (hk : k ≤ 16) :
    Calls Tryd.prog 26 #[.int .i64 k] w (NamesPost k w) := by
  have en : namesOf k = names.getD k [] := by unfold namesOf; rw [if_neg (by omega)]; simp
  have EN := Lib.hid en
  clear en
  go_enter Tryd.func26, Tryd.ntmps26
  go_upto_region 1 with fail
  go_cut [3] (fun v wx => AllNames w v wx)
  case first =>
    go_wp2
    go_meet
    exact allNames_made w
  case rest =>
    obtain ⟨B, rfl, hc, hb⟩ := hcut
    obtain ⟨u, hu, hh⟩ := hc k hk
    clear hc
    go_wp2
    go_ret
    exact ⟨u, rfl, by rw [EN.out]; exact hh, hb⟩

set_option maxHeartbeats 4000000 in
theorem names_out (t : Int) (w : World) (ht : t < 0 ∨ 16 < t) :
    Calls Tryd.prog 26 #[.int .i64 t] w (NamesPost t w) := by
  have en : namesOf t = [] := by unfold namesOf; rw [if_pos ht]
  have EN := Lib.hid en
  clear en
  go_enter Tryd.func26, Tryd.ntmps26
  go_upto_region 1 with fail
  go_cut [3] (fun v wx => AllNames w v wx)
  case first =>
    go_wp2
    go_meet
    exact allNames_made w
  case rest =>
    obtain ⟨B, rfl, hc, hb⟩ := hcut
    clear hc
    rcases ht with ht | ht
    · go_wp2
      go_ret
      exact ⟨_, rfl, by rw [EN.out]; exact Or.inl ⟨rfl, rfl⟩, hb⟩
    · have h0 : ¬ t < 0 := by omega
      go_wp2
      go_ret
      exact ⟨_, rfl, by rw [EN.out]; exact Or.inl ⟨rfl, rfl⟩, hb⟩

theorem names_any (t : Int) (w : World) : Calls Tryd.prog 26 #[.int .i64 t] w (NamesPost t w) := by
  by_cases h : t < 0 ∨ 16 < t
  · exact names_out t w h
  · obtain ⟨k, rfl⟩ : ∃ a : Nat, t = a := ⟨t.toNat, by omega⟩
    exact names_in k w (by omega)

/-- Where there are names: a slice of them. -/
theorem names_some (t : Int) (w : World) (h : 0 < (namesOf t).length) :
    Calls Tryd.prog 26 #[.int .i64 t] w fun e w' => ∃ b, e = .returned (.slice (some ⟨b, 0, none⟩) (namesOf t).length (namesOf t).length) ∧ b < w'.heap.size ∧
      (∀ j, j < (namesOf t).length → w'.cell? ⟨b, j, none⟩ = some (.string ⟨((namesOf t).getD j []).toArray⟩)) ∧ Below w.heap.size w w' := by
  refine (names_any t w).mono ?_
  rintro e w' ⟨v, rfl, hh, hb⟩
  rcases hh with ⟨hl, _⟩ | ⟨b, _, h1, rfl, hc⟩
  · rw [hl] at h; exact absurd h (by decide)
  · exact ⟨b, rfl, h1, hc, hb⟩

/-- Where there are none: nil. -/
theorem names_none (t : Int) (w : World) (h : namesOf t = []) :
    Calls Tryd.prog 26 #[.int .i64 t] w fun e w' => e = .returned (.slice none 0 0) ∧ Below w.heap.size w w' := by
  refine (names_any t w).mono ?_
  rintro e w' ⟨v, rfl, hh, hb⟩
  rcases hh with ⟨_, rfl⟩ | ⟨b, h1, _⟩
  · exact ⟨rfl, hb⟩
  · rw [h] at h1; exact absurd h1 (by decide)

end Go.Proofs.YteiaolejoangnaaDoor
