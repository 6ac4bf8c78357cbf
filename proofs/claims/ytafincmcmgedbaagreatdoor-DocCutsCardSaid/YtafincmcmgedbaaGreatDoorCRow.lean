/-
  Rows of cells: plain; in memory, read where they lie; owned. Runs likewise.
  Small laws of rows and texts; what is known of a row that came in.
  Slices of ints: plain; in memory, read where they lie; owned. Lines: plain; as values.
  The program's and the document's Class, May of a character.
-/
import Derived.Test.YtafincmcmgedbaaGreatDoorRows
import Derived.WalkKit
import Derived.WalkSpells
import Derived.WalkLawsBesides
import Derived.BigGuardPart
import Derived.Lib.Hide
import Derived.Lib.OthersKept
import Derived.Lib.Strings
import Derived.Below
import Derived.LoopTactic
import Derived.Deep.DeepCutAuto
import Derived.Laws.OwnMore
import Derived.RangeFuncOwn
import Derived.Lib.SmallJoins

namespace Go.Proofs.YtafincmcmgedbaaGreatDoor
open Go.RowKit Go.Lib

theorem ret_bool {a b : Bool} (h : a = b) : Ending.returned (.bool a) = .returned (.bool b) := by rw [h]
theorem ret_int {k : IntKind} {a b : Int} (h : a = b) : Ending.returned (.int k a) = .returned (.int k b) := by rw [h]
theorem str_eq (a b : ByteArray) : (a.toList == b.toList) = decide (a = b) := by
  rw [ByteArray.toList_eq, ByteArray.toList_eq, Bool.eq_iff_iff]
  simp only [beq_iff_eq, decide_eq_true_eq]
  constructor
  · intro h
    cases a with | mk a => cases b with | mk b =>
    congr 1
    exact Array.toList_inj.1 h
  · intro h; rw [h]
theorem below_draws (w : World) : ∀ n : Nat, Below w.heap.size w (w.drewN n)
  | 0 => Below.refl _ _
  | n + 1 => (below_draws w n).drew

/-- A cell: its character, its bits, its href. -/
abbrev Ce : Type := Int × Int × ByteArray
abbrev Row : Type := List Ce
def ce0 : Ce := (0, 0, ⟨#[]⟩)
def encC (c : Ce) : List Value := [.int .i32 c.1, .int .i64 c.2.1, .string c.2.2]
def aggC (c : Ce) : Value := .agg #[.int .i32 c.1, .int .i64 c.2.1, .string c.2.2]
def cellsR (l : Row) : List Value := l.flatMap encC

theorem infoCell : (Tryz.prog.info? 66).map (fun i => (i.zero, i.size, i.bytes)) = some (some (.agg #[.int .i32 0, .int .i64 0, .string ⟨#[]⟩]), 3, 32) := by kernel_rfl

theorem cellsR_length : ∀ l : Row, (cellsR l).length = l.length * 3
  | [] => rfl
  | a :: l => by
    have := cellsR_length l
    show (encC a ++ cellsR l).length = _
    rw [List.length_append, this]
    simp [encC]; omega
theorem cellsR_append (l m : Row) : cellsR (l ++ m) = cellsR l ++ cellsR m := by unfold cellsR; rw [List.flatMap_append]
theorem cellsR_at : ∀ (l : Row) (j : Nat), j < l.length → (cellsR l)[j * 3]? = some (.int .i32 (l[j]!).1) ∧ (cellsR l)[j * 3 + 1]? = some (.int .i64 (l[j]!).2.1) ∧ (cellsR l)[j * 3 + 2]? = some (.string (l[j]!).2.2)
  | [], j, h => by simp at h
  | a :: l, 0, _ => ⟨rfl, rfl, rfl⟩
  | a :: l, j + 1, h => by
    have ih := cellsR_at l j (by simpa using h)
    have e : cellsR (a :: l) = .int .i32 a.1 :: .int .i64 a.2.1 :: .string a.2.2 :: cellsR l := rfl
    have e1 : (j + 1) * 3 = j * 3 + 1 + 1 + 1 := by omega
    rw [e, e1]
    simpa using ih
theorem cellsR_one (l : Row) : ∀ u ∈ cellsR l, u.oneCell' = true := by
  intro u hu
  unfold cellsR at hu
  rw [List.mem_flatMap] at hu
  obtain ⟨a, _, ha⟩ := hu
  simp only [encC, List.mem_cons, List.not_mem_nil, or_false] at ha
  rcases ha with rfl | rfl | rfl <;> rfl

/-- The row lies in block b, from place o on. -/
def Cells (w : World) (b o : Nat) (l : Row) : Prop := ∀ j, j < l.length → w.cell? ⟨b, o + j * 3, none⟩ = some (.int .i32 (l[j]!).1) ∧ w.cell? ⟨b, o + j * 3 + 1, none⟩ = some (.int .i64 (l[j]!).2.1) ∧ w.cell? ⟨b, o + j * 3 + 2, none⟩ = some (.string (l[j]!).2.2)

/-- The slice v reads as the row l. -/
def RowAt (w : World) (v : Value) (l : Row) : Prop :=
  (∃ a c, v = .slice a 0 c ∧ (a = none → c = 0) ∧ c ≤ maxLen ∧ l = []) ∨ ∃ b o c, v = .slice (some ⟨b, o, none⟩) l.length c ∧ l.length ≤ c ∧ c ≤ maxLen ∧ b < w.heap.size ∧ Cells w b o l

theorem Cells.below {w w' : World} {b o : Nat} {l : Row} (h : Cells w b o l) (hb : b < w.heap.size) (hw : Below w.heap.size w w') : Cells w' b o l := fun j hj =>
  ⟨(hw.cell (p := ⟨b, o + j * 3, none⟩) hb).trans (h j hj).1, (hw.cell (p := ⟨b, o + j * 3 + 1, none⟩) hb).trans (h j hj).2.1, (hw.cell (p := ⟨b, o + j * 3 + 2, none⟩) hb).trans (h j hj).2.2⟩
theorem RowAt.below {w w' : World} {v : Value} {l : Row} (h : RowAt w v l) (hw : Below w.heap.size w w') : RowAt w' v l := by
  rcases h with h | ⟨b, o, c, h1, h2, h3, h4, h5⟩
  · exact .inl h
  · exact .inr ⟨b, o, c, h1, h2, h3, Nat.lt_of_lt_of_le h4 hw.size, h5.below h4 hw⟩
theorem Cells.enc {w : World} {b o : Nat} {l : Row} (h : Cells w b o l) : ∀ j, j < l.length → ∀ i v, (encC l[j]!)[i]? = some v → w.cell? ⟨b, o + j * 3 + i, none⟩ = some v := by
  intro j hj i v hi
  have h1 := h j hj
  match i, hi with
  | 0, hi => simp only [encC, List.getElem?_cons_zero, Option.some.injEq] at hi; rw [← hi]; exact h1.1
  | 1, hi => simp only [encC, List.getElem?_cons_succ, List.getElem?_cons_zero, Option.some.injEq] at hi; rw [← hi]; exact h1.2.1
  | 2, hi => simp only [encC, List.getElem?_cons_succ, List.getElem?_cons_zero, Option.some.injEq] at hi; rw [← hi]; exact h1.2.2
  | i + 3, hi => simp [encC] at hi
theorem Cells.flat {w : World} {b o : Nat} {l : Row} (h : Cells w b o l) : ∀ j u, (cellsR l)[j]? = some u → w.cell? ⟨b, o + j, none⟩ = some u := by
  intro j u hu
  have hj : j < l.length * 3 := by rw [← cellsR_length]; exact (List.getElem?_eq_some_iff.1 hu).1
  obtain ⟨h1, h2, h3⟩ := cellsR_at l (j / 3) (by omega)
  obtain ⟨k1, k2, k3⟩ := h (j / 3) (by omega)
  have hm : j % 3 = 0 ∨ j % 3 = 1 ∨ j % 3 = 2 := by omega
  rcases hm with e | e | e
  · have e2 : j / 3 * 3 = j := by omega
    rw [e2] at h1 k1
    rw [k1, ← h1, hu]
  · have e2 : j / 3 * 3 + 1 = j := by omega
    have e3 : o + j / 3 * 3 + 1 = o + j := by omega
    rw [e2] at h2
    rw [e3] at k2
    rw [k2, ← h2, hu]
  · have e2 : j / 3 * 3 + 2 = j := by omega
    have e3 : o + j / 3 * 3 + 2 = o + j := by omega
    rw [e2] at h3
    rw [e3] at k3
    rw [k3, ← h3, hu]
theorem Cells.of_flat {w : World} {b o : Nat} {l : Row} (h : ∀ j u, (cellsR l)[j]? = some u → w.cell? ⟨b, o + j, none⟩ = some u) : Cells w b o l := fun j hj =>
  ⟨h _ _ (cellsR_at l j hj).1, by have := h _ _ (cellsR_at l j hj).2.1; rwa [← Nat.add_assoc] at this, by have := h _ _ (cellsR_at l j hj).2.2; rwa [← Nat.add_assoc] at this⟩
theorem Cells.addF {w : World} {b o : Nat} {l : Row} (h : Cells w b o l) : ∀ j u, (cellsR l)[j]? = some u → w.cell? ((⟨b, o, none⟩ : Addr).add j) = some u := by
  intro j u hu
  rw [Addr.add_lit]
  exact h.flat j u hu
/-- A part of it. -/
theorem Cells.part {w : World} {b o : Nat} {l : Row} (h : Cells w b o l) (f n : Nat) (hn : f + n ≤ l.length) : Cells w b (o + f * 3) ((l.drop f).take n) := fun j hj => by
  have hl : ((l.drop f).take n).length = n := by simp; omega
  have e : ((l.drop f).take n)[j]! = l[f + j]! := by
    rw [List.getElem!_eq_getElem?_getD, List.getElem!_eq_getElem?_getD, List.getElem?_take_of_lt (by omega), List.getElem?_drop]
  have e2 : o + f * 3 + j * 3 = o + (f + j) * 3 := by omega
  rw [e, e2]
  exact h (f + j) (by omega)

/-- What is owned is read so. -/
theorem rowAt_of_own {w : World} {B : Nat} {v : Value} {l : Row} (h : w.ownsRow B 66 3 v l.length (cellsR l)) : RowAt w v l := by
  have h0 := h
  obtain ⟨_, ⟨rfl, hn⟩ | ⟨g, cap, cur, rfl, _, hg, hnc, hcm, _, _⟩⟩ := h
  · exact .inl ⟨none, 0, rfl, fun _ => rfl, by decide, List.eq_nil_of_length_eq_zero hn⟩
  · refine .inr ⟨g, 0, cap, rfl, hnc, hcm, (Array.getElem?_eq_some_iff.1 hg).1, Cells.of_flat (fun j u hu => ?_)⟩
    have := h0.cells rfl j u hu
    rwa [Addr.add_lit] at this
theorem ownsRow_below {w w' : World} {B e size : Nat} {v : Value} {n : Nat} {xs : List Value} (h : w.ownsRow B e size v n xs) (hb : Below w.heap.size w w') : w'.ownsRow B e size v n xs := by
  obtain ⟨h1, h2 | ⟨g, cap, cur, h2, h3, hg, h4⟩⟩ := h
  · exact ⟨h1, .inl h2⟩
  · exact ⟨h1, .inr ⟨g, cap, cur, h2, h3, (hb.block g (Array.getElem?_eq_some_iff.1 hg).1).trans hg, h4⟩⟩
theorem own_len {w : World} {B e size : Nat} {v : Value} {n : Nat} {xs : List Value} (h : w.ownsRow B e size v n xs) : ∃ a c, v = .slice a n c := by
  rcases h.2 with ⟨rfl, rfl⟩ | ⟨g, cap, cur, rfl, _⟩
  · exact ⟨_, _, rfl⟩
  · exact ⟨_, _, rfl⟩
theorem RowAt.len {w : World} {v : Value} {l : Row} (h : RowAt w v l) : ∃ a c, v = .slice a l.length c := by
  rcases h with ⟨a, c, rfl, _, _, rfl⟩ | ⟨b, o, c, rfl, _⟩
  · exact ⟨a, c, rfl⟩
  · exact ⟨_, c, rfl⟩
theorem RowAt.cap {w : World} {v : Value} {l : Row} (h : RowAt w v l) : ∃ a c, v = .slice a l.length c ∧ l.length ≤ c ∧ c ≤ maxLen := by
  rcases h with ⟨a, c, rfl, _, hc, rfl⟩ | ⟨b, o, c, rfl, h1, h2, _⟩
  · exact ⟨a, c, rfl, Nat.zero_le _, hc⟩
  · exact ⟨_, c, rfl, h1, h2⟩
/-- A row with a cell lies. -/
theorem RowAt.lies {w : World} {v : Value} {l : Row} (h : RowAt w v l) (hl : 0 < l.length) : ∃ b o c, v = .slice (some ⟨b, o, none⟩) l.length c ∧ l.length ≤ c ∧ c ≤ maxLen ∧ b < w.heap.size ∧ Cells w b o l := by
  rcases h with ⟨a, c, rfl, _, _, rfl⟩ | h
  · simp at hl
  · exact h
theorem lt_of_cell' {w : World} {a : Addr} {v : Value} (h : w.cell? a = some v) : a.block < w.heap.size := by
  obtain ⟨o, ho, _⟩ := cells_of_cell h
  exact (Array.getElem?_eq_some_iff.1 ho).1
theorem below_grown {w wr w' : World} {B e size n : Nat} {v : Value} {xs : List Value} (hb : Below B w wr) (hB : B ≤ wr.heap.size) (hown : wr.ownsRow B e size v n xs) (hg : wr.grownBy w' v.ownBlock) : Below B w w' :=
  hb.grown hg hB (fun j hj => (hown.lt j hj).1)
theorem own_other {w w' : World} {B e size : Nat} {v : Value} {n : Nat} {xs : List Value} (h : w.ownsRow B e size v n xs) (hs : ∀ k, B ≤ k → k < w.heap.size → w'.heap[k]? = w.heap[k]?) : w'.ownsRow B e size v n xs := by
  refine ⟨h.1, ?_⟩
  rcases h.2 with h2 | ⟨g, cap, cur, hv, hg, hc, hrest⟩
  · exact .inl h2
  · exact .inr ⟨g, cap, cur, hv, hg, (hs g hg (Array.getElem?_eq_some_iff.1 hc).1).trans hc, hrest⟩
/-- A row of its own. -/
def OwnPost (l : Row) (w : World) (e : Ending) (w' : World) : Prop := ∃ v, e = .returned v ∧ w'.ownsRow w.heap.size 66 3 v l.length (cellsR l) ∧ Below w.heap.size w w'

end Go.Proofs.YtafincmcmgedbaaGreatDoor

namespace Go.Proofs.YtafincmcmgedbaaGreatDoor
open Go.RowKit Go.Lib

/-- The cell at a place, or none. -/
def atR (l : Row) (k : Nat) : Ce := l.getD k ce0
def aheadR (l : Row) (k : Nat) : Ce := if 0 < k then atR l (k - 1) else ce0
theorem atR_in {l : Row} {k : Nat} (h : k < l.length) : atR l k = l[k]! := by
  unfold atR
  rw [List.getD_eq_getElem?_getD, List.getElem!_eq_getElem?_getD, List.getElem?_eq_getElem h]; rfl
theorem atR_out {l : Row} {k : Nat} (h : l.length ≤ k) : atR l k = ce0 := by
  unfold atR
  rw [List.getD_eq_getElem?_getD, List.getElem?_eq_none h]; rfl

theorem size_zero_iff (w : ByteArray) : w.size = 0 ↔ w = ⟨#[]⟩ := by
  constructor
  · intro h
    cases w with | mk a =>
    have : a.size = 0 := h
    have : a = #[] := Array.eq_empty_of_size_eq_zero this
    rw [this]
  · rintro rfl; rfl
theorem isEmpty_of_ne {s : ByteArray} (h : s ≠ ⟨#[]⟩) : s.toList.isEmpty = false := by
  rw [ByteArray.toList_eq]
  cases hl : s.data.toList with
  | nil =>
    have h1 : s.size = 0 := by rw [size_eq, hl]; rfl
    exact absurd ((size_zero_iff s).1 h1) h
  | cons => rfl
/-- What is known of a row that came in: its texts have lengths that Go gives. -/
def Sized (l : Row) : Prop := ∀ c ∈ l, c.2.2.size ≤ 140737488355328
theorem Sized.at {l : Row} (h : Sized l) {k : Nat} (hk : k < l.length) : (l[k]!).2.2.size ≤ 140737488355328 := by
  rw [List.getElem!_eq_getElem?_getD, List.getElem?_eq_getElem hk]
  exact h _ (List.getElem_mem hk)

end Go.Proofs.YtafincmcmgedbaaGreatDoor

namespace Go.Proofs.YtafincmcmgedbaaGreatDoor
open Go.RowKit Go.Lib

abbrev IRow : Type := List Int
def cellsZ (l : IRow) : List Value := l.map (Value.int .i64 ·)

theorem infoInt : (Tryz.prog.info? 3).map (fun i => (i.zero, i.size, i.bytes)) = some (some (.int .i64 0), 1, 8) := by kernel_rfl

theorem cellsZ_length (l : IRow) : (cellsZ l).length = l.length := by unfold cellsZ; rw [List.length_map]
theorem cellsZ_append (l m : IRow) : cellsZ (l ++ m) = cellsZ l ++ cellsZ m := by unfold cellsZ; rw [List.map_append]
theorem cellsZ_at (l : IRow) (j : Nat) (h : j < l.length) : (cellsZ l)[j]? = some (.int .i64 l[j]!) := by
  unfold cellsZ
  rw [List.getElem?_map, List.getElem!_eq_getElem?_getD, List.getElem?_eq_getElem h]
  rfl
theorem cellsZ_one (l : IRow) : ∀ u ∈ cellsZ l, u.oneCell' = true := by
  intro u hu
  unfold cellsZ at hu
  obtain ⟨a, _, rfl⟩ := List.mem_map.1 hu
  rfl

/-- The row lies in block b, from place o on. -/
def Ints (w : World) (b o : Nat) (l : IRow) : Prop := ∀ j, j < l.length → w.cell? ⟨b, o + j, none⟩ = some (.int .i64 l[j]!)

/-- The slice v reads as the row l. -/
def IntsAt (w : World) (v : Value) (l : IRow) : Prop :=
  (∃ a c, v = .slice a 0 c ∧ (a = none → c = 0) ∧ c ≤ maxLen ∧ l = []) ∨ ∃ b o c, v = .slice (some ⟨b, o, none⟩) l.length c ∧ l.length ≤ c ∧ c ≤ maxLen ∧ b < w.heap.size ∧ Ints w b o l

theorem Ints.below {w w' : World} {b o : Nat} {l : IRow} (h : Ints w b o l) (hb : b < w.heap.size) (hw : Below w.heap.size w w') : Ints w' b o l := fun j hj =>
  (hw.cell (p := ⟨b, o + j, none⟩) hb).trans (h j hj)
theorem IntsAt.below {w w' : World} {v : Value} {l : IRow} (h : IntsAt w v l) (hw : Below w.heap.size w w') : IntsAt w' v l := by
  rcases h with h | ⟨b, o, c, h1, h2, h3, h4, h5⟩
  · exact .inl h
  · exact .inr ⟨b, o, c, h1, h2, h3, Nat.lt_of_lt_of_le h4 hw.size, h5.below h4 hw⟩
theorem Ints.flat {w : World} {b o : Nat} {l : IRow} (h : Ints w b o l) : ∀ j u, (cellsZ l)[j]? = some u → w.cell? ⟨b, o + j, none⟩ = some u := by
  intro j u hu
  have hj : j < l.length := by rw [← cellsZ_length]; exact (List.getElem?_eq_some_iff.1 hu).1
  rw [h j hj, ← cellsZ_at l j hj, hu]
theorem Ints.of_flat {w : World} {b o : Nat} {l : IRow} (h : ∀ j u, (cellsZ l)[j]? = some u → w.cell? ⟨b, o + j, none⟩ = some u) : Ints w b o l := fun j hj => h _ _ (cellsZ_at l j hj)
theorem Ints.addF {w : World} {b o : Nat} {l : IRow} (h : Ints w b o l) : ∀ j u, (cellsZ l)[j]? = some u → w.cell? ((⟨b, o, none⟩ : Addr).add j) = some u := by
  intro j u hu
  rw [Addr.add_lit]
  exact h.flat j u hu
theorem Ints.enc {w : World} {b o : Nat} {l : IRow} (h : Ints w b o l) : ∀ j, j < l.length → ∀ i v, ([Value.int .i64 l[j]!])[i]? = some v → w.cell? ⟨b, o + j * 1 + i, none⟩ = some v := by
  intro j hj i v hi
  match i, hi with
  | 0, hi => simp only [List.getElem?_cons_zero, Option.some.injEq] at hi; rw [← hi, Nat.mul_one, Nat.add_zero]; exact h j hj
  | i + 1, hi => simp at hi
/-- A part of it. -/
theorem Ints.part {w : World} {b o : Nat} {l : IRow} (h : Ints w b o l) (f n : Nat) (hn : f + n ≤ l.length) : Ints w b (o + f) ((l.drop f).take n) := fun j hj => by
  have hl : ((l.drop f).take n).length = n := by simp; omega
  have e : ((l.drop f).take n)[j]! = l[f + j]! := by
    rw [List.getElem!_eq_getElem?_getD, List.getElem!_eq_getElem?_getD, List.getElem?_take_of_lt (by omega), List.getElem?_drop]
  have e2 : o + f + j = o + (f + j) := by omega
  rw [e, e2]
  exact h (f + j) (by omega)

/-- What is owned is read so. -/
theorem intsAt_of_own {w : World} {B : Nat} {v : Value} {l : IRow} (h : w.ownsRow B 3 1 v l.length (cellsZ l)) : IntsAt w v l := by
  have h0 := h
  obtain ⟨_, ⟨rfl, hn⟩ | ⟨g, cap, cur, rfl, _, hg, hnc, hcm, _, _⟩⟩ := h
  · exact .inl ⟨none, 0, rfl, fun _ => rfl, by decide, List.eq_nil_of_length_eq_zero hn⟩
  · refine .inr ⟨g, 0, cap, rfl, hnc, hcm, (Array.getElem?_eq_some_iff.1 hg).1, Ints.of_flat (fun j u hu => ?_)⟩
    have := h0.cells rfl j u hu
    rwa [Addr.add_lit] at this
theorem IntsAt.len {w : World} {v : Value} {l : IRow} (h : IntsAt w v l) : ∃ a c, v = .slice a l.length c := by
  rcases h with ⟨a, c, rfl, _, _, rfl⟩ | ⟨b, o, c, rfl, _⟩
  · exact ⟨a, c, rfl⟩
  · exact ⟨_, c, rfl⟩
theorem IntsAt.cap {w : World} {v : Value} {l : IRow} (h : IntsAt w v l) : ∃ a c, v = .slice a l.length c ∧ l.length ≤ c ∧ c ≤ maxLen := by
  rcases h with ⟨a, c, rfl, _, hc, rfl⟩ | ⟨b, o, c, rfl, h1, h2, _⟩
  · exact ⟨a, c, rfl, Nat.zero_le _, hc⟩
  · exact ⟨_, c, rfl, h1, h2⟩
theorem IntsAt.lies {w : World} {v : Value} {l : IRow} (h : IntsAt w v l) (hl : 0 < l.length) : ∃ b o c, v = .slice (some ⟨b, o, none⟩) l.length c ∧ l.length ≤ c ∧ c ≤ maxLen ∧ b < w.heap.size ∧ Ints w b o l := by
  rcases h with ⟨a, c, rfl, _, _, rfl⟩ | h
  · simp at hl
  · exact h
/-- A row of its own. -/
def OwnPostZ (l : IRow) (w : World) (e : Ending) (w' : World) : Prop := ∃ v, e = .returned v ∧ w'.ownsRow w.heap.size 3 1 v l.length (cellsZ l) ∧ Below w.heap.size w w'

/-- A line: its quote, its lists, its kind, its cells. -/
structure Ln where
  q : Int
  ls : IRow
  k : Int
  cs : Row
def ln0 : Ln := ⟨0, [], 0, []⟩

end Go.Proofs.YtafincmcmgedbaaGreatDoor

namespace Go.Proofs.YtafincmcmgedbaaGreatDoor
open Go.RowKit Go.Lib

def mayZ (c : Int) : Bool := decide (32 ≤ c ∧ c ≠ 127 ∧ ¬ (55296 ≤ c ∧ c ≤ 57343) ∧ c ≤ 1114111)
/-- What a class says of whether a character may be. -/
def ClassPost (c : Int) (w : World) (e : Ending) (w' : World) : Prop := ∃ n : Int, e = .returned (.int .i64 n) ∧ decide (2 ≤ n) = mayZ c ∧ w = w'

set_option maxHeartbeats 4000000 in
theorem class_any (c : Int) (w : World) : Calls Tryz.prog 138 #[.int .i32 c] w (ClassPost c w) := by
  go_enter Tryz.func138, Tryz.ntmps138
  go_wp2
  all_goals go_ret
  all_goals (refine ⟨_, rfl, ?_, rfl⟩; unfold mayZ; rw [decide_eq_decide]; first | done | omega | (simp_all; done) | (simp_all; omega))

set_option maxHeartbeats 4000000 in
theorem rclass_any (c : Int) (w : World) : Calls Tryz.prog 126 #[.int .i32 c] w (ClassPost c w) := by
  go_enter Tryz.func126, Tryz.ntmps126
  go_wp2
  all_goals go_ret
  all_goals (refine ⟨_, rfl, ?_, rfl⟩; unfold mayZ; rw [decide_eq_decide]; first | done | omega | (simp_all; done) | (simp_all; omega))

theorem may_any (c : Int) (w : World) : Calls Tryz.prog 132 #[.int .i32 c] w fun e w' => e = .returned (.bool (mayZ c)) ∧ w = w' := by
  obtain ⟨M, hM⟩ : ∃ M, mayZ c = M := ⟨_, rfl⟩
  have hc := class_any c
  unfold ClassPost at hc
  rw [hM] at hc ⊢
  clear hM
  go_enter Tryz.func132, Tryz.ntmps132
  go_wp2_with (go_at_call 138; ((with_reducible refine (hc _).mono ?_); rintro e w1 ⟨n, rfl, rfl, rfl⟩))
  go_ret
  exact ⟨rfl, rfl⟩

theorem rmay_any (c : Int) (w : World) : Calls Tryz.prog 100 #[.int .i32 c] w fun e w' => e = .returned (.bool (mayZ c)) ∧ w = w' := by
  obtain ⟨M, hM⟩ : ∃ M, mayZ c = M := ⟨_, rfl⟩
  have hc := rclass_any c
  unfold ClassPost at hc
  rw [hM] at hc ⊢
  clear hM
  go_enter Tryz.func100, Tryz.ntmps100
  go_wp2_with (go_at_call 126; ((with_reducible refine (hc _).mono ?_); rintro e w1 ⟨n, rfl, rfl, rfl⟩))
  go_ret
  exact ⟨rfl, rfl⟩

end Go.Proofs.YtafincmcmgedbaaGreatDoor
