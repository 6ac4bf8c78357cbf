/-
  Slices of ints: plain; in memory, read where they lie; owned. Lines: plain; as values.
-/
import Derived.Test.YtmlipcedkgfmiaaDoorRow
namespace Go.Proofs.YtmlipcedkgfmiaaDoor
open Go.RowKit Go.Lib

abbrev IRow : Type := List Int
def cellsZ (l : IRow) : List Value := l.map (Value.int .i64 ·)

theorem infoInt : (Tryd.prog.info? 3).map (fun i => (i.zero, i.size, i.bytes)) = some (some (.int .i64 0), 1, 8) := by kernel_rfl

theorem cellsZ_length (l : IRow) : (cellsZ l).length = l.length := by unfold cellsZ; rw [List.length_map]
theorem cellsZ_append (l m : IRow) : cellsZ (l ++ m) = cellsZ l ++ cellsZ m := by unfold cellsZ; rw [List.map_append]
theorem cellsZ_at (l : IRow) (j : Nat) (h : j < l.length) : (cellsZ l)[j]? = some (.int .i64 l[j]!) := by
  unfold cellsZ
  rw [List.getElem?_map, List.getElem!_eq_getElem?_getD, List.getElem?_eq_getElem h]
  rfl
theorem cellsZ_one (l : IRow) : ∀ u ∈ cellsZ l, u.oneCell' = true := by
  intro u hu
  unfold cellsZ at hu
  obtain ⟨a, _, rfl⟩ := List.mem_map.1 hu
  rfl

/-- The row lies in block b, from place o on. -/
def Ints (w : World) (b o : Nat) (l : IRow) : Prop := ∀ j, j < l.length → w.cell? ⟨b, o + j, none⟩ = some (.int .i64 l[j]!)

/-- The slice v reads as the row l. -/
def IntsAt (w : World) (v : Value) (l : IRow) : Prop :=
  (∃ a c, v = .slice a 0 c ∧ (a = none → c = 0) ∧ c ≤ maxLen ∧ l = []) ∨ ∃ b o c, v = .slice (some ⟨b, o, none⟩) l.length c ∧ l.length ≤ c ∧ c ≤ maxLen ∧ b < w.heap.size ∧ Ints w b o l

theorem Ints.below {w w' : World} {b o : Nat} {l : IRow} (h : Ints w b o l) (hb : b < w.heap.size) (hw : Below w.heap.size w w') : Ints w' b o l := fun j hj =>
  (hw.cell (p := ⟨b, o + j, none⟩) hb).trans (h j hj)
theorem IntsAt.below {w w' : World} {v : Value} {l : IRow} (h : IntsAt w v l) (hw : Below w.heap.size w w') : IntsAt w' v l := by
  rcases h with h | ⟨b, o, c, h1, h2, h3, h4, h5⟩
  · exact .inl h
  · exact .inr ⟨b, o, c, h1, h2, h3, Nat.lt_of_lt_of_le h4 hw.size, h5.below h4 hw⟩
theorem Ints.flat {w : World} {b o : Nat} {l : IRow} (h : Ints w b o l) : ∀ j u, (cellsZ l)[j]? = some u → w.cell? ⟨b, o + j, none⟩ = some u := by
  intro j u hu
  have hj : j < l.length := by rw [← cellsZ_length]; exact (List.getElem?_eq_some_iff.1 hu).1
  rw [h j hj, ← cellsZ_at l j hj, hu]
theorem Ints.of_flat {w : World} {b o : Nat} {l : IRow} (h : ∀ j u, (cellsZ l)[j]? = some u → w.cell? ⟨b, o + j, none⟩ = some u) : Ints w b o l := fun j hj => h _ _ (cellsZ_at l j hj)
theorem Ints.addF {w : World} {b o : Nat} {l : IRow} (h : Ints w b o l) : ∀ j u, (cellsZ l)[j]? = some u → w.cell? ((⟨b, o, none⟩ : Addr).add j) = some u := by
  intro j u hu
  rw [Addr.add_lit]
  exact h.flat j u hu
theorem Ints.enc {w : World} {b o : Nat} {l : IRow} (h : Ints w b o l) : ∀ j, j < l.length → ∀ i v, ([Value.int .i64 l[j]!])[i]? = some v → w.cell? ⟨b, o + j * 1 + i, none⟩ = some v := by
  intro j hj i v hi
  match i, hi with
  | 0, hi => simp only [List.getElem?_cons_zero, Option.some.injEq] at hi; rw [← hi, Nat.mul_one, Nat.add_zero]; exact h j hj
  | i + 1, hi => simp at hi
/-- A part of it. -/
theorem Ints.part {w : World} {b o : Nat} {l : IRow} (h : Ints w b o l) (f n : Nat) (hn : f + n ≤ l.length) : Ints w b (o + f) ((l.drop f).take n) := fun j hj => by
  have hl : ((l.drop f).take n).length = n := by simp; omega
  have e : ((l.drop f).take n)[j]! = l[f + j]! := by
    rw [List.getElem!_eq_getElem?_getD, List.getElem!_eq_getElem?_getD, List.getElem?_take_of_lt (by omega), List.getElem?_drop]
  have e2 : o + f + j = o + (f + j) := by omega
  rw [e, e2]
  exact h (f + j) (by omega)

/-- What is owned is read so. -/
theorem intsAt_of_own {w : World} {B : Nat} {v : Value} {l : IRow} (h : w.ownsRow B 3 1 v l.length (cellsZ l)) : IntsAt w v l := by
  have h0 := h
  obtain ⟨_, ⟨rfl, hn⟩ | ⟨g, cap, cur, rfl, _, hg, hnc, hcm, _, _⟩⟩ := h
  · exact .inl ⟨none, 0, rfl, fun _ => rfl, by decide, List.eq_nil_of_length_eq_zero hn⟩
  · refine .inr ⟨g, 0, cap, rfl, hnc, hcm, (Array.getElem?_eq_some_iff.1 hg).1, Ints.of_flat (fun j u hu => ?_)⟩
    have := h0.cells rfl j u hu
    rwa [Addr.add_lit] at this
theorem IntsAt.len {w : World} {v : Value} {l : IRow} (h : IntsAt w v l) : ∃ a c, v = .slice a l.length c := by
  rcases h with ⟨a, c, rfl, _, _, rfl⟩ | ⟨b, o, c, rfl, _⟩
  · exact ⟨a, c, rfl⟩
  · exact ⟨_, c, rfl⟩
theorem IntsAt.cap {w : World} {v : Value} {l : IRow} (h : IntsAt w v l) : ∃ a c, v = .slice a l.length c ∧ l.length ≤ c ∧ c ≤ maxLen := by
  rcases h with ⟨a, c, rfl, _, hc, rfl⟩ | ⟨b, o, c, rfl, h1, h2, _⟩
  · exact ⟨a, c, rfl, Nat.zero_le _, hc⟩
  · exact ⟨_, c, rfl, h1, h2⟩
theorem IntsAt.lies {w : World} {v : Value} {l : IRow} (h : IntsAt w v l) (hl : 0 < l.length) : ∃ b o c, v = .slice (some ⟨b, o, none⟩) l.length c ∧ l.length ≤ c ∧ c ≤ maxLen ∧ b < w.heap.size ∧ Ints w b o l := by
  rcases h with ⟨a, c, rfl, _, _, rfl⟩ | h
  · simp at hl
  · exact h
/-- A row of its own. -/
def OwnPostZ (l : IRow) (w : World) (e : Ending) (w' : World) : Prop := ∃ v, e = .returned v ∧ w'.ownsRow w.heap.size 3 1 v l.length (cellsZ l) ∧ Below w.heap.size w w'

/-- A line: its quote, its lists, its kind, its cells. -/
structure Ln where
  q : Int
  ls : IRow
  k : Int
  cs : Row
def ln0 : Ln := ⟨0, [], 0, []⟩

end Go.Proofs.YtmlipcedkgfmiaaDoor
