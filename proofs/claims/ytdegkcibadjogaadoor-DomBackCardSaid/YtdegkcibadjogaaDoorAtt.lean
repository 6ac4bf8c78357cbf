/-
  Rows of attributes: in memory, read where they lie; owned.
-/
import Derived.Test.YtdegkcibadjogaaDoorDelZ
import Derived.Laws.OwnMore
import Derived.Lib.SmallJoins
namespace Go.Proofs.YtdegkcibadjogaaDoor
open Go.RowKit Go.Lib

/-- An attribute: its name, its value. -/
abbrev At : Type := ByteArray × ByteArray
abbrev Row : Type := List At

theorem infoAttr : (Tryd.prog.info? 61).map (fun i => (i.zero, i.size, i.bytes)) = some (some (.agg #[.string ⟨#[]⟩, .string ⟨#[]⟩]), 2, 32) := by kernel_rfl

/-- An attribute's cells. -/
def encA (a : At) : List Value := [.string a.1, .string a.2]
def cellsR (l : Row) : List Value := l.flatMap encA

theorem cellsR_length : ∀ l : Row, (cellsR l).length = l.length * 2
  | [] => rfl
  | a :: l => by
    have := cellsR_length l
    show (encA a ++ cellsR l).length = _
    rw [List.length_append, this]
    simp [encA]; omega
theorem cellsR_append (l m : Row) : cellsR (l ++ m) = cellsR l ++ cellsR m := by unfold cellsR; rw [List.flatMap_append]
theorem cellsR_at : ∀ (l : Row) (j : Nat), j < l.length → (cellsR l)[j * 2]? = some (.string (l[j]!).1) ∧ (cellsR l)[j * 2 + 1]? = some (.string (l[j]!).2)
  | [], j, h => by simp at h
  | a :: l, 0, _ => ⟨rfl, rfl⟩
  | a :: l, j + 1, h => by
    have ih := cellsR_at l j (by simpa using h)
    have e : cellsR (a :: l) = .string a.1 :: .string a.2 :: cellsR l := rfl
    have e1 : (j + 1) * 2 = j * 2 + 1 + 1 := by omega
    rw [e, e1]
    simpa using ih
theorem cellsR_one (l : Row) : ∀ u ∈ cellsR l, u.oneCell' = true := by
  intro u hu
  unfold cellsR at hu
  rw [List.mem_flatMap] at hu
  obtain ⟨a, _, ha⟩ := hu
  simp only [encA, List.mem_cons, List.not_mem_nil, or_false] at ha
  rcases ha with rfl | rfl <;> rfl

/-- The row lies in block b, from place o on. -/
def Cells (w : World) (b o : Nat) (l : Row) : Prop := ∀ j, j < l.length → w.cell? ⟨b, o + j * 2, none⟩ = some (.string (l[j]!).1) ∧ w.cell? ⟨b, o + j * 2 + 1, none⟩ = some (.string (l[j]!).2)

/-- The slice v reads as the row l. -/
def RowAt (w : World) (v : Value) (l : Row) : Prop :=
  (∃ a c, v = .slice a 0 c ∧ (a = none → c = 0) ∧ l = []) ∨ ∃ b o c, v = .slice (some ⟨b, o, none⟩) l.length c ∧ l.length ≤ c ∧ c ≤ maxLen ∧ b < w.heap.size ∧ Cells w b o l

theorem Cells.below {w w' : World} {b o : Nat} {l : Row} (h : Cells w b o l) (hb : b < w.heap.size) (hw : Below w.heap.size w w') : Cells w' b o l := fun j hj =>
  ⟨(hw.cell (p := ⟨b, o + j * 2, none⟩) hb).trans (h j hj).1, (hw.cell (p := ⟨b, o + j * 2 + 1, none⟩) hb).trans (h j hj).2⟩
theorem RowAt.below {w w' : World} {v : Value} {l : Row} (h : RowAt w v l) (hw : Below w.heap.size w w') : RowAt w' v l := by
  rcases h with h | ⟨b, o, c, h1, h2, h3, h4, h5⟩
  · exact .inl h
  · exact .inr ⟨b, o, c, h1, h2, h3, Nat.lt_of_lt_of_le h4 hw.size, h5.below h4 hw⟩
theorem Cells.enc {w : World} {b o : Nat} {l : Row} (h : Cells w b o l) : ∀ j, j < l.length → ∀ i v, (encA l[j]!)[i]? = some v → w.cell? ⟨b, o + j * 2 + i, none⟩ = some v := by
  intro j hj i v hi
  have h1 := h j hj
  match i, hi with
  | 0, hi => simp only [encA, List.getElem?_cons_zero, Option.some.injEq] at hi; rw [← hi]; exact h1.1
  | 1, hi => simp only [encA, List.getElem?_cons_succ, List.getElem?_cons_zero, Option.some.injEq] at hi; rw [← hi]; exact h1.2
  | i + 2, hi => simp [encA] at hi
theorem Cells.flat {w : World} {b o : Nat} {l : Row} (h : Cells w b o l) : ∀ j u, (cellsR l)[j]? = some u → w.cell? ⟨b, o + j, none⟩ = some u := by
  intro j u hu
  have hj : j < l.length * 2 := by rw [← cellsR_length]; exact (List.getElem?_eq_some_iff.1 hu).1
  obtain ⟨h1, h2⟩ := cellsR_at l (j / 2) (by omega)
  obtain ⟨h3, h4⟩ := h (j / 2) (by omega)
  rcases Nat.mod_two_eq_zero_or_one j with e | e
  · have e2 : j / 2 * 2 = j := by omega
    rw [e2] at h1 h3
    rw [h3, ← h1, hu]
  · have e2 : j / 2 * 2 + 1 = j := by omega
    have e3 : o + j / 2 * 2 + 1 = o + j := by omega
    rw [e2] at h2
    rw [e3] at h4
    rw [h4, ← h2, hu]
theorem Cells.of_flat {w : World} {b o : Nat} {l : Row} (h : ∀ j u, (cellsR l)[j]? = some u → w.cell? ⟨b, o + j, none⟩ = some u) : Cells w b o l := fun j hj =>
  ⟨h _ _ (cellsR_at l j hj).1, by have := h _ _ (cellsR_at l j hj).2; rwa [← Nat.add_assoc] at this⟩

/-- What is owned is read so. -/
theorem rowAt_of_own {w : World} {B : Nat} {v : Value} {l : Row} (h : w.ownsRow B 61 2 v l.length (cellsR l)) : RowAt w v l := by
  have h0 := h
  obtain ⟨_, ⟨rfl, hn⟩ | ⟨g, cap, cur, rfl, _, hg, hnc, hcm, _, _⟩⟩ := h
  · exact .inl ⟨none, 0, rfl, fun _ => rfl, List.eq_nil_of_length_eq_zero hn⟩
  · refine .inr ⟨g, 0, cap, rfl, hnc, hcm, (Array.getElem?_eq_some_iff.1 hg).1, Cells.of_flat (fun j u hu => ?_)⟩
    have := h0.cells rfl j u hu
    rwa [Addr.add_lit] at this

theorem ownsRow_below {w w' : World} {B e size : Nat} {v : Value} {n : Nat} {xs : List Value} (h : w.ownsRow B e size v n xs) (hb : Below w.heap.size w w') : w'.ownsRow B e size v n xs := by
  obtain ⟨h1, h2 | ⟨g, cap, cur, h2, h3, hg, h4⟩⟩ := h
  · exact ⟨h1, .inl h2⟩
  · exact ⟨h1, .inr ⟨g, cap, cur, h2, h3, (hb.block g (Array.getElem?_eq_some_iff.1 hg).1).trans hg, h4⟩⟩

theorem RowAt.len {w : World} {v : Value} {l : Row} (h : RowAt w v l) : ∃ a c, v = .slice a l.length c := by
  rcases h with ⟨a, c, rfl, _, rfl⟩ | ⟨b, o, c, rfl, _⟩
  · exact ⟨a, c, rfl⟩
  · exact ⟨_, c, rfl⟩

end Go.Proofs.YtdegkcibadjogaaDoor
