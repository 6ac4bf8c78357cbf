/-
  Rows of attributes: in memory, read where they lie; owned.
  A tree of one's own: its nodes' kids are rows of one's own, each in a block of its own. A node turns.
  join, at any place.
-/
import Derived.Test.YtggjoefhopoggaaDoorCDelZ
import Derived.Laws.OwnMore
import Derived.Lib.SmallJoins

namespace Go.Proofs.YtggjoefhopoggaaDoor
open Go.RowKit Go.Lib

/-- An attribute: its name, its value. -/
abbrev At : Type := ByteArray × ByteArray
abbrev Row : Type := List At

theorem infoAttr : (Tryd.prog.info? 116).map (fun i => (i.zero, i.size, i.bytes)) = some (some (.agg #[.string ⟨#[]⟩, .string ⟨#[]⟩]), 2, 32) := by kernel_rfl

/-- An attribute's cells. -/
def encA (a : At) : List Value := [.string a.1, .string a.2]
def cellsR (l : Row) : List Value := l.flatMap encA

theorem cellsR_length : ∀ l : Row, (cellsR l).length = l.length * 2
  | [] => rfl
  | a :: l => by
    have := cellsR_length l
    show (encA a ++ cellsR l).length = _
    rw [List.length_append, this]
    simp [encA]; omega
theorem cellsR_append (l m : Row) : cellsR (l ++ m) = cellsR l ++ cellsR m := by unfold cellsR; rw [List.flatMap_append]
theorem cellsR_at : ∀ (l : Row) (j : Nat), j < l.length → (cellsR l)[j * 2]? = some (.string (l[j]!).1) ∧ (cellsR l)[j * 2 + 1]? = some (.string (l[j]!).2)
  | [], j, h => by simp at h
  | a :: l, 0, _ => ⟨rfl, rfl⟩
  | a :: l, j + 1, h => by
    have ih := cellsR_at l j (by simpa using h)
    have e : cellsR (a :: l) = .string a.1 :: .string a.2 :: cellsR l := rfl
    have e1 : (j + 1) * 2 = j * 2 + 1 + 1 := by omega
    rw [e, e1]
    simpa using ih
theorem cellsR_one (l : Row) : ∀ u ∈ cellsR l, u.oneCell' = true := by
  intro u hu
  unfold cellsR at hu
  rw [List.mem_flatMap] at hu
  obtain ⟨a, _, ha⟩ := hu
  simp only [encA, List.mem_cons, List.not_mem_nil, or_false] at ha
  rcases ha with rfl | rfl <;> rfl

/-- The row lies in block b, from place o on. -/
def Cells (w : World) (b o : Nat) (l : Row) : Prop := ∀ j, j < l.length → w.cell? ⟨b, o + j * 2, none⟩ = some (.string (l[j]!).1) ∧ w.cell? ⟨b, o + j * 2 + 1, none⟩ = some (.string (l[j]!).2)

/-- The slice v reads as the row l. -/
def RowAt (w : World) (v : Value) (l : Row) : Prop :=
  (∃ a c, v = .slice a 0 c ∧ (a = none → c = 0) ∧ l = []) ∨ ∃ b o c, v = .slice (some ⟨b, o, none⟩) l.length c ∧ l.length ≤ c ∧ c ≤ maxLen ∧ b < w.heap.size ∧ Cells w b o l

theorem Cells.below {w w' : World} {b o : Nat} {l : Row} (h : Cells w b o l) (hb : b < w.heap.size) (hw : Below w.heap.size w w') : Cells w' b o l := fun j hj =>
  ⟨(hw.cell (p := ⟨b, o + j * 2, none⟩) hb).trans (h j hj).1, (hw.cell (p := ⟨b, o + j * 2 + 1, none⟩) hb).trans (h j hj).2⟩
theorem RowAt.below {w w' : World} {v : Value} {l : Row} (h : RowAt w v l) (hw : Below w.heap.size w w') : RowAt w' v l := by
  rcases h with h | ⟨b, o, c, h1, h2, h3, h4, h5⟩
  · exact .inl h
  · exact .inr ⟨b, o, c, h1, h2, h3, Nat.lt_of_lt_of_le h4 hw.size, h5.below h4 hw⟩
theorem Cells.enc {w : World} {b o : Nat} {l : Row} (h : Cells w b o l) : ∀ j, j < l.length → ∀ i v, (encA l[j]!)[i]? = some v → w.cell? ⟨b, o + j * 2 + i, none⟩ = some v := by
  intro j hj i v hi
  have h1 := h j hj
  match i, hi with
  | 0, hi => simp only [encA, List.getElem?_cons_zero, Option.some.injEq] at hi; rw [← hi]; exact h1.1
  | 1, hi => simp only [encA, List.getElem?_cons_succ, List.getElem?_cons_zero, Option.some.injEq] at hi; rw [← hi]; exact h1.2
  | i + 2, hi => simp [encA] at hi
theorem Cells.flat {w : World} {b o : Nat} {l : Row} (h : Cells w b o l) : ∀ j u, (cellsR l)[j]? = some u → w.cell? ⟨b, o + j, none⟩ = some u := by
  intro j u hu
  have hj : j < l.length * 2 := by rw [← cellsR_length]; exact (List.getElem?_eq_some_iff.1 hu).1
  obtain ⟨h1, h2⟩ := cellsR_at l (j / 2) (by omega)
  obtain ⟨h3, h4⟩ := h (j / 2) (by omega)
  rcases Nat.mod_two_eq_zero_or_one j with e | e
  · have e2 : j / 2 * 2 = j := by omega
    rw [e2] at h1 h3
    rw [h3, ← h1, hu]
  · have e2 : j / 2 * 2 + 1 = j := by omega
    have e3 : o + j / 2 * 2 + 1 = o + j := by omega
    rw [e2] at h2
    rw [e3] at h4
    rw [h4, ← h2, hu]
theorem Cells.of_flat {w : World} {b o : Nat} {l : Row} (h : ∀ j u, (cellsR l)[j]? = some u → w.cell? ⟨b, o + j, none⟩ = some u) : Cells w b o l := fun j hj =>
  ⟨h _ _ (cellsR_at l j hj).1, by have := h _ _ (cellsR_at l j hj).2; rwa [← Nat.add_assoc] at this⟩

/-- What is owned is read so. -/
theorem rowAt_of_own {w : World} {B : Nat} {v : Value} {l : Row} (h : w.ownsRow B 116 2 v l.length (cellsR l)) : RowAt w v l := by
  have h0 := h
  obtain ⟨_, ⟨rfl, hn⟩ | ⟨g, cap, cur, rfl, _, hg, hnc, hcm, _, _⟩⟩ := h
  · exact .inl ⟨none, 0, rfl, fun _ => rfl, List.eq_nil_of_length_eq_zero hn⟩
  · refine .inr ⟨g, 0, cap, rfl, hnc, hcm, (Array.getElem?_eq_some_iff.1 hg).1, Cells.of_flat (fun j u hu => ?_)⟩
    have := h0.cells rfl j u hu
    rwa [Addr.add_lit] at this

theorem ownsRow_below {w w' : World} {B e size : Nat} {v : Value} {n : Nat} {xs : List Value} (h : w.ownsRow B e size v n xs) (hb : Below w.heap.size w w') : w'.ownsRow B e size v n xs := by
  obtain ⟨h1, h2 | ⟨g, cap, cur, h2, h3, hg, h4⟩⟩ := h
  · exact ⟨h1, .inl h2⟩
  · exact ⟨h1, .inr ⟨g, cap, cur, h2, h3, (hb.block g (Array.getElem?_eq_some_iff.1 hg).1).trans hg, h4⟩⟩

theorem RowAt.len {w : World} {v : Value} {l : Row} (h : RowAt w v l) : ∃ a c, v = .slice a l.length c := by
  rcases h with ⟨a, c, rfl, _, rfl⟩ | ⟨b, o, c, rfl, _⟩
  · exact ⟨a, c, rfl⟩
  · exact ⟨_, c, rfl⟩

end Go.Proofs.YtggjoefhopoggaaDoor

namespace Go.Proofs.YtggjoefhopoggaaDoor
open Go.RowKit Go.Lib

def Nd.ks (x : Nd) : Value := .slice x.ka x.kids.length x.kc
def Nd.as (x : Nd) : Value := .slice x.aa x.an x.ac
structure Full (B : Nat) (w : World) (p nb : Nat) (deep : Int) (l : List (Option Nd)) : Prop where
  t : TreeAt w p nb deep l
  pn : p ≠ nb
  ln : nb < w.heap.size
  bp : B ≤ p
  bn : B ≤ nb
  ab : ∀ (i : Nat) (x : Nd), l[i]? = some (some x) → B ≤ x.ab ∧ x.ab ≠ p ∧ x.ab ≠ nb
  aa : ∀ (i j : Nat) (x y : Nd), l[i]? = some (some x) → l[j]? = some (some y) → i ≠ j → x.ab ≠ y.ab
  own : ∀ (i : Nat) (x : Nd), l[i]? = some (some x) → w.ownsRow B 3 1 x.ks x.kids.length (cellsZ x.kids)
  kb : ∀ (i : Nat) (x : Nd) (b : Nat), l[i]? = some (some x) → x.ks.ownBlock = some b → b ≠ p ∧ b ≠ nb ∧ ∀ (j : Nat) (y : Nd), l[j]? = some (some y) → b ≠ y.ab ∧ (i ≠ j → y.ks.ownBlock ≠ some b)
  ra : ∀ (i : Nat) (x : Nd), l[i]? = some (some x) → w.ownsRow B 116 2 x.as x.ats.length (cellsR x.ats)
  rb : ∀ (i : Nat) (x : Nd) (b : Nat), l[i]? = some (some x) → x.as.ownBlock = some b → b ≠ p ∧ b ≠ nb ∧ ∀ (j : Nat) (y : Nd), l[j]? = some (some y) → b ≠ y.ab ∧ y.ks.ownBlock ≠ some b
theorem ks_block {x : Nd} {b o : Nat} (e : x.ka = some ⟨b, o, none⟩) : x.ks.ownBlock = some b := by unfold Nd.ks; rw [e]; rfl
theorem Full.apart {B : Nat} {w : World} {p nb : Nat} {deep : Int} {l : List (Option Nd)} (h : Full B w p nb deep l) : Apart p nb l :=
  ⟨h.pn, fun i x hi => (h.ab i x hi).2, h.aa, fun i x b o hi e _ => by
    obtain ⟨h1, h2, h3⟩ := h.kb i x b hi (ks_block e)
    exact ⟨h1, h2, fun j y hj => (h3 j y hj).1⟩⟩
theorem Full.below {B : Nat} {w w' : World} {p nb : Nat} {deep : Int} {l : List (Option Nd)} (h : Full B w p nb deep l) (hb : Below w.heap.size w w') : Full B w' p nb deep l :=
  ⟨h.t.below h.ln hb, h.pn, Nat.lt_of_lt_of_le h.ln hb.size, h.bp, h.bn, h.ab, h.aa, fun i x hi => (h.own i x hi).kept (grown_below (r := none) hb) (by cases x.ks.ownBlock <;> simp), h.kb, fun i x hi => ownsRow_below (h.ra i x hi) hb, h.rb⟩

/-- What is not the node's, nor its kids', has not turned. -/
structure Turned (x : Nd) (a w : World) : Prop where
  size : a.heap.size ≤ w.heap.size
  block : ∀ b, b < a.heap.size → b ≠ x.ab → x.ks.ownBlock ≠ some b → w.heap[b]? = a.heap[b]?
theorem Turned.cell {x : Nd} {a w : World} (h : Turned x a w) {b : Nat} (hb : b < a.heap.size) (h1 : b ≠ x.ab) (h2 : x.ks.ownBlock ≠ some b) (j : Nat) : w.cell? ⟨b, j, none⟩ = a.cell? ⟨b, j, none⟩ := World.cell?_of_block (w := a) (h.block b hb h1 h2)
theorem NodeAt.turned {x y : Nd} {w w' : World} (h : NodeAt w y) (hb : Turned x w w') (h1 : y.ab ≠ x.ab) (h2 : x.ks.ownBlock ≠ some y.ab) (h3 : ∀ b, y.ks.ownBlock = some b → b ≠ x.ab ∧ x.ks.ownBlock ≠ some b) : NodeAt w' y := by
  have hl : y.ab < w.heap.size := lt_of_cell' h.c0
  have hc : ∀ j, w'.cell? ⟨y.ab, j, none⟩ = w.cell? ⟨y.ab, j, none⟩ := fun j => hb.cell hl h1 h2 j
  refine ⟨(hc 0).trans h.c0, (hc 1).trans h.c1, (hc 2).trans h.c2, (hc 3).trans h.c3, (hc 4).trans h.c4, (hc 5).trans h.c5, fun j => (World.frozen?_of_block (w := w) (hb.block y.ab hl h1 h2)).trans (h.f j), ?_, h.kl⟩
  rcases h.ks with hk | ⟨b, o, e, hk⟩
  · exact .inl hk
  · by_cases h0 : y.kids = []
    · exact .inl h0
    · obtain ⟨a1, a2⟩ := h3 b (ks_block e)
      exact .inr ⟨b, o, e, fun j hj => (hb.cell (ka_lt h e h0) a1 a2 (o + j)).trans (hk j hj)⟩
theorem Full.turnA {B : Nat} {w w' : World} {p nb : Nat} {deep : Int} {l : List (Option Nd)} (h : Full B w p nb deep l) {i : Nat} {x : Nd} (hi : l[i]? = some (some x)) (x' : Nd) (e : x'.ab = x.ab) (hb : Turned x w w') (hx : NodeAt w' x')
    (own : w'.ownsRow B 3 1 x'.ks x'.kids.length (cellsZ x'.kids)) (hk : x'.ks.ownBlock = x.ks.ownBlock ∨ ∀ b, x'.ks.ownBlock = some b → w.heap.size ≤ b)
    (ra' : w'.ownsRow B 116 2 x'.as x'.ats.length (cellsR x'.ats)) (ha : x'.as.ownBlock = x.as.ownBlock ∨ ((∀ b, x'.as.ownBlock = some b → w.heap.size ≤ b) ∧ x'.ks.ownBlock = x.ks.ownBlock)) : Full B w' p nb deep (l.set i (some x')) := by
  have hpl : p < w.heap.size := lt_of_cell' h.t.c0
  obtain ⟨n0, n1, n2⟩ := h.ab i x hi
  have kp : x.ks.ownBlock ≠ some p := fun e => (h.kb i x p hi e).1 rfl
  have kn : x.ks.ownBlock ≠ some nb := fun e => (h.kb i x nb hi e).2.1 rfl
  have hl : ∀ (j : Nat) (y : Nd), (l.set i (some x'))[j]? = some (some y) → (j = i ∧ y = x') ∨ (j ≠ i ∧ l[j]? = some (some y)) := fun j y hj => by
    rw [List.getElem?_set] at hj
    split at hj
    · rename_i e
      split at hj
      · exact .inl ⟨e.symm, by simpa using hj.symm⟩
      · cases hj
    · rename_i e
      exact .inr ⟨fun e2 => e e2.symm, hj⟩
  have hn : ∀ (j : Nat) (y : Nd), (l.set i (some x'))[j]? = some (some y) → ∃ z, l[j]? = some (some z) ∧ y.ab = z.ab := fun j y hj => by
    rcases hl j y hj with ⟨rfl, rfl⟩ | ⟨_, h1⟩
    · exact ⟨x, hi, e⟩
    · exact ⟨y, h1, rfl⟩
  have hlt : ∀ (j : Nat) (y : Nd), l[j]? = some (some y) → y.ab < w.heap.size := fun j y hj => lt_of_cell' (h.t.yes j y hj).2.c0
  have hother : ∀ (j : Nat) (y : Nd), l[j]? = some (some y) → j ≠ i → y.ab ≠ x.ab ∧ x.ks.ownBlock ≠ some y.ab ∧ ∀ b, y.ks.ownBlock = some b → b ≠ x.ab ∧ x.ks.ownBlock ≠ some b := fun j y hj hji =>
    ⟨h.aa j i y x hj hi hji, fun e => ((h.kb i x y.ab hi e).2.2 j y hj).1 rfl, fun b e => by
      obtain ⟨a1, a2⟩ := (h.kb j y b hj e).2.2 i x hi
      exact ⟨a1, a2 hji⟩⟩
  have ht : TreeAt w' p nb deep (l.set i (some x')) := by
    refine ⟨(hb.cell hpl (fun e => n1 e.symm) kp 0).trans h.t.c0, ?_, (hb.cell hpl (fun e => n1 e.symm) kp 2).trans h.t.c2, by rw [List.length_set]; exact h.t.le, fun j hj => ?_, fun j y hj => ?_, fun j => (World.frozen?_of_block (w := w) (hb.block nb h.ln (fun e => n2 e.symm) kn)).trans (h.t.f j)⟩
    · rw [List.length_set]; exact (hb.cell hpl (fun e => n1 e.symm) kp 1).trans h.t.c1
    · have hj2 : l[j]? = some none := by
        rw [List.getElem?_set] at hj
        split at hj
        · split at hj <;> cases hj
        · exact hj
      exact (hb.cell h.ln (fun e => n2 e.symm) kn j).trans (h.t.no j hj2)
    · rw [hb.cell h.ln (fun e => n2 e.symm) kn j]
      rcases hl j y hj with ⟨rfl, rfl⟩ | ⟨hji, h1⟩
      · exact ⟨by rw [e]; exact (h.t.yes _ _ hi).1, hx⟩
      · obtain ⟨y1, y2⟩ := h.t.yes j y h1
        obtain ⟨b1, b2, b3⟩ := hother j y h1 hji
        exact ⟨y1, y2.turned hb b1 b2 b3⟩
  refine ⟨ht, h.pn, Nat.lt_of_lt_of_le h.ln hb.size, h.bp, h.bn, fun j y hj => ?_, fun j k y z hj hk2 hne => ?_, fun j y hj => ?_, fun j y b hj eb => ?_, fun j y hj => ?_, fun j y b hj eb => ?_⟩
  · obtain ⟨z, h1, h2⟩ := hn j y hj
    rw [h2]; exact h.ab j z h1
  · obtain ⟨y2, h1, h2⟩ := hn j y hj
    obtain ⟨z2, h3, h4⟩ := hn k z hk2
    rw [h2, h4]; exact h.aa j k y2 z2 h1 h3 hne
  · rcases hl j y hj with ⟨rfl, rfl⟩ | ⟨hji, h1⟩
    · exact own
    · obtain ⟨_, _, b3⟩ := hother j y h1 hji
      have ho := h.own j y h1
      refine ⟨ho.1, ?_⟩
      rcases ho.2 with h2 | ⟨g, cap, cur, h0, hB, hg, h3⟩
      · exact .inl h2
      · have hgb : y.ks.ownBlock = some g := by rw [h0]; rfl
        obtain ⟨a1, a2⟩ := b3 g hgb
        exact .inr ⟨g, cap, cur, h0, hB, (hb.block g (Array.getElem?_eq_some_iff.1 hg).1 a1 a2).trans hg, h3⟩
  · have hold : ∀ (j : Nat) (y : Nd), l[j]? = some (some y) → ∀ b, y.ks.ownBlock = some b → b < w.heap.size := fun j y hj b e => ((h.own j y hj).lt b e).2
    rcases hl j y hj with ⟨rfl, rfl⟩ | ⟨hji, h1⟩
    · rcases hk with hk | hk
      · rw [hk] at eb
        obtain ⟨a1, a2, a3⟩ := h.kb _ x b hi eb
        refine ⟨a1, a2, fun m z hm => ?_⟩
        obtain ⟨z2, h3, h4⟩ := hn m z hm
        refine ⟨by rw [h4]; exact (a3 m z2 h3).1, fun hjm => ?_⟩
        rcases hl m z hm with ⟨rfl, rfl⟩ | ⟨_, h5⟩
        · exact absurd rfl hjm
        · exact (a3 m z h5).2 hjm
      · have hge := hk b eb
        refine ⟨by omega, by have := h.ln; omega, fun m z hm => ?_⟩
        obtain ⟨z2, h3, h4⟩ := hn m z hm
        have h6 := hlt m z2 h3
        refine ⟨by omega, fun hjm e2 => ?_⟩
        rcases hl m z hm with ⟨rfl, rfl⟩ | ⟨_, h5⟩
        · exact absurd rfl hjm
        · have := hold m z h5 b e2
          omega
    · obtain ⟨a1, a2, a3⟩ := h.kb j y b h1 eb
      refine ⟨a1, a2, fun m z hm => ?_⟩
      obtain ⟨z2, h3, h4⟩ := hn m z hm
      refine ⟨by rw [h4]; exact (a3 m z2 h3).1, fun hjm e2 => ?_⟩
      rcases hl m z hm with ⟨rfl, rfl⟩ | ⟨_, h5⟩
      · rcases hk with hk | hk
        · rw [hk] at e2
          exact (a3 _ x hi).2 hjm e2
        · have h6 := hk b e2
          have h7 := hold j y h1 b eb
          omega
      · exact (a3 m z h5).2 hjm e2
  · rcases hl j y hj with ⟨rfl, rfl⟩ | ⟨hji, h1⟩
    · exact ra'
    · have ho := h.ra j y h1
      refine ⟨ho.1, ?_⟩
      rcases ho.2 with h2 | ⟨g, cap, cur, h0, hB, hg, h3⟩
      · exact .inl h2
      · have hgb : y.as.ownBlock = some g := by rw [h0]; rfl
        obtain ⟨a1, a2⟩ := (h.rb j y g h1 hgb).2.2 i x hi
        exact .inr ⟨g, cap, cur, h0, hB, (hb.block g (Array.getElem?_eq_some_iff.1 hg).1 a1 a2).trans hg, h3⟩
  · have hold : ∀ (j : Nat) (y : Nd), l[j]? = some (some y) → ∀ b, y.ks.ownBlock = some b → b < w.heap.size := fun j y hj b e => ((h.own j y hj).lt b e).2
    have holdA : ∀ (j : Nat) (y : Nd), l[j]? = some (some y) → ∀ b, y.as.ownBlock = some b → b < w.heap.size := fun j y hj b e => ((h.ra j y hj).lt b e).2
    have old : ∀ (j : Nat) (y : Nd), l[j]? = some (some y) → y.as.ownBlock = some b → b ≠ p ∧ b ≠ nb ∧ ∀ (m : Nat) (z : Nd), (l.set i (some x'))[m]? = some (some z) → b ≠ z.ab ∧ z.ks.ownBlock ≠ some b := fun j y hj eb => by
      obtain ⟨a1, a2, a3⟩ := h.rb j y b hj eb
      refine ⟨a1, a2, fun m z hm => ?_⟩
      obtain ⟨z2, h3, h4⟩ := hn m z hm
      have h7 := holdA j y hj b eb
      refine ⟨by rw [h4]; exact (a3 m z2 h3).1, fun e2 => ?_⟩
      rcases hl m z hm with ⟨rfl, rfl⟩ | ⟨_, h5⟩
      · rcases hk with hk | hk
        · rw [hk] at e2
          exact (a3 _ x hi).2 e2
        · have h6 := hk b e2
          omega
      · exact (a3 m z h5).2 e2
    rcases hl j y hj with ⟨rfl, rfl⟩ | ⟨_, h1⟩
    · rcases ha with ha | ⟨ha, hks⟩
      · rw [ha] at eb
        exact old _ x hi eb
      · have hge := ha b eb
        refine ⟨by omega, by have := h.ln; omega, fun m z hm => ?_⟩
        obtain ⟨z2, h3, h4⟩ := hn m z hm
        have h6 := hlt m z2 h3
        refine ⟨by omega, fun e2 => ?_⟩
        rcases hl m z hm with ⟨rfl, rfl⟩ | ⟨_, h5⟩
        · rw [hks] at e2
          have := hold _ x hi b e2
          omega
        · have := hold m z h5 b e2
          omega
    · exact old j y h1 eb
/-- The same, of what leaves its attributes alone. -/
theorem Full.turn {B : Nat} {w w' : World} {p nb : Nat} {deep : Int} {l : List (Option Nd)} (h : Full B w p nb deep l) {i : Nat} {x : Nd} (hi : l[i]? = some (some x)) (x' : Nd) (e : x'.ab = x.ab) (hb : Turned x w w') (hx : NodeAt w' x')
    (own : w'.ownsRow B 3 1 x'.ks x'.kids.length (cellsZ x'.kids)) (hk : x'.ks.ownBlock = x.ks.ownBlock ∨ ∀ b, x'.ks.ownBlock = some b → w.heap.size ≤ b) (ha : x'.aa = x.aa ∧ x'.an = x.an ∧ x'.ac = x.ac ∧ x'.ats = x.ats := by exact ⟨rfl, rfl, rfl, rfl⟩) : Full B w' p nb deep (l.set i (some x')) := by
  obtain ⟨h1, h2, h3, h4⟩ := ha
  have e2 : x'.as = x.as := by unfold Nd.as; rw [h1, h2, h3]
  refine h.turnA hi x' e hb hx own hk ?_ (.inl (by rw [e2]))
  rw [e2, h4]
  have ho := h.ra i x hi
  refine ⟨ho.1, ?_⟩
  rcases ho.2 with h2 | ⟨g, cap, cur, h0, hB, hg, h3⟩
  · exact .inl h2
  · have hgb : x.as.ownBlock = some g := by rw [h0]; rfl
    obtain ⟨a1, a2⟩ := (h.rb i x g hi hgb).2.2 i x hi
    exact .inr ⟨g, cap, cur, h0, hB, (hb.block g (Array.getElem?_eq_some_iff.1 hg).1 a1 a2).trans hg, h3⟩

end Go.Proofs.YtggjoefhopoggaaDoor

namespace Go.Proofs.YtggjoefhopoggaaDoor
open Go.RowKit Go.Lib

theorem own_kids {w : World} {B : Nat} {v : Value} {K : List Int} (h : w.ownsRow B 3 1 v K.length (cellsZ K)) : ∃ ka kc, v = .slice ka K.length kc ∧ KidsAt w ka K := by
  rcases h.2 with ⟨e, h0⟩ | ⟨g, cap, cur, rfl, _, hg, _, _, _, ht⟩
  · exact ⟨none, 0, by rw [e, h0], .inl (List.eq_nil_of_length_eq_zero h0)⟩
  · refine ⟨_, cap, rfl, .inr ⟨g, 0, rfl, fun j hj => ?_⟩⟩
    have h2 := cellsZ_at hj
    rw [← ht, List.getElem?_take, if_pos (by omega), Array.getElem?_toList] at h2
    rw [Nat.zero_add]
    simp only [World.cell?, hg]
    simpa using h2
theorem grown_set (w : World) (b j : Nat) (u : Value) : w.grownBy (w.setCell ⟨b, j, none⟩ u) (some b) :=
  ⟨rfl, rfl, rfl, by simp [World.setCell], fun k _ hn => Below.heap_setCell w ⟨b, j, none⟩ u k (fun e => hn (by rw [e]))⟩
/-- A kid has come in. -/
def joinedZ (l : List (Option Nd)) (i : Nat) (x : Nd) (at_ j : Nat) (y : Nd) (ka : Option Addr) (kc : Nat) : List (Option Nd) := (l.set i (some { x with ka := ka, kc := kc, kids := insZ x.kids at_ j })).set j (some { y with up := i })
set_option maxRecDepth 20000 in
set_option maxHeartbeats 4000000 in
theorem join_any (B : Nat) (w : World) (p nb : Nat) (deep : Int) (l : List (Option Nd)) (h : Full B w p nb deep l) (i at_ j : Nat) (x y : Nd) (hi : l[i]? = some (some x)) (hj : l[j]? = some (some y)) (hij : i ≠ j) (hat : at_ ≤ x.kids.length) (hlen : x.kids.length < 2000) :
    Calls Tryd.prog 69 #[.pointer (some ⟨p, 0, none⟩), .int .i64 i, .int .i64 at_, .int .i64 j] w fun e w' => e = .returned (.tuple #[]) ∧ Below B w w' ∧ ∃ ka kc, Full B w' p nb deep (joinedZ l i x at_ j y ka kc) := by
  have hpl : p < w.heap.size := lt_of_cell' h.t.c0
  have hsz : (w.alloc (.cells #[.int .i64 (j : Int)] 3)).heap.size = w.heap.size + 1 := by simp
  have hxo := h.own i x hi
  have cS := sins_any B (w.alloc (.cells #[.int .i64 (j : Int)] 3)) x.ks x.kids at_ w.heap.size j (hxo.alloc _) (by rw [hsz]; have := h.bn; have := h.ln; omega) hat (by omega) (heap_alloc_new w _) (fun e => by have := (hxo.lt _ e).2; omega)
  have hil : i < l.length := (List.getElem?_eq_some_iff.1 hi).1
  have hjl : j < l.length := (List.getElem?_eq_some_iff.1 hj).1
  obtain ⟨x0, x1, x2⟩ := h.ab i x hi
  obtain ⟨y0, y1, y2⟩ := h.ab j y hj
  have xy := h.aa i j x y hi hj hij
  have kp : x.ks.ownBlock ≠ some p := fun e => (h.kb i x p hi e).1 rfl
  have kn : x.ks.ownBlock ≠ some nb := fun e => (h.kb i x nb hi e).2.1 rfl
  have kx : x.ks.ownBlock ≠ some x.ab := fun e => ((h.kb i x x.ab hi e).2.2 i x hi).1 rfl
  have ky : x.ks.ownBlock ≠ some y.ab := fun e => ((h.kb i x y.ab hi e).2.2 j y hj).1 rfl
  have hxl : x.ab < w.heap.size := lt_of_cell' (h.t.yes i x hi).2.c0
  have hyl : y.ab < w.heap.size := lt_of_cell' (h.t.yes j y hj).2.c0
  obtain ⟨xc, xn⟩ := h.t.yes i x hi
  obtain ⟨yc, yn⟩ := h.t.yes j y hj
  have c1 := h.t.c1
  have c5 : w.cell? ⟨x.ab, 5, none⟩ = some x.ks := xn.c5
  have y4 := yn.c4
  have f5 := xn.f 5
  have f4 := yn.f 4
  have hle := h.t.le
  -- what stands behind Insert
  have KW : Hid (∀ w1, (w.alloc (.cells #[.int .i64 (j : Int)] 3)).grownBy w1 x.ks.ownBlock → ∀ b, b < w.heap.size → x.ks.ownBlock ≠ some b → w1.heap[b]? = w.heap[b]?) := Lib.hid (fun w1 hg b hb hn => (hg.block b (by rw [hsz]; omega) (fun e => hn e.symm)).trans (Below.heap_alloc w _ b hb))
  have HF := Lib.hid h
  have HI := Lib.hid hi
  have HJ := Lib.hid hj
  have HX := Lib.hid (And.intro x0 (And.intro x1 x2))
  have HY := Lib.hid (And.intro y0 (And.intro y1 y2))
  have HXY := Lib.hid xy
  have HK := Lib.hid (And.intro kp (And.intro kn (And.intro kx ky)))
  have HL := Lib.hid (And.intro hpl (And.intro h.ln (And.intro hxl hyl)))
  have HXN := Lib.hid xn
  have HLen : Hid ((insZ x.kids at_ j).length ≤ 2000 ∧ i ≠ j) := Lib.hid ⟨by unfold insZ; simp; omega, hij⟩
  have HYN := Lib.hid yn
  obtain ⟨n, hn⟩ : ∃ n, l.length = n := ⟨_, rfl⟩
  rw [hn] at hil hjl c1 hle
  have hiI : (i : Int) < (n : Int) := by omega
  have hjI : (j : Int) < (n : Int) := by omega
  obtain ⟨bx, hbx⟩ : ∃ b, x.ab = b := ⟨_, rfl⟩
  obtain ⟨by_, hby⟩ : ∃ b, y.ab = b := ⟨_, rfl⟩
  obtain ⟨kv, hkv⟩ : ∃ v, x.ks = v := ⟨_, rfl⟩
  rw [hbx] at xc c5 f5
  rw [hby] at yc y4 f4
  rw [hkv] at c5 cS
  have HBX := Lib.hid hbx
  have HBY := Lib.hid hby
  have HKV := Lib.hid hkv
  have hxyb : bx ≠ by_ := by rw [← hbx, ← hby]; exact xy
  have hxp : bx ≠ p := by rw [← hbx]; exact x1
  have hxn : bx ≠ nb := by rw [← hbx]; exact x2
  clear h hi hj hxo hbx hby hkv hn x0 x1 x2 y0 y1 y2 xy kp kn kx ky xn yn hxl hyl hpl hat hlen hij
  go_enter Tryd.func69, Tryd.ntmps69
  go_upto_region 1 with fail
  go_wp2_with (go_at_call 84; ((with_reducible refine (cS).mono ?_); rintro e w1 ⟨v', rfl, ownv, hgr, hbl⟩; obtain ⟨ka, kc, rfl, hkz⟩ := own_kids ownv; have KZ := Lib.hid hkz; have hW := KW.out w1 (by rw [HKV.out]; exact hgr); have d1 : w1.cell? ⟨p, 1, none⟩ = some (.slice (some ⟨nb, 0, none⟩) n n) := (World.cell?_of_block (w := w) (hW p HL.out.1 HK.out.1)).trans c1; have dx : w1.cell? ⟨bx, 5, none⟩ = some kv := (World.cell?_of_block (w := w) (hW bx (by have := HL.out.2.2.1; rw [HBX.out] at this; exact this) (by have := HK.out.2.2.1; rw [HBX.out] at this; exact this))).trans c5; have dy : w1.cell? ⟨nb, j, none⟩ = some (.pointer (some ⟨by_, 0, none⟩)) := (World.cell?_of_block (w := w) (hW nb HL.out.2.1 HK.out.2.1)).trans yc; have d4 : w1.cell? ⟨by_, 4, none⟩ = some (.int .i64 y.up) := (World.cell?_of_block (w := w) (hW by_ (by have := HL.out.2.2.2; rw [HBY.out] at this; exact this) (by have := HK.out.2.2.2; rw [HBY.out] at this; exact this))).trans y4; have g5 : w1.frozen? ⟨bx, 5, none⟩ = false := (World.frozen?_of_block (w := w) (hW bx (by have := HL.out.2.2.1; rw [HBX.out] at this; exact this) (by have := HK.out.2.2.1; rw [HBX.out] at this; exact this))).trans f5; have g4 : w1.frozen? ⟨by_, 4, none⟩ = false := (World.frozen?_of_block (w := w) (hW by_ (by have := HL.out.2.2.2; rw [HBY.out] at this; exact this) (by have := HK.out.2.2.2; rw [HBY.out] at this; exact this))).trans f4; have OV := Lib.hid ownv; have GR := Lib.hid hgr; have BL := Lib.hid hbl; have HWW := Lib.hid hW; clear ownv hgr hbl hW hkz))
  go_end0
  have ex := HBX.out
  have ey := HBY.out
  have ek := HKV.out
  subst ex
  subst ey
  have hW := HWW.out
  have hgs : w.heap.size + 1 ≤ w1.heap.size := by have := GR.out.size; rw [hsz] at this; exact this
  have hb1 : Below B w w1 := by
    have h0 := (Below.refl B w).alloc (by have := HF.out.bn; have := HF.out.ln; omega) (.cells #[.int .i64 (j : Int)] 3)
    exact h0.grown GR.out (by rw [hsz]; have := HF.out.bn; have := HF.out.ln; omega) (fun k e => by
      rw [← ek] at e
      exact ((HF.out.own i x HI.out).lt k e).1)
  have hvx : (Value.slice ka (insZ x.kids at_ j).length kc).ownBlock ≠ some x.ab := by
    rcases BL.out with e | e
    · rw [e, ← ek]; exact HK.out.2.2.1
    · rw [e, hsz]
      intro e2
      have := HL.out.2.2.1
      simp only [Option.some.injEq] at e2
      omega
  have hvy : (Value.slice ka (insZ x.kids at_ j).length kc).ownBlock ≠ some y.ab := by
    rcases BL.out with e | e
    · rw [e, ← ek]; exact HK.out.2.2.2
    · rw [e, hsz]
      intro e2
      have := HL.out.2.2.2
      simp only [Option.some.injEq] at e2
      omega
  refine ⟨rfl, ((hb1.setCell (p := ⟨x.ab, 5, none⟩) HX.out.1 _).setCell (p := ⟨y.ab, 4, none⟩) HY.out.1 _), ka, kc, ?_⟩
  have T1 : Turned x w w1 := ⟨by omega, fun b hb _ hn => hW b hb hn⟩
  have T2 : Turned x w (w1.setCell ⟨x.ab, 5, none⟩ (.slice ka (insZ x.kids at_ j).length kc)) :=
    ⟨by simpa [World.setCell] using T1.size, fun b hb hn hk => (Below.heap_setCell w1 ⟨x.ab, 5, none⟩ _ b hn).trans (T1.block b hb hn hk)⟩
  have hxw : ∀ k, w1.cell? ⟨x.ab, k, none⟩ = w.cell? ⟨x.ab, k, none⟩ := fun k => World.cell?_of_block (w := w) (hW x.ab HL.out.2.2.1 HK.out.2.2.1)
  have hc : ∀ k, k ≠ 5 → (w1.setCell ⟨x.ab, 5, none⟩ (.slice ka (insZ x.kids at_ j).length kc)).cell? ⟨x.ab, k, none⟩ = w.cell? ⟨x.ab, k, none⟩ := fun k hk => (World.cell?_setCell_other _ _ _ _ (fun e => hk (congrArg Addr.off e).symm)).trans (hxw k)
  have xn := HXN.out
  have NX : NodeAt (w1.setCell ⟨x.ab, 5, none⟩ (.slice ka (insZ x.kids at_ j).length kc)) { x with ka := ka, kc := kc, kids := insZ x.kids at_ j } := by
    refine ⟨(hc 0 (by decide)).trans xn.c0, (hc 1 (by decide)).trans xn.c1, (hc 2 (by decide)).trans xn.c2, (hc 3 (by decide)).trans xn.c3, (hc 4 (by decide)).trans xn.c4, World.cell?_setCell_same _ _ _ ((hxw 5).trans xn.c5), fun k => by rw [World.frozen?_setCell]; exact (World.frozen?_of_block (w := w) (hW x.ab HL.out.2.2.1 HK.out.2.2.1)).trans (xn.f k), ?_, HLen.out.1⟩
    rcases KZ.out with h0 | ⟨b, o, e, h0⟩
    · exact .inl h0
    · subst e
      exact .inr ⟨b, o, rfl, fun k hk => (World.cell?_setCell_far w1 ⟨x.ab, 5, none⟩ _ _ (fun e2 => hvx (by rw [show x.ab = b from e2]; rfl))).trans (h0 k hk)⟩
  have F2 := Full.turn HF.out HI.out { x with ka := ka, kc := kc, kids := insZ x.kids at_ j } rfl T2 NX (OV.out.kept (grown_set w1 x.ab 5 _) (.inr hvx)) (by
    rcases BL.out with e | e
    · exact .inl (e.trans (by rw [← ek]))
    · refine .inr (fun b e2 => ?_)
      have e3 : (Value.slice ka (insZ x.kids at_ j).length kc).ownBlock = some b := e2
      rw [e, hsz] at e3
      simp only [Option.some.injEq] at e3
      omega)
  have hj2 : (l.set i (some { x with ka := ka, kc := kc, kids := insZ x.kids at_ j }))[j]? = some (some y) := by
    rw [List.getElem?_set, if_neg HLen.out.2]; exact HJ.out
  have hyy : ∀ b, y.ks.ownBlock = some b → b ≠ y.ab := fun b e => ((HF.out.kb j y b HJ.out e).2.2 j y HJ.out).1
  have NY := (F2.t.yes j y hj2).2.setUp (fun b o e1 _ => hyy b (ks_block e1)) i
  exact Full.turn F2 hj2 { y with up := (i : Int) } rfl ⟨by simp [World.setCell], fun b _ hn _ => Below.heap_setCell _ ⟨y.ab, 4, none⟩ _ b hn⟩ NY ((F2.own j y hj2).kept (grown_set _ y.ab 4 _) (.inr (fun e => hyy _ e rfl))) (.inl rfl)


end Go.Proofs.YtggjoefhopoggaaDoor
