/-
  A tree of one's own is made, and grows: New, add.
-/
import Derived.Test.YtdegkcibadjogaaDoorJoin
namespace Go.Proofs.YtdegkcibadjogaaDoor
open Go.RowKit Go.Lib

theorem Full.put {B : Nat} {w w' : World} {p nb : Nat} {deep : Int} {l : List (Option Nd)} (h : Full B w p nb deep l) (k : Nat) (x : Nd) (hx : x.ka = none ∧ x.kc = 0 ∧ x.kids = []) (hb : But nb w w') (hge : w.heap.size ≤ x.ab)
    (ho : w.ownsRow B 61 2 x.as x.ats.length (cellsR x.ats)) (hs : ∀ b, x.as.ownBlock = some b → b ≠ p ∧ b ≠ nb ∧ ∀ (j : Nat) (y : Nd), l[j]? = some (some y) → b ≠ y.ab ∧ y.ks.ownBlock ≠ some b)
    (ht : TreeAt w' p nb deep (l.set k (some x))) : Full B w' p nb deep (l.set k (some x)) := by
  have hpl : p < w.heap.size := lt_of_cell' h.t.c0
  have hln := h.ln
  have hbn := h.bn
  have hks : x.ks = .slice none 0 0 := by unfold Nd.ks; rw [hx.1, hx.2.1, hx.2.2]; rfl
  have hlt : ∀ (j : Nat) (y : Nd), l[j]? = some (some y) → y.ab < w.heap.size := fun j y hj => lt_of_cell' (h.t.yes j y hj).2.c0
  have hold : ∀ (j : Nat) (y : Nd), l[j]? = some (some y) → ∀ b, y.ks.ownBlock = some b → b < w.heap.size := fun j y hj b e => ((h.own j y hj).lt b e).2
  have hl : ∀ (j : Nat) (y : Nd), (l.set k (some x))[j]? = some (some y) → (j = k ∧ y = x) ∨ (j ≠ k ∧ l[j]? = some (some y)) := fun j y hj => by
    rw [List.getElem?_set] at hj
    split at hj
    · rename_i e
      split at hj
      · exact .inl ⟨e.symm, by simpa using hj.symm⟩
      · cases hj
    · rename_i e
      exact .inr ⟨fun e2 => e e2.symm, hj⟩
  refine ⟨ht, h.pn, Nat.lt_of_lt_of_le h.ln hb.size, h.bp, h.bn, fun j y hj => ?_, fun j m y z hj hm hne => ?_, fun j y hj => ?_, fun j y b hj eb => ?_, fun j y hj => ?_, fun j y b hj eb => ?_⟩
  · rcases hl j y hj with ⟨_, rfl⟩ | ⟨_, h1⟩
    · exact ⟨by omega, by omega, by omega⟩
    · exact h.ab j y h1
  · rcases hl j y hj with ⟨j1, rfl⟩ | ⟨_, h1⟩ <;> rcases hl m z hm with ⟨m1, e⟩ | ⟨_, h2⟩
    · omega
    · have := hlt m z h2; omega
    · have := hlt j y h1; rw [e]; omega
    · exact h.aa j m y z h1 h2 hne
  · rcases hl j y hj with ⟨_, rfl⟩ | ⟨_, h1⟩
    · rw [hks, hx.2.2]
      exact ⟨rfl, .inl ⟨rfl, rfl⟩⟩
    · have ho := h.own j y h1
      refine ⟨ho.1, ?_⟩
      rcases ho.2 with h2 | ⟨g, cap, cur, h0, hB, hg, h3⟩
      · exact .inl h2
      · have hgb : y.ks.ownBlock = some g := by rw [h0]; rfl
        exact .inr ⟨g, cap, cur, h0, hB, (hb.block g (hold j y h1 g hgb) (h.kb j y g h1 hgb).2.1).trans hg, h3⟩
  · rcases hl j y hj with ⟨_, rfl⟩ | ⟨_, h1⟩
    · rw [hks] at eb; cases eb
    · obtain ⟨a1, a2, a3⟩ := h.kb j y b h1 eb
      refine ⟨a1, a2, fun m z hm => ?_⟩
      rcases hl m z hm with ⟨_, rfl⟩ | ⟨_, h2⟩
      · have := hold j y h1 b eb
        exact ⟨by omega, fun _ e => by rw [hks] at e; cases e⟩
      · exact a3 m z h2
  · have kept : ∀ y : Nd, w.ownsRow B 61 2 y.as y.ats.length (cellsR y.ats) → (∀ b, y.as.ownBlock = some b → b ≠ nb) → w'.ownsRow B 61 2 y.as y.ats.length (cellsR y.ats) := fun y ho hnb => by
      refine ⟨ho.1, ?_⟩
      rcases ho.2 with h2 | ⟨g, cap, cur, h0, hB, hg, h3⟩
      · exact .inl h2
      · exact .inr ⟨g, cap, cur, h0, hB, (hb.block g (Array.getElem?_eq_some_iff.1 hg).1 (hnb g (by rw [h0]; rfl))).trans hg, h3⟩
    rcases hl j y hj with ⟨_, rfl⟩ | ⟨_, h1⟩
    · exact kept _ ho (fun b e => (hs b e).2.1)
    · exact kept y (h.ra j y h1) (fun b e => (h.rb j y b h1 e).2.1)
  · rcases hl j y hj with ⟨_, rfl⟩ | ⟨_, h1⟩
    · obtain ⟨a1, a2, a3⟩ := hs b eb
      have hbl := (ho.lt b eb).2
      refine ⟨a1, a2, fun m z hm => ?_⟩
      rcases hl m z hm with ⟨_, rfl⟩ | ⟨_, h2⟩
      · exact ⟨by omega, fun e => by rw [hks] at e; cases e⟩
      · exact a3 m z h2
    · obtain ⟨a1, a2, a3⟩ := h.rb j y b h1 eb
      have hbl := ((h.ra j y h1).lt b eb).2
      refine ⟨a1, a2, fun m z hm => ?_⟩
      rcases hl m z hm with ⟨_, rfl⟩ | ⟨_, h2⟩
      · exact ⟨by omega, fun e => by rw [hks] at e; cases e⟩
      · exact a3 m z h2

theorem add_full (B : Nat) (w : World) (p nb : Nat) (deep : Int) (l : List (Option Nd)) (h : Full B w p nb deep l) (k : Nat) (hk : ixN l 0 = (k : Int)) (tag : Int) (aa : Option Addr) (an ac : Nat) (tx : ByteArray) (ats : List (ByteArray × ByteArray))
    (ho : w.ownsRow B 61 2 (.slice aa an ac) ats.length (cellsR ats)) (hs : ∀ b, (Value.slice aa an ac).ownBlock = some b → b ≠ p ∧ b ≠ nb ∧ ∀ (j : Nat) (y : Nd), l[j]? = some (some y) → b ≠ y.ab ∧ y.ks.ownBlock ≠ some b) :
    Calls Tryd.prog 43 #[.pointer (some ⟨p, 0, none⟩), .agg #[.int .i64 tag, .slice aa an ac, .string tx, .slice none 0 0]] w fun e w' => e = .returned (.tuple #[.int .i64 k, .int .i64 0]) ∧ Below B w w' ∧ (∃ b, w.heap.size ≤ b ∧ Full B w' p nb deep (l.set k (some (ndF b tag aa an ac tx ats)))) ∧ But nb w w' :=
  (add_but B w p nb deep l h.t h.apart h.ln h.bn k hk tag aa an ac tx ats).mono (by
    rintro e w' ⟨h1, h2, h3, h4⟩
    exact ⟨h1, h2, ⟨w.heap.size + 1, Nat.le_succ _, h.put k _ ⟨rfl, rfl, rfl⟩ h4 (Nat.le_succ _) ho hs h3⟩, h4⟩)

/-- New's tree is one's own. -/
theorem full_new {w w' : World} {c : Nat} {deep : Int} (h : TreeAt w' (w.heap.size + 1) w.heap.size deep ((List.replicate c none).set 0 (some (nd0 (w.heap.size + 2))))) (hs : w'.heap.size = w.heap.size + 3) : Full w.heap.size w' (w.heap.size + 1) w.heap.size deep ((List.replicate c none).set 0 (some (nd0 (w.heap.size + 2)))) := by
  have hl : ∀ (j : Nat) (y : Nd), ((List.replicate c (none : Option Nd)).set 0 (some (nd0 (w.heap.size + 2))))[j]? = some (some y) → j = 0 ∧ y = nd0 (w.heap.size + 2) := fun j y hj => by
    rw [List.getElem?_set] at hj
    split at hj
    · rename_i e
      split at hj
      · exact ⟨e.symm, by simpa using hj.symm⟩
      · cases hj
    · rw [List.getElem?_replicate] at hj
      split at hj <;> simp at hj
  refine ⟨h, by omega, by omega, by omega, Nat.le_refl _, fun j y hj => ?_, fun j m y z hj hm hne => ?_, fun j y hj => ?_, fun j y b hj eb => ?_, fun j y hj => ?_, fun j y b hj eb => ?_⟩
  · obtain ⟨_, rfl⟩ := hl j y hj
    exact ⟨by show _ ≤ w.heap.size + 2; omega, by show w.heap.size + 2 ≠ _; omega, by show w.heap.size + 2 ≠ _; omega⟩
  · have := (hl j y hj).1
    have := (hl m z hm).1
    omega
  · obtain ⟨_, rfl⟩ := hl j y hj
    exact ⟨rfl, .inl ⟨rfl, rfl⟩⟩
  · obtain ⟨_, rfl⟩ := hl j y hj
    cases eb
  · obtain ⟨_, rfl⟩ := hl j y hj
    exact ⟨rfl, .inl ⟨rfl, rfl⟩⟩
  · obtain ⟨_, rfl⟩ := hl j y hj
    cases eb

end Go.Proofs.YtdegkcibadjogaaDoor
