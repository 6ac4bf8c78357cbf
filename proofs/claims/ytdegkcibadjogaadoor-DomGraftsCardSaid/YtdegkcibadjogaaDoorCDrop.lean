/-
  Drop: a node goes, with all within it.
-/
import Derived.Test.YtdegkcibadjogaaDoorCKeepC

namespace Go.Proofs.YtdegkcibadjogaaDoor
open Go.RowKit Go.Lib

/-- k is within j. -/
def Sub (l : List (Option Nd)) (j k : Nat) : Prop := (∃ y, l[k]? = some (some y)) ∧ ∃ n, upN l n (k : Int) = (j : Int)
section
variable {deep : Int} {l : List (Option Nd)} {r : Nat → Nat}
theorem upN_succ (l : List (Option Nd)) : ∀ (n : Nat) (k : Int), upN l (n + 1) k = upT l (upN l n k)
  | 0, _ => rfl
  | n + 1, k => by
    show upN l (n + 1) (upT l k) = _
    rw [upN_succ l n (upT l k)]
    rfl
theorem Inv.steps (h : Inv deep l) (hr : Rank deep l r) {m : Nat} : ∀ (n k : Nat) (z : Nd), l[k]? = some (some z) → upN l n (k : Int) = (m : Int) → r k = r m + n
  | 0, k, z, _, e => by
    have e2 : (k : Int) = (m : Int) := e
    have : k = m := by omega
    rw [this]; rfl
  | n + 1, k, z, hk, e => by
    have e2 : upN l n (upT l (k : Int)) = (m : Int) := e
    rw [(nd_some hk).2] at e2
    rcases h.par k z hk with c | ⟨i2, x2, c1, c2, _⟩
    · rw [c, upN_neg] at e2; omega
    · rw [c1] at e2
      have := h.steps hr n i2 x2 c2 e2
      have := hr.up k z i2 hk c1
      omega
theorem Inv.twoSubs (h : Inv deep l) (hr : Rank deep l r) {a b k : Nat} (hab : r a = r b) (h1 : Sub l a k) (h2 : Sub l b k) : a = b := by
  obtain ⟨⟨z, hz⟩, n, hn⟩ := h1
  obtain ⟨_, m, hm⟩ := h2
  have e1 := h.steps hr n k z hz hn
  have e2 := h.steps hr m k z hz hm
  have : n = m := by omega
  subst this
  rw [hn] at hm
  omega
theorem Inv.sub_kids (h : Inv deep l) {j : Nat} {x : Nd} (hj : l[j]? = some (some x)) (k : Nat) : Sub l j k ↔ k = j ∨ ∃ m : Nat, (m : Int) ∈ x.kids ∧ Sub l m k := by
  constructor
  · rintro ⟨hk, n, hn⟩
    cases n with
    | zero => have : (k : Int) = (j : Int) := hn; exact .inl (by omega)
    | succ n =>
      rw [upN_succ] at hn
      obtain ⟨z, hz⟩ : ∃ z, upN l n (k : Int) = z := ⟨_, rfl⟩
      rw [hz] at hn
      cases hx : ndAt l z with
      | none => rw [(nd_none hx).2] at hn; omega
      | some y =>
        obtain ⟨m, rfl, hm⟩ := nd_id hx
        rw [(nd_some hm).2] at hn
        rcases h.par m y hm with c | ⟨i, x2, c1, c2, c3⟩
        · omega
        · have : i = j := by omega
          subst this
          rw [hj] at c2
          obtain rfl := Option.some.inj (Option.some.inj c2)
          exact .inr ⟨m, c3, hk, n, hz⟩
  · rintro (rfl | ⟨m, hm, hk, n, hn⟩)
    · exact ⟨⟨x, hj⟩, 0, rfl⟩
    · obtain ⟨m2, y, e, hy, hu⟩ := h.kid j x _ hj hm
      have : m = m2 := by omega
      subst this
      exact ⟨hk, n + 1, by rw [upN_succ, hn, (nd_some hy).2, hu]⟩
/-- What is left behind Drop. -/
theorem Inv.drop (h : Inv deep l) {j : Nat} {y : Nd} (hj : l[j]? = some (some y)) (hu : y.up = -1) (hj0 : j ≠ 0) {l' : List (Option Nd)} (h1 : ∀ k, Sub l j k → l'[k]? = some none) (h2 : ∀ k, ¬ Sub l j k → l'[k]? = l[k]?) : Inv deep l' := by
  have new : ∀ (k : Nat) (z : Nd), l'[k]? = some (some z) → l[k]? = some (some z) ∧ ¬ Sub l j k := fun k z hk => by
    by_cases e : Sub l j k
    · rw [h1 k e] at hk; cases hk
    · exact ⟨by rw [← h2 k e]; exact hk, e⟩
  have step : ∀ (k i : Nat) (z : Nd), l[k]? = some (some z) → z.up = (i : Int) → (∃ x, l[i]? = some (some x)) → (Sub l j k ↔ Sub l j i) := fun k i z hk hz hi => by
    have e : ∀ n, upN l (n + 1) (k : Int) = upN l n (i : Int) := fun n => by
      show upN l n (upT l (k : Int)) = _
      rw [(nd_some hk).2, hz]
    constructor
    · rintro ⟨_, n, hn⟩
      cases n with
      | zero =>
        have e2 : (k : Int) = (j : Int) := hn
        have : k = j := by omega
        subst this
        rw [hj] at hk
        obtain rfl := Option.some.inj (Option.some.inj hk)
        omega
      | succ n => exact ⟨hi, n, by rw [← e]; exact hn⟩
    · rintro ⟨_, n, hn⟩
      exact ⟨⟨z, hk⟩, n + 1, by rw [e]; exact hn⟩
  obtain ⟨r, hr⟩ := h.dep
  refine ⟨?_, fun i x m hi hm => ?_, fun i x hi => h.nod i x (new i x hi).1, fun k z hk => ?_, ⟨r, fun k z hk => hr.le k z (new k z hk).1, fun k z i hk hz => hr.up k z i (new k z hk).1 hz, fun k z hk hz => hr.no k z (new k z hk).1 hz⟩, fun i x hi ht => h.txt i x (new i x hi).1 ht, fun i x hi => h.ats i x (new i x hi).1⟩
  · obtain ⟨x0, hx0, a1, a2⟩ := h.host
    refine ⟨x0, ?_, a1, a2⟩
    rw [h2 0 (fun hs => ?_)]
    · exact hx0
    · obtain ⟨_, n, hn⟩ := hs
      cases n with
      | zero => have : ((0 : Nat) : Int) = (j : Int) := hn; omega
      | succ n =>
        have e : upN l n (upT l ((0 : Nat) : Int)) = (j : Int) := hn
        rw [(nd_some hx0).2, a1, upN_neg] at e
        omega
  · obtain ⟨b1, b2⟩ := new i x hi
    obtain ⟨k, z, rfl, c2, c3⟩ := h.kid i x m b1 hm
    have := step k i z c2 c3 ⟨x, b1⟩
    exact ⟨k, z, rfl, by rw [h2 k (fun hs => b2 (this.1 hs))]; exact c2, c3⟩
  · obtain ⟨b1, b2⟩ := new k z hk
    rcases h.par k z b1 with c | ⟨i, x, c1, c2, c3⟩
    · exact .inl c
    · have := step k i z b1 c1 ⟨x, c2⟩
      exact .inr ⟨i, x, c1, by rw [h2 i (fun hs => b2 (this.2 hs))]; exact c2, c3⟩
end

/-- A number is nobody's. -/
theorem Full.drop {B : Nat} {w : World} {p nb : Nat} {deep : Int} {l : List (Option Nd)} (h : Full B w p nb deep l) {j : Nat} (hj : j < l.length) : Full B (w.setCell ⟨nb, j, none⟩ (.pointer none)) p nb deep (l.set j none) := by
  have new : ∀ (k : Nat) (z : Nd), (l.set j none)[k]? = some (some z) → k ≠ j ∧ l[k]? = some (some z) := fun k z hk => by
    rcases set_get hk with ⟨_, e⟩ | h2
    · cases e
    · exact h2
  have hb : But nb w (w.setCell ⟨nb, j, none⟩ (.pointer none)) := (But.refl nb w).setCell j _
  have hpl : p < w.heap.size := lt_of_cell' h.t.c0
  have hown : ∀ {e : TypeId} {size n : Nat} {v : Value} {xs : List Value}, w.ownsRow B e size v n xs → (∀ b, v.ownBlock = some b → b ≠ nb) → (w.setCell ⟨nb, j, none⟩ (.pointer none)).ownsRow B e size v n xs := fun ho hne => by
    refine ⟨ho.1, ?_⟩
    rcases ho.2 with h2 | ⟨g, cap, cur, h0, hB, hg, h3⟩
    · exact .inl h2
    · exact .inr ⟨g, cap, cur, h0, hB, (hb.block g (Array.getElem?_eq_some_iff.1 hg).1 (hne g (by rw [h0]; rfl))).trans hg, h3⟩
  have hcell : ∃ u, w.cell? ⟨nb, j, none⟩ = some u := by
    cases e : l[j]? with
    | none => rw [List.getElem?_eq_none_iff] at e; omega
    | some v =>
      cases v with
      | none => exact ⟨_, h.t.no j e⟩
      | some x => exact ⟨_, (h.t.yes j x e).1⟩
  obtain ⟨u, hu⟩ := hcell
  refine ⟨⟨?_, ?_, ?_, by rw [List.length_set]; exact h.t.le, fun k hk => ?_, fun k z hk => ?_, fun k => by rw [World.frozen?_setCell]; exact h.t.f k⟩, h.pn, by simpa [World.setCell] using h.ln, h.bp, h.bn, fun i x hi => h.ab i x (new i x hi).2, fun i k x y hi hk hne => h.aa i k x y (new i x hi).2 (new k y hk).2 hne, fun i x hi => hown (h.own i x (new i x hi).2) (fun b e => (h.kb i x b (new i x hi).2 e).2.1), fun i x b hi e => ?_, fun i x hi => hown (h.ra i x (new i x hi).2) (fun b e => (h.rb i x b (new i x hi).2 e).2.1), fun i x b hi e => ?_⟩
  · exact (hb.cell hpl h.pn 0).trans h.t.c0
  · rw [List.length_set]; exact (hb.cell hpl h.pn 1).trans h.t.c1
  · exact (hb.cell hpl h.pn 2).trans h.t.c2
  · by_cases e : k = j
    · rw [e]; exact World.cell?_setCell_same _ _ _ hu
    · rw [set_ne e] at hk
      exact (World.cell?_setCell_other _ _ _ _ (fun e2 => e (congrArg Addr.off e2).symm)).trans (h.t.no k hk)
  · obtain ⟨e, h2⟩ := new k z hk
    obtain ⟨y1, y2⟩ := h.t.yes k z h2
    refine ⟨(World.cell?_setCell_other _ _ _ _ (fun e2 => e (congrArg Addr.off e2).symm)).trans y1, y2.set (q := ⟨nb, j, none⟩) (fun e2 => (h.ab k z h2).2.2 e2.symm) (fun b o e2 _ e3 => (h.kb k z b h2 (ks_block e2)).2.1 e3) _⟩
  · obtain ⟨a1, a2, a3⟩ := h.kb i x b (new i x hi).2 e
    exact ⟨a1, a2, fun k y hk => a3 k y (new k y hk).2⟩
  · obtain ⟨a1, a2, a3⟩ := h.rb i x b (new i x hi).2 e
    exact ⟨a1, a2, fun k y hk => a3 k y (new k y hk).2⟩

end Go.Proofs.YtdegkcibadjogaaDoor
