/-
  What holds of each tree: kids and parents go together, each node comes to a root by as many steps as it is deep; what of it ends.
-/
import Derived.Test.YtdegkcibadjogaaDoorInsA
namespace Go.Proofs.YtdegkcibadjogaaDoor
open Go.RowKit Go.Lib

/-- How deep each node is. -/
structure Rank (deep : Int) (l : List (Option Nd)) (r : Nat → Nat) : Prop where
  le : ∀ (j : Nat) (y : Nd), l[j]? = some (some y) → (r j : Int) ≤ deep
  up : ∀ (j : Nat) (y : Nd) (i : Nat), l[j]? = some (some y) → y.up = (i : Int) → r j = r i + 1
  no : ∀ (j : Nat) (y : Nd), l[j]? = some (some y) → y.up = -1 → r j = 0
structure Inv (deep : Int) (l : List (Option Nd)) : Prop where
  host : ∃ x, l[0]? = some (some x) ∧ x.up = -1 ∧ x.tag = 1
  kid : ∀ (i : Nat) (x : Nd) (k : Int), l[i]? = some (some x) → k ∈ x.kids → ∃ (j : Nat) (y : Nd), k = (j : Int) ∧ l[j]? = some (some y) ∧ y.up = (i : Int)
  nod : ∀ (i : Nat) (x : Nd), l[i]? = some (some x) → x.kids.Nodup
  par : ∀ (j : Nat) (y : Nd), l[j]? = some (some y) → y.up = -1 ∨ ∃ (i : Nat) (x : Nd), y.up = (i : Int) ∧ l[i]? = some (some x) ∧ (j : Int) ∈ x.kids
  dep : ∃ r, Rank deep l r
  txt : ∀ (i : Nat) (x : Nd), l[i]? = some (some x) → x.tag = 0 → x.kids = []
  ats : ∀ (i : Nat) (x : Nd), l[i]? = some (some x) → x.ats.length ≤ 10000

theorem nd_none {l : List (Option Nd)} {id : Int} (h : ndAt l id = none) : hasT l id = false ∧ upT l id = -1 := by
  unfold hasT upT
  rw [h]
  exact ⟨rfl, rfl⟩
theorem nd_some {l : List (Option Nd)} {j : Nat} {y : Nd} (h : l[j]? = some (some y)) : hasT l (j : Int) = true ∧ upT l (j : Int) = y.up := by
  unfold hasT upT
  rw [ndAt_of h]
  exact ⟨rfl, rfl⟩
theorem nd_neg (l : List (Option Nd)) : ndAt l (-1) = none := by unfold ndAt; rw [if_neg (by omega)]
theorem nd_id {l : List (Option Nd)} {id : Int} {y : Nd} (h : ndAt l id = some y) : ∃ j : Nat, id = (j : Int) ∧ l[j]? = some (some y) := by
  obtain ⟨h0, h1⟩ := ndAt_some h
  exact ⟨id.toNat, by omega, h1⟩

section
variable {deep : Int} {l : List (Option Nd)} {r : Nat → Nat}
theorem Inv.endsR (h : Inv deep l) (hr : Rank deep l r) : ∀ (n j : Nat) (y : Nd), l[j]? = some (some y) → r j ≤ n → endsR l n (j : Int) = true
  | n, j, y, hj, hn => by
    have hu := (nd_some hj).2
    rcases h.par j y hj with h1 | ⟨i, x, h1, h2, _⟩
    · cases n with
      | zero => unfold Proofs.YtdegkcibadjogaaDoor.endsR; rw [hu, h1]; rfl
      | succ n => unfold Proofs.YtdegkcibadjogaaDoor.endsR; rw [hu, h1, if_pos rfl]
    · have hri := hr.up j y i hj h1
      cases n with
      | zero => omega
      | succ n =>
        unfold Proofs.YtdegkcibadjogaaDoor.endsR
        rw [hu, h1, if_neg (by omega)]
        exact h.endsR hr n i x h2 (by omega)
theorem Inv.endsRa (h : Inv deep l) (hd : deep ≤ 40) (id : Int) : Proofs.YtdegkcibadjogaaDoor.endsR l 41 id = true := by
  obtain ⟨r, hr⟩ := h.dep
  cases hx : ndAt l id with
  | none => unfold Proofs.YtdegkcibadjogaaDoor.endsR; rw [(nd_none hx).2, if_pos rfl]
  | some y =>
    obtain ⟨j, rfl, hj⟩ := nd_id hx
    have := hr.le j y hj
    exact h.endsR hr 41 j y hj (by omega)
theorem Inv.endsD (h : Inv deep l) (hr : Rank deep l r) : ∀ (n j : Nat) (y : Nd), l[j]? = some (some y) → r j < n → endsD l n (j : Int) = true ∧ depthF l n (j : Int) = (r j : Int)
  | 0, j, y, hj, hn => by omega
  | n + 1, j, y, hj, hn => by
    obtain ⟨hh, hu⟩ := nd_some hj
    unfold Proofs.YtdegkcibadjogaaDoor.endsD depthF
    rw [hh, if_pos rfl, if_pos rfl, hu]
    rcases h.par j y hj with h1 | ⟨i, x, h1, h2, _⟩
    · rw [h1, hr.no j y hj h1]
      have hm := (nd_none (nd_neg l)).1
      cases n with
      | zero => unfold Proofs.YtdegkcibadjogaaDoor.endsD depthF; rw [hm]; exact ⟨rfl, rfl⟩
      | succ n => unfold Proofs.YtdegkcibadjogaaDoor.endsD depthF; rw [hm]; exact ⟨rfl, rfl⟩
    · have hri := hr.up j y i hj h1
      obtain ⟨a1, a2⟩ := h.endsD hr n i x h2 (by omega)
      rw [h1, a2]
      exact ⟨a1, by omega⟩
theorem Inv.endsDa (h : Inv deep l) (hd : deep ≤ 40) (id : Int) : Proofs.YtdegkcibadjogaaDoor.endsD l 41 id = true := by
  obtain ⟨r, hr⟩ := h.dep
  cases hx : ndAt l id with
  | none => unfold Proofs.YtdegkcibadjogaaDoor.endsD; rw [(nd_none hx).1]; rfl
  | some y =>
    obtain ⟨j, rfl, hj⟩ := nd_id hx
    have := hr.le j y hj
    exact (h.endsD hr 41 j y hj (by omega)).1
theorem Inv.endsH (h : Inv deep l) (hr : Rank deep l r) : ∀ (n j : Nat) (y : Nd), l[j]? = some (some y) → deep < (r j : Int) + n → endsH l n (j : Int)
  | 0, j, y, hj, hn => by have := hr.le j y hj; omega
  | n + 1, j, y, hj, hn => by
    unfold Proofs.YtdegkcibadjogaaDoor.endsH
    intro x hx k hk
    rw [ndAt_of hj] at hx
    obtain rfl := Option.some.inj hx
    obtain ⟨m, z, rfl, hz, hzu⟩ := h.kid j y k hj hk
    have := hr.up m z j hz hzu
    exact h.endsH hr n m z hz (by omega)
theorem Inv.endsHa (h : Inv deep l) (hd : deep ≤ 40) (id : Int) : Proofs.YtdegkcibadjogaaDoor.endsH l 41 id := by
  obtain ⟨r, hr⟩ := h.dep
  cases hx : ndAt l id with
  | none => unfold Proofs.YtdegkcibadjogaaDoor.endsH; intro x hx2; rw [hx] at hx2; cases hx2
  | some y =>
    obtain ⟨j, rfl, hj⟩ := nd_id hx
    exact h.endsH hr 41 j y hj (by omega)
/-- The height is the same, with more steps allowed. -/
theorem fold_same {f g : Int → Int} : ∀ (ks : List Int) (z : Int), (∀ k ∈ ks, f k = g k) → ks.foldl (fun h k => max h (f k + 1)) z = ks.foldl (fun h k => max h (g k + 1)) z
  | [], _, _ => rfl
  | k :: ks, z, h => by
    rw [List.foldl_cons, List.foldl_cons, h k (by simp)]
    exact fold_same ks _ (fun k hk => h k (by simp [hk]))
theorem fold_ge {f : Int → Int} : ∀ (ks : List Int) (z : Int), z ≤ ks.foldl (fun h k => max h (f k + 1)) z ∧ ∀ k ∈ ks, f k + 1 ≤ ks.foldl (fun h k => max h (f k + 1)) z
  | [], z => ⟨Int.le_refl _, fun k hk => by cases hk⟩
  | a :: ks, z => by
    rw [List.foldl_cons]
    obtain ⟨h1, h2⟩ := fold_ge (f := f) ks (max z (f a + 1))
    refine ⟨by omega, fun k hk => ?_⟩
    rcases List.mem_cons.1 hk with rfl | hk
    · omega
    · exact h2 k hk
theorem heightS {n : Nat} {id : Int} {x : Nd} (hx : ndAt l id = some x) : heightF l (n + 1) id = x.kids.foldl (fun h k => max h (heightF l n k + 1)) 0 := by rw [heightF, hx]
theorem height_more : ∀ (n : Nat) (id : Int), Proofs.YtdegkcibadjogaaDoor.endsH l n id → heightF l (n + 1) id = heightF l n id
  | 0, id, h => by
    unfold Proofs.YtdegkcibadjogaaDoor.endsH at h
    unfold heightF
    rw [h]
  | n + 1, id, h => by
    unfold Proofs.YtdegkcibadjogaaDoor.endsH at h
    cases hx : ndAt l id with
    | none => unfold heightF; rw [hx]
    | some x =>
      have h2 := h x hx
      rw [heightS hx, heightS hx]
      exact fold_same _ _ (fun k hk => height_more n k (h2 k hk))
theorem Inv.high (h : Inv deep l) (hd : deep ≤ 40) {i j : Nat} {y : Nd} (hj : l[j]? = some (some y)) (hu : y.up = (i : Int)) : heightF l 41 (j : Int) + 1 ≤ heightF l 41 (i : Int) := by
  rcases h.par j y hj with h1 | ⟨i', x, h1, h2, h3⟩
  · omega
  · have e : i' = i := by omega
    subst e
    rw [← height_more 41 (i' : Int) (h.endsHa hd _), heightS (ndAt_of h2)]
    exact (fold_ge (f := fun k => heightF l 41 k) x.kids 0).2 _ h3
theorem Inv.root_up (_h : Inv deep l) (_hr : Rank deep l r) {i j n : Nat} {y : Nd} (hj : l[j]? = some (some y)) (hu : y.up = (i : Int)) : rootF l (n + 1) (j : Int) = rootF l n (i : Int) := by
  rw [rootF, (nd_some hj).2, hu, if_neg (by omega)]
theorem rootF_more : ∀ (n : Nat) (id : Int), Proofs.YtdegkcibadjogaaDoor.endsR l n id = true → rootF l (n + 1) id = rootF l n id
  | 0, id, h => by
    unfold Proofs.YtdegkcibadjogaaDoor.endsR at h
    unfold rootF
    rw [if_pos (of_decide_eq_true h)]
  | n + 1, id, h => by
    unfold Proofs.YtdegkcibadjogaaDoor.endsR at h
    by_cases h1 : upT l id = -1
    · unfold rootF; rw [if_pos h1, if_pos h1]
    · rw [if_neg h1] at h
      rw [show rootF l (n + 1 + 1) id = rootF l (n + 1) (upT l id) by rw [rootF, if_neg h1], show rootF l (n + 1) id = rootF l n (upT l id) by rw [rootF, if_neg h1]]
      exact rootF_more n _ h
/-- A node's root is its parent's. -/
theorem Inv.rootP (h : Inv deep l) (hd : deep ≤ 40) {i j : Nat} {y : Nd} (hj : l[j]? = some (some y)) (hu : y.up = (i : Int)) : rootF l 41 (j : Int) = rootF l 41 (i : Int) := by
  obtain ⟨r, hr⟩ := h.dep
  rw [← rootF_more 41 (j : Int) (h.endsRa hd _)]
  exact h.root_up hr hj hu
theorem Inv.rootN {j : Nat} {y : Nd} (hj : l[j]? = some (some y)) (hu : y.up = -1) : rootF l 41 (j : Int) = (j : Int) := by
  rw [rootF, (nd_some hj).2, if_pos hu]
/-- A node is no deeper than its root is high, less what it is high itself. -/
theorem Inv.low (h : Inv deep l) (hd : deep ≤ 40) (hr : Rank deep l r) : ∀ (n j : Nat) (y : Nd), l[j]? = some (some y) → r j = n → (r j : Int) + heightF l 41 (j : Int) ≤ heightF l 41 (rootF l 41 (j : Int))
  | n, j, y, hj, hn => by
    rcases h.par j y hj with h1 | ⟨i, x, h1, h2, _⟩
    · rw [Inv.rootN hj h1, hr.no j y hj h1]; omega
    · have h3 := hr.up j y i hj h1
      have h4 := h.high hd hj h1
      cases n with
      | zero => omega
      | succ n =>
        have h5 := h.low hd hr n i x h2 (by omega)
        rw [h.rootP hd hj h1]
        omega
theorem Inv.height0 {j : Nat} {y : Nd} (hj : l[j]? = some (some y)) : 0 ≤ heightF l 41 (j : Int) := by
  rw [heightS (ndAt_of hj)]
  exact (fold_ge (f := fun k => heightF l 40 k) y.kids 0).1
end

end Go.Proofs.YtdegkcibadjogaaDoor
