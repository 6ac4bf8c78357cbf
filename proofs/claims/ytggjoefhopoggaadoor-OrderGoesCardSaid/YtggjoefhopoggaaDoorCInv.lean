/-
  What holds of each tree: kids and parents go together, each node comes to a root by as many steps as it is deep; what of it ends.
  What holds of each tree is kept: New, add, what leaves the nodes' places alone, join, Remove.
-/
import Derived.Test.YtggjoefhopoggaaDoorCGrow
import Derived.Test.YtggjoefhopoggaaDoorCRem

namespace Go.Proofs.YtggjoefhopoggaaDoor
open Go.RowKit Go.Lib

/-- How deep each node is. -/
structure Rank (deep : Int) (l : List (Option Nd)) (r : Nat → Nat) : Prop where
  le : ∀ (j : Nat) (y : Nd), l[j]? = some (some y) → (r j : Int) ≤ deep
  up : ∀ (j : Nat) (y : Nd) (i : Nat), l[j]? = some (some y) → y.up = (i : Int) → r j = r i + 1
  no : ∀ (j : Nat) (y : Nd), l[j]? = some (some y) → y.up = -1 → r j = 0
structure Inv (deep : Int) (l : List (Option Nd)) : Prop where
  host : ∃ x, l[0]? = some (some x) ∧ x.up = -1 ∧ x.tag = 1
  kid : ∀ (i : Nat) (x : Nd) (k : Int), l[i]? = some (some x) → k ∈ x.kids → ∃ (j : Nat) (y : Nd), k = (j : Int) ∧ l[j]? = some (some y) ∧ y.up = (i : Int)
  nod : ∀ (i : Nat) (x : Nd), l[i]? = some (some x) → x.kids.Nodup
  par : ∀ (j : Nat) (y : Nd), l[j]? = some (some y) → y.up = -1 ∨ ∃ (i : Nat) (x : Nd), y.up = (i : Int) ∧ l[i]? = some (some x) ∧ (j : Int) ∈ x.kids
  dep : ∃ r, Rank deep l r
  txt : ∀ (i : Nat) (x : Nd), l[i]? = some (some x) → x.tag = 0 → x.kids = []
  own : ∀ (i : Nat) (x : Nd), l[i]? = some (some x) → x.ats.length ≤ 10000 ∧ x.tx.size ≤ 8192
theorem Inv.ats {deep : Int} {l : List (Option Nd)} (h : Inv deep l) (i : Nat) (x : Nd) (hi : l[i]? = some (some x)) : x.ats.length ≤ 10000 := (h.own i x hi).1

theorem nd_none {l : List (Option Nd)} {id : Int} (h : ndAt l id = none) : hasT l id = false ∧ upT l id = -1 := by
  unfold hasT upT
  rw [h]
  exact ⟨rfl, rfl⟩
theorem nd_some {l : List (Option Nd)} {j : Nat} {y : Nd} (h : l[j]? = some (some y)) : hasT l (j : Int) = true ∧ upT l (j : Int) = y.up := by
  unfold hasT upT
  rw [ndAt_of h]
  exact ⟨rfl, rfl⟩
theorem nd_neg (l : List (Option Nd)) : ndAt l (-1) = none := by unfold ndAt; rw [if_neg (by omega)]
theorem nd_id {l : List (Option Nd)} {id : Int} {y : Nd} (h : ndAt l id = some y) : ∃ j : Nat, id = (j : Int) ∧ l[j]? = some (some y) := by
  obtain ⟨h0, h1⟩ := ndAt_some h
  exact ⟨id.toNat, by omega, h1⟩

section
variable {deep : Int} {l : List (Option Nd)} {r : Nat → Nat}
theorem Inv.endsR (h : Inv deep l) (hr : Rank deep l r) : ∀ (n j : Nat) (y : Nd), l[j]? = some (some y) → r j ≤ n → endsR l n (j : Int) = true
  | n, j, y, hj, hn => by
    have hu := (nd_some hj).2
    rcases h.par j y hj with h1 | ⟨i, x, h1, h2, _⟩
    · cases n with
      | zero => unfold Proofs.YtggjoefhopoggaaDoor.endsR; rw [hu, h1]; rfl
      | succ n => unfold Proofs.YtggjoefhopoggaaDoor.endsR; rw [hu, h1, if_pos rfl]
    · have hri := hr.up j y i hj h1
      cases n with
      | zero => omega
      | succ n =>
        unfold Proofs.YtggjoefhopoggaaDoor.endsR
        rw [hu, h1, if_neg (by omega)]
        exact h.endsR hr n i x h2 (by omega)
theorem Inv.endsRa (h : Inv deep l) (hd : deep ≤ 40) (id : Int) : Proofs.YtggjoefhopoggaaDoor.endsR l 41 id = true := by
  obtain ⟨r, hr⟩ := h.dep
  cases hx : ndAt l id with
  | none => unfold Proofs.YtggjoefhopoggaaDoor.endsR; rw [(nd_none hx).2, if_pos rfl]
  | some y =>
    obtain ⟨j, rfl, hj⟩ := nd_id hx
    have := hr.le j y hj
    exact h.endsR hr 41 j y hj (by omega)
theorem Inv.endsD (h : Inv deep l) (hr : Rank deep l r) : ∀ (n j : Nat) (y : Nd), l[j]? = some (some y) → r j < n → endsD l n (j : Int) = true ∧ depthF l n (j : Int) = (r j : Int)
  | 0, j, y, hj, hn => by omega
  | n + 1, j, y, hj, hn => by
    obtain ⟨hh, hu⟩ := nd_some hj
    unfold Proofs.YtggjoefhopoggaaDoor.endsD depthF
    rw [hh, if_pos rfl, if_pos rfl, hu]
    rcases h.par j y hj with h1 | ⟨i, x, h1, h2, _⟩
    · rw [h1, hr.no j y hj h1]
      have hm := (nd_none (nd_neg l)).1
      cases n with
      | zero => unfold Proofs.YtggjoefhopoggaaDoor.endsD depthF; rw [hm]; exact ⟨rfl, rfl⟩
      | succ n => unfold Proofs.YtggjoefhopoggaaDoor.endsD depthF; rw [hm]; exact ⟨rfl, rfl⟩
    · have hri := hr.up j y i hj h1
      obtain ⟨a1, a2⟩ := h.endsD hr n i x h2 (by omega)
      rw [h1, a2]
      exact ⟨a1, by omega⟩
theorem Inv.endsDa (h : Inv deep l) (hd : deep ≤ 40) (id : Int) : Proofs.YtggjoefhopoggaaDoor.endsD l 41 id = true := by
  obtain ⟨r, hr⟩ := h.dep
  cases hx : ndAt l id with
  | none => unfold Proofs.YtggjoefhopoggaaDoor.endsD; rw [(nd_none hx).1]; rfl
  | some y =>
    obtain ⟨j, rfl, hj⟩ := nd_id hx
    have := hr.le j y hj
    exact (h.endsD hr 41 j y hj (by omega)).1
theorem Inv.endsH (h : Inv deep l) (hr : Rank deep l r) : ∀ (n j : Nat) (y : Nd), l[j]? = some (some y) → deep < (r j : Int) + n → endsH l n (j : Int)
  | 0, j, y, hj, hn => by have := hr.le j y hj; omega
  | n + 1, j, y, hj, hn => by
    unfold Proofs.YtggjoefhopoggaaDoor.endsH
    intro x hx k hk
    rw [ndAt_of hj] at hx
    obtain rfl := Option.some.inj hx
    obtain ⟨m, z, rfl, hz, hzu⟩ := h.kid j y k hj hk
    have := hr.up m z j hz hzu
    exact h.endsH hr n m z hz (by omega)
theorem Inv.endsHa (h : Inv deep l) (hd : deep ≤ 40) (id : Int) : Proofs.YtggjoefhopoggaaDoor.endsH l 41 id := by
  obtain ⟨r, hr⟩ := h.dep
  cases hx : ndAt l id with
  | none => unfold Proofs.YtggjoefhopoggaaDoor.endsH; intro x hx2; rw [hx] at hx2; cases hx2
  | some y =>
    obtain ⟨j, rfl, hj⟩ := nd_id hx
    exact h.endsH hr 41 j y hj (by omega)
/-- The height is the same, with more steps allowed. -/
theorem fold_same {f g : Int → Int} : ∀ (ks : List Int) (z : Int), (∀ k ∈ ks, f k = g k) → ks.foldl (fun h k => max h (f k + 1)) z = ks.foldl (fun h k => max h (g k + 1)) z
  | [], _, _ => rfl
  | k :: ks, z, h => by
    rw [List.foldl_cons, List.foldl_cons, h k (by simp)]
    exact fold_same ks _ (fun k hk => h k (by simp [hk]))
theorem fold_ge {f : Int → Int} : ∀ (ks : List Int) (z : Int), z ≤ ks.foldl (fun h k => max h (f k + 1)) z ∧ ∀ k ∈ ks, f k + 1 ≤ ks.foldl (fun h k => max h (f k + 1)) z
  | [], z => ⟨Int.le_refl _, fun k hk => by cases hk⟩
  | a :: ks, z => by
    rw [List.foldl_cons]
    obtain ⟨h1, h2⟩ := fold_ge (f := f) ks (max z (f a + 1))
    refine ⟨by omega, fun k hk => ?_⟩
    rcases List.mem_cons.1 hk with rfl | hk
    · omega
    · exact h2 k hk
theorem heightS {n : Nat} {id : Int} {x : Nd} (hx : ndAt l id = some x) : heightF l (n + 1) id = x.kids.foldl (fun h k => max h (heightF l n k + 1)) 0 := by rw [heightF, hx]
theorem height_more : ∀ (n : Nat) (id : Int), Proofs.YtggjoefhopoggaaDoor.endsH l n id → heightF l (n + 1) id = heightF l n id
  | 0, id, h => by
    unfold Proofs.YtggjoefhopoggaaDoor.endsH at h
    unfold heightF
    rw [h]
  | n + 1, id, h => by
    unfold Proofs.YtggjoefhopoggaaDoor.endsH at h
    cases hx : ndAt l id with
    | none => unfold heightF; rw [hx]
    | some x =>
      have h2 := h x hx
      rw [heightS hx, heightS hx]
      exact fold_same _ _ (fun k hk => height_more n k (h2 k hk))
theorem Inv.high (h : Inv deep l) (hd : deep ≤ 40) {i j : Nat} {y : Nd} (hj : l[j]? = some (some y)) (hu : y.up = (i : Int)) : heightF l 41 (j : Int) + 1 ≤ heightF l 41 (i : Int) := by
  rcases h.par j y hj with h1 | ⟨i', x, h1, h2, h3⟩
  · omega
  · have e : i' = i := by omega
    subst e
    rw [← height_more 41 (i' : Int) (h.endsHa hd _), heightS (ndAt_of h2)]
    exact (fold_ge (f := fun k => heightF l 41 k) x.kids 0).2 _ h3
theorem Inv.root_up (_h : Inv deep l) (_hr : Rank deep l r) {i j n : Nat} {y : Nd} (hj : l[j]? = some (some y)) (hu : y.up = (i : Int)) : rootF l (n + 1) (j : Int) = rootF l n (i : Int) := by
  rw [rootF, (nd_some hj).2, hu, if_neg (by omega)]
theorem rootF_more : ∀ (n : Nat) (id : Int), Proofs.YtggjoefhopoggaaDoor.endsR l n id = true → rootF l (n + 1) id = rootF l n id
  | 0, id, h => by
    unfold Proofs.YtggjoefhopoggaaDoor.endsR at h
    unfold rootF
    rw [if_pos (of_decide_eq_true h)]
  | n + 1, id, h => by
    unfold Proofs.YtggjoefhopoggaaDoor.endsR at h
    by_cases h1 : upT l id = -1
    · unfold rootF; rw [if_pos h1, if_pos h1]
    · rw [if_neg h1] at h
      rw [show rootF l (n + 1 + 1) id = rootF l (n + 1) (upT l id) by rw [rootF, if_neg h1], show rootF l (n + 1) id = rootF l n (upT l id) by rw [rootF, if_neg h1]]
      exact rootF_more n _ h
/-- A node's root is its parent's. -/
theorem Inv.rootP (h : Inv deep l) (hd : deep ≤ 40) {i j : Nat} {y : Nd} (hj : l[j]? = some (some y)) (hu : y.up = (i : Int)) : rootF l 41 (j : Int) = rootF l 41 (i : Int) := by
  obtain ⟨r, hr⟩ := h.dep
  rw [← rootF_more 41 (j : Int) (h.endsRa hd _)]
  exact h.root_up hr hj hu
theorem Inv.rootN {j : Nat} {y : Nd} (hj : l[j]? = some (some y)) (hu : y.up = -1) : rootF l 41 (j : Int) = (j : Int) := by
  rw [rootF, (nd_some hj).2, if_pos hu]
/-- A node is no deeper than its root is high, less what it is high itself. -/
theorem Inv.low (h : Inv deep l) (hd : deep ≤ 40) (hr : Rank deep l r) : ∀ (n j : Nat) (y : Nd), l[j]? = some (some y) → r j = n → (r j : Int) + heightF l 41 (j : Int) ≤ heightF l 41 (rootF l 41 (j : Int))
  | n, j, y, hj, hn => by
    rcases h.par j y hj with h1 | ⟨i, x, h1, h2, _⟩
    · rw [Inv.rootN hj h1, hr.no j y hj h1]; omega
    · have h3 := hr.up j y i hj h1
      have h4 := h.high hd hj h1
      cases n with
      | zero => omega
      | succ n =>
        have h5 := h.low hd hr n i x h2 (by omega)
        rw [h.rootP hd hj h1]
        omega
theorem Inv.height0 {j : Nat} {y : Nd} (hj : l[j]? = some (some y)) : 0 ≤ heightF l 41 (j : Int) := by
  rw [heightS (ndAt_of hj)]
  exact (fold_ge (f := fun k => heightF l 40 k) y.kids 0).1
end

end Go.Proofs.YtggjoefhopoggaaDoor

namespace Go.Proofs.YtggjoefhopoggaaDoor
open Go.RowKit Go.Lib

section
variable {l : List (Option Nd)}
theorem set_get {i j : Nat} {v : Option Nd} {y : Nd} (h : (l.set i v)[j]? = some (some y)) : (j = i ∧ v = some y) ∨ (j ≠ i ∧ l[j]? = some (some y)) := by
  rw [List.getElem?_set] at h
  split at h
  · rename_i e
    split at h
    · exact .inl ⟨e.symm, Option.some.inj h⟩
    · cases h
  · rename_i e
    exact .inr ⟨fun e2 => e e2.symm, h⟩
theorem set_at {i : Nat} {v w : Option Nd} (h : l[i]? = some w) : (l.set i v)[i]? = some v := by
  rw [List.getElem?_set, if_pos rfl, if_pos (List.getElem?_eq_some_iff.1 h).1]
theorem set_ne {i j : Nat} {v : Option Nd} (h : j ≠ i) : (l.set i v)[j]? = l[j]? := by
  rw [List.getElem?_set, if_neg (fun e => h e.symm)]
end

theorem inv_new (deep : Int) (hd : 0 ≤ deep) (c b : Nat) (hc : 1 ≤ c) : Inv deep ((List.replicate c none).set 0 (some (nd0 b))) := by
  have hl : ∀ (j : Nat) (y : Nd), ((List.replicate c (none : Option Nd)).set 0 (some (nd0 b)))[j]? = some (some y) → j = 0 ∧ y = nd0 b := fun j y hj => by
    rcases set_get hj with ⟨e, e2⟩ | ⟨_, h⟩
    · exact ⟨e, (Option.some.inj e2).symm⟩
    · rw [List.getElem?_replicate] at h
      split at h <;> simp at h
  refine ⟨⟨nd0 b, set_at (w := none) (by rw [List.getElem?_replicate, if_pos (by omega)]), rfl, rfl⟩, fun i x k hi hk => ?_, fun i x hi => ?_, fun j y hj => ?_, ⟨fun _ => 0, fun j y hj => hd, fun j y i hj hu => ?_, fun _ _ _ _ => rfl⟩, fun i x hi _ => ?_, fun i x hi => ?_⟩
  · obtain ⟨_, rfl⟩ := hl i x hi; cases hk
  · obtain ⟨_, rfl⟩ := hl i x hi; exact List.nodup_nil
  · obtain ⟨_, rfl⟩ := hl j y hj; exact .inl rfl
  · obtain ⟨_, rfl⟩ := hl j y hj
    have e : (-1 : Int) = (i : Int) := hu
    omega
  · obtain ⟨_, rfl⟩ := hl i x hi; rfl
  · obtain ⟨_, rfl⟩ := hl i x hi; exact ⟨Nat.zero_le _, Nat.zero_le _⟩

section
variable {deep : Int} {l : List (Option Nd)}
/-- A loose node has come. -/
theorem Inv.add (h : Inv deep l) (hd : 0 ≤ deep) {k : Nat} {z : Nd} (hk : l[k]? = some none) (h1 : z.up = -1) (h2 : z.kids = []) (h3 : z.ats.length ≤ 10000 ∧ z.tx.size ≤ 8192) : Inv deep (l.set k (some z)) := by
  obtain ⟨x0, hx0, a1, a2⟩ := h.host
  have hk0 : (0 : Nat) ≠ k := fun e => by rw [← e, hx0] at hk; cases hk
  have old : ∀ (j : Nat) (y : Nd), l[j]? = some (some y) → (l.set k (some z))[j]? = some (some y) := fun j y hj => by
    rw [set_ne (fun e => by rw [e, hk] at hj; cases hj)]; exact hj
  obtain ⟨r, hr⟩ := h.dep
  refine ⟨⟨x0, old 0 x0 hx0, a1, a2⟩, fun i x m hi hm => ?_, fun i x hi => ?_, fun j y hj => ?_, ⟨fun j => if j = k then 0 else r j, fun j y hj => ?_, fun j y i hj hu => ?_, fun j y hj hu => ?_⟩, fun i x hi ht => ?_, fun i x hi => ?_⟩
  · rcases set_get hi with ⟨_, e⟩ | ⟨_, hi⟩
    · obtain rfl := Option.some.inj e
      rw [h2] at hm; cases hm
    · obtain ⟨j, y, b1, b2, b3⟩ := h.kid i x m hi hm
      exact ⟨j, y, b1, old j y b2, b3⟩
  · rcases set_get hi with ⟨_, e⟩ | ⟨_, hi⟩
    · obtain rfl := Option.some.inj e
      rw [h2]; exact List.nodup_nil
    · exact h.nod i x hi
  · rcases set_get hj with ⟨_, e⟩ | ⟨_, hj⟩
    · obtain rfl := Option.some.inj e
      exact .inl h1
    · rcases h.par j y hj with b | ⟨i, x, b1, b2, b3⟩
      · exact .inl b
      · exact .inr ⟨i, x, b1, old i x b2, b3⟩
  · (try dsimp only)
    split
    · exact hd
    · rcases set_get hj with ⟨e, _⟩ | ⟨_, hj⟩
      · contradiction
      · exact hr.le j y hj
  · (try dsimp only)
    rcases set_get hj with ⟨_, e⟩ | ⟨hjk, hj⟩
    · obtain rfl := Option.some.inj e
      omega
    · rw [if_neg hjk]
      have hik : i ≠ k := fun e => by
        rcases h.par j y hj with b | ⟨i2, x, b1, b2, _⟩
        · omega
        · have : i2 = k := by omega
          rw [this, hk] at b2; cases b2
      rw [if_neg hik]
      exact hr.up j y i hj hu
  · (try dsimp only)
    split
    · rfl
    · rcases set_get hj with ⟨e, _⟩ | ⟨_, hj⟩
      · contradiction
      · exact hr.no j y hj hu
  · rcases set_get hi with ⟨_, e⟩ | ⟨_, hi⟩
    · obtain rfl := Option.some.inj e
      exact h2
    · exact h.txt i x hi ht
  · rcases set_get hi with ⟨_, e⟩ | ⟨_, hi⟩
    · obtain rfl := Option.some.inj e
      exact h3
    · exact h.own i x hi
/-- A node has turned, but stands where it stood. -/
theorem Inv.same (h : Inv deep l) {k : Nat} {x z : Nd} (hk : l[k]? = some (some x)) (h1 : z.up = x.up) (h2 : z.kids = x.kids) (h3 : z.tag = 0 → x.tag = 0) (h4 : k = 0 → z.tag = 1) (h5 : z.ats.length ≤ 10000 ∧ z.tx.size ≤ 8192) : Inv deep (l.set k (some z)) := by
  have old : ∀ (j : Nat) (y : Nd), l[j]? = some (some y) → ∃ y', (l.set k (some z))[j]? = some (some y') ∧ y'.up = y.up ∧ y'.kids = y.kids := fun j y hj => by
    by_cases e : j = k
    · subst e
      rw [hk] at hj
      obtain rfl := Option.some.inj (Option.some.inj hj)
      exact ⟨z, set_at hk, h1, h2⟩
    · exact ⟨y, by rw [set_ne e]; exact hj, rfl, rfl⟩
  have new : ∀ (j : Nat) (y' : Nd), (l.set k (some z))[j]? = some (some y') → ∃ y, l[j]? = some (some y) ∧ y'.up = y.up ∧ y'.kids = y.kids ∧ (y'.tag = 0 → y.tag = 0) := fun j y' hj => by
    rcases set_get hj with ⟨rfl, e⟩ | ⟨_, hj⟩
    · obtain rfl := Option.some.inj e
      exact ⟨x, hk, h1, h2, h3⟩
    · exact ⟨y', hj, rfl, rfl, id⟩
  obtain ⟨r, hr⟩ := h.dep
  refine ⟨?_, fun i x' m hi hm => ?_, fun i x' hi => ?_, fun j y' hj => ?_, ⟨r, fun j y' hj => ?_, fun j y' i hj hu => ?_, fun j y' hj hu => ?_⟩, fun i x' hi ht => ?_, fun i x' hi => ?_⟩
  · obtain ⟨x0, hx0, a1, a2⟩ := h.host
    by_cases e : 0 = k
    · subst e
      rw [hk] at hx0
      obtain rfl := Option.some.inj (Option.some.inj hx0)
      exact ⟨z, set_at hk, by rw [h1, a1], h4 rfl⟩
    · exact ⟨x0, by rw [set_ne e]; exact hx0, a1, a2⟩
  · obtain ⟨x2, b1, _, b3, _⟩ := new i x' hi
    rw [b3] at hm
    obtain ⟨j, y, c1, c2, c3⟩ := h.kid i x2 m b1 hm
    obtain ⟨y', d1, d2, _⟩ := old j y c2
    exact ⟨j, y', c1, d1, by rw [d2, c3]⟩
  · obtain ⟨x2, b1, _, b3, _⟩ := new i x' hi
    rw [b3]; exact h.nod i x2 b1
  · obtain ⟨y2, b1, b2, _, _⟩ := new j y' hj
    rcases h.par j y2 b1 with c | ⟨i, x2, c1, c2, c3⟩
    · exact .inl (by rw [b2, c])
    · obtain ⟨x', d1, _, d3⟩ := old i x2 c2
      exact .inr ⟨i, x', by rw [b2, c1], d1, by rw [d3]; exact c3⟩
  · obtain ⟨y2, b1, _⟩ := new j y' hj
    exact hr.le j y2 b1
  · obtain ⟨y2, b1, b2, _⟩ := new j y' hj
    exact hr.up j y2 i b1 (by rw [← b2, hu])
  · obtain ⟨y2, b1, b2, _⟩ := new j y' hj
    exact hr.no j y2 b1 (by rw [← b2, hu])
  · obtain ⟨x2, b1, _, b3, b4⟩ := new i x' hi
    rw [b3]; exact h.txt i x2 b1 (b4 ht)
  · rcases set_get hi with ⟨_, e⟩ | ⟨_, hi⟩
    · obtain rfl := Option.some.inj e
      exact h5
    · exact h.own i x' hi

theorem nodup_le : ∀ (n : Nat) (L : List Int), L.Nodup → (∀ k ∈ L, 0 ≤ k ∧ k < (n : Int)) → L.length ≤ n
  | 0, L, _, h => by
    cases L with
    | nil => exact Nat.le_refl _
    | cons a L => have := h a (by simp); omega
  | n + 1, L, hL, h => by
    have h1 : ∀ L : List Int, L.Nodup → L.length ≤ (L.filter (fun k => decide (k ≠ (n : Int)))).length + 1 := by
      intro L
      induction L with
      | nil => intro _; simp
      | cons a L ih =>
        intro hn
        rw [List.nodup_cons] at hn
        by_cases e : a = (n : Int)
        · have e2 : L.filter (fun k => decide (k ≠ (n : Int))) = L := List.filter_eq_self.2 (fun k hk => decide_eq_true (fun e3 => hn.1 (by rw [e, ← e3]; exact hk)))
          rw [List.filter_cons_of_neg (by simp [e]), e2]
          simp
        · rw [List.filter_cons_of_pos (by simpa using e)]
          have := ih hn.2
          simp only [List.length_cons]
          omega
    have h2 := nodup_le n (L.filter (fun k => decide (k ≠ (n : Int)))) (hL.filter _) (fun k hk => by
      rw [List.mem_filter] at hk
      have := h k hk.1
      have := of_decide_eq_true hk.2
      omega)
    have := h1 L hL
    omega
theorem Inv.kidsLt (h : Inv deep l) {i j : Nat} {x y : Nd} (hi : l[i]? = some (some x)) (hj : l[j]? = some (some y)) (hu : y.up = -1) : x.kids.length < l.length := by
  have hjl : j < l.length := (List.getElem?_eq_some_iff.1 hj).1
  have h1 := nodup_le l.length ((j : Int) :: x.kids) (by
    rw [List.nodup_cons]
    refine ⟨fun hm => ?_, h.nod i x hi⟩
    obtain ⟨j2, y2, e1, e2, e3⟩ := h.kid i x _ hi hm
    have : j = j2 := by omega
    subst this
    rw [hj] at e2
    obtain rfl := Option.some.inj (Option.some.inj e2)
    omega) (fun k hk => by
    rcases List.mem_cons.1 hk with rfl | hk
    · omega
    · obtain ⟨j2, y2, rfl, e2, _⟩ := h.kid i x k hi hk
      have := (List.getElem?_eq_some_iff.1 e2).1
      omega)
  simp only [List.length_cons] at h1
  omega

theorem mem_insZ {K : List Int} {a : Nat} {z k : Int} : k ∈ insZ K a z ↔ k = z ∨ k ∈ K := by
  unfold insZ
  rw [List.mem_append, List.mem_cons]
  constructor
  · rintro (h | h | h)
    · exact .inr (List.mem_of_mem_take h)
    · exact .inl h
    · exact .inr (List.mem_of_mem_drop h)
  · rintro (h | h)
    · exact .inr (.inl h)
    · have e := List.take_append_drop a K
      rw [← e] at h
      rcases List.mem_append.1 h with h | h
      · exact .inl h
      · exact .inr (.inr h)
theorem nodup_insZ {K : List Int} {a : Nat} {z : Int} (h : K.Nodup) (hz : z ∉ K) : (insZ K a z).Nodup := by
  unfold insZ
  have e := List.take_append_drop a K
  rw [← e, List.nodup_append] at h
  obtain ⟨h1, h2, h3⟩ := h
  rw [List.nodup_append]
  refine ⟨h1, ?_, fun x hx y hy => ?_⟩
  · rw [List.nodup_cons]
    exact ⟨fun hm => hz (List.mem_of_mem_drop hm), h2⟩
  · rcases List.mem_cons.1 hy with rfl | hy
    · rintro rfl; exact hz (List.mem_of_mem_take hx)
    · exact h3 x hx y hy
theorem mem_delZ {K : List Int} {a : Nat} {z : Int} (hn : K.Nodup) (ha : K[a]? = some z) (k : Int) : k ∈ delZ K a ↔ k ∈ K ∧ k ≠ z := by
  have hal := (List.getElem?_eq_some_iff.1 ha).1
  have hz : K[a] = z := (List.getElem?_eq_some_iff.1 ha).2
  have e : K = K.take a ++ z :: K.drop (a + 1) := by
    rw [← hz, ← List.drop_eq_getElem_cons hal, List.take_append_drop]
  have hn2 := hn
  rw [e, List.nodup_append] at hn2
  obtain ⟨_, h2, h3⟩ := hn2
  rw [List.nodup_cons] at h2
  unfold delZ
  rw [List.mem_append]
  constructor
  · rintro (h | h)
    · exact ⟨List.mem_of_mem_take h, fun e2 => h3 k h z (by simp) e2⟩
    · exact ⟨List.mem_of_mem_drop h, fun e2 => h2.1 (by rw [← e2]; exact h)⟩
  · rintro ⟨h, hne⟩
    rw [e, List.mem_append, List.mem_cons] at h
    rcases h with h | h | h
    · exact .inl h
    · exact absurd h hne
    · exact .inr h
theorem nodup_delZ {K : List Int} {a : Nat} (h : K.Nodup) : (delZ K a).Nodup := by
  unfold delZ
  have e := List.take_append_drop a K
  rw [← e, List.nodup_append] at h
  obtain ⟨h1, h2, h3⟩ := h
  rw [List.nodup_append]
  have hs : ∀ x, x ∈ K.drop (a + 1) → x ∈ K.drop a := fun x hx => by
    rw [← List.drop_drop] at hx
    exact List.mem_of_mem_drop hx
  refine ⟨h1, ?_, fun x hx y hy => h3 x hx y (hs y hy)⟩
  rw [← List.drop_drop]
  exact h2.sublist (List.drop_sublist 1 _)

theorem Inv.join (h : Inv deep l) (hd : deep ≤ 40) {i j a : Nat} {x y : Nd} (hi : l[i]? = some (some x)) (hj : l[j]? = some (some y)) (ht : x.tag ≠ 0) (hu : y.up = -1) (hj0 : j ≠ 0) (hrt : rootF l 41 (i : Int) ≠ (j : Int)) (hf : depthF l 41 (i : Int) + 1 + heightF l 41 (j : Int) ≤ deep) (ka : Option Addr) (kc : Nat) : Inv deep (joinedZ l i x a j y ka kc) := by
  have hij : i ≠ j := fun e => hrt (by subst e; exact Inv.rootN hj hu)
  have old : ∀ (k : Nat) (z : Nd), l[k]? = some (some z) → ∃ z', (joinedZ l i x a j y ka kc)[k]? = some (some z') ∧ z'.tag = z.tag ∧ (k ≠ j → z'.up = z.up) ∧ (k = j → z'.up = (i : Int)) ∧ (k ≠ i → z'.kids = z.kids) ∧ (k = i → z'.kids = insZ z.kids a j) ∧ (z'.ats = z.ats ∧ z'.tx = z.tx) := fun k z hk => by
    unfold joinedZ
    by_cases e : k = j
    · subst e
      rw [hj] at hk
      obtain rfl := Option.some.inj (Option.some.inj hk)
      exact ⟨_, set_at (w := some y) (by rw [set_ne (fun e => hij e.symm)]; exact hj), rfl, fun e => absurd rfl e, fun _ => rfl, fun _ => rfl, fun e => absurd e.symm hij, rfl, rfl⟩
    · rw [set_ne e]
      by_cases e2 : k = i
      · subst e2
        rw [hi] at hk
        obtain rfl := Option.some.inj (Option.some.inj hk)
        exact ⟨_, set_at hi, rfl, fun _ => rfl, fun e3 => absurd e3 e, fun e3 => absurd rfl e3, fun _ => rfl, rfl, rfl⟩
      · rw [set_ne e2]
        exact ⟨z, hk, rfl, fun _ => rfl, fun e3 => absurd e3 e, fun _ => rfl, fun e3 => absurd e3 e2, rfl, rfl⟩
  have new : ∀ (k : Nat) (z' : Nd), (joinedZ l i x a j y ka kc)[k]? = some (some z') → ∃ z, l[k]? = some (some z) ∧ z'.tag = z.tag ∧ (k ≠ j → z'.up = z.up) ∧ (k = j → z'.up = (i : Int)) ∧ (k ≠ i → z'.kids = z.kids) ∧ (k = i → z'.kids = insZ z.kids a j) ∧ (z'.ats = z.ats ∧ z'.tx = z.tx) := fun k z' hk => by
    have : ∃ z, l[k]? = some (some z) := by
      unfold joinedZ at hk
      rcases set_get hk with ⟨e, _⟩ | ⟨_, hk⟩
      · exact ⟨y, by rw [e]; exact hj⟩
      · rcases set_get hk with ⟨e, _⟩ | ⟨_, hk⟩
        · exact ⟨x, by rw [e]; exact hi⟩
        · exact ⟨_, hk⟩
    obtain ⟨z, hz⟩ := this
    obtain ⟨z2, b1, b2⟩ := old k z hz
    rw [hk] at b1
    obtain rfl := Option.some.inj (Option.some.inj b1)
    exact ⟨z, hz, b2⟩
  have kidj : ∀ (i2 : Nat) (x2 : Nd), l[i2]? = some (some x2) → (j : Int) ∉ x2.kids := fun i2 x2 h2 hm => by
    obtain ⟨j2, y2, e1, e2, e3⟩ := h.kid i2 x2 _ h2 hm
    have : j = j2 := by omega
    subst this
    rw [hj] at e2
    obtain rfl := Option.some.inj (Option.some.inj e2)
    omega
  obtain ⟨r, hr⟩ := h.dep
  have hri := hr.le i x hi
  have hdi := (h.endsD hr 41 i x hi (by omega)).2
  have hrj := hr.no j y hj hu
  refine ⟨?_, fun i2 x' m hi2 hm => ?_, fun i2 x' hi2 => ?_, fun k z' hk => ?_, ⟨fun k => if rootF l 41 (k : Int) = (j : Int) then r k + r i + 1 else r k, fun k z' hk => ?_, fun k z' i2 hk hz => ?_, fun k z' hk hz => ?_⟩, fun i2 x' hi2 h0 => ?_, fun i2 x' hi2 => ?_⟩
  · obtain ⟨x0, hx0, a1, a2⟩ := h.host
    obtain ⟨z', b1, b2, b3, _⟩ := old 0 x0 hx0
    exact ⟨z', b1, by rw [b3 (fun e => hj0 e.symm), a1], by rw [b2, a2]⟩
  · obtain ⟨x2, b1, _, _, _, b5, b6, _⟩ := new i2 x' hi2
    have key : m ∈ x2.kids → ∃ (j2 : Nat) (y2 : Nd), m = (j2 : Int) ∧ (joinedZ l i x a j y ka kc)[j2]? = some (some y2) ∧ y2.up = (i2 : Int) := fun hm => by
      obtain ⟨j2, y2, c1, c2, c3⟩ := h.kid i2 x2 m b1 hm
      obtain ⟨y3, d1, _, d3, _⟩ := old j2 y2 c2
      exact ⟨j2, y3, c1, d1, by rw [d3 (fun e => kidj i2 x2 b1 (by rw [← e, ← c1]; exact hm)), c3]⟩
    by_cases e : i2 = i
    · rw [b6 e, mem_insZ] at hm
      rcases hm with rfl | hm
      · obtain ⟨y3, d1, _, _, d4, _⟩ := old j y hj
        exact ⟨j, y3, rfl, d1, by rw [d4 rfl, e]⟩
      · exact key hm
    · rw [b5 e] at hm
      exact key hm
  · obtain ⟨x2, b1, _, _, _, b5, b6, _⟩ := new i2 x' hi2
    by_cases e : i2 = i
    · rw [b6 e]; exact nodup_insZ (h.nod i2 x2 b1) (kidj i2 x2 b1)
    · rw [b5 e]; exact h.nod i2 x2 b1
  · obtain ⟨z, b1, _, b3, b4, _⟩ := new k z' hk
    by_cases e : k = j
    · obtain ⟨x', d1, _, _, _, _, d6, _⟩ := old i x hi
      exact .inr ⟨i, x', b4 e, d1, by rw [d6 rfl, mem_insZ, e]; exact .inl rfl⟩
    · rcases h.par k z b1 with c | ⟨i2, x2, c1, c2, c3⟩
      · exact .inl (by rw [b3 e, c])
      · obtain ⟨x', d1, _, _, _, d5, d6, _⟩ := old i2 x2 c2
        refine .inr ⟨i2, x', by rw [b3 e, c1], d1, ?_⟩
        by_cases e2 : i2 = i
        · rw [d6 e2, mem_insZ]; exact .inr c3
        · rw [d5 e2]; exact c3
  · obtain ⟨z, b1, _⟩ := new k z' hk
    (try dsimp only)
    split
    · rename_i e
      have h1 := h.low hd hr _ k z b1 rfl
      have h2 := Inv.height0 b1
      rw [e] at h1
      omega
    · exact hr.le k z b1
  · obtain ⟨z, b1, _, b3, b4, _⟩ := new k z' hk
    (try dsimp only)
    by_cases e : k = j
    · have hi2 : i2 = i := by have := b4 e; omega
      subst hi2
      rw [e, if_pos (Inv.rootN hj hu), if_neg hrt, hrj]
      omega
    · have hz2 : z.up = (i2 : Int) := by rw [← b3 e, hz]
      rw [h.rootP hd b1 hz2]
      have := hr.up k z i2 b1 hz2
      split <;> omega
  · obtain ⟨z, b1, _, b3, b4, _⟩ := new k z' hk
    (try dsimp only)
    by_cases e : k = j
    · have := b4 e; omega
    · have hz2 : z.up = -1 := by rw [← b3 e, hz]
      rw [Inv.rootN b1 hz2, if_neg (by omega)]
      exact hr.no k z b1 hz2
  · obtain ⟨x2, b1, b2, _, _, b5, b6, _⟩ := new i2 x' hi2
    by_cases e : i2 = i
    · subst e
      rw [hi] at b1
      obtain rfl := Option.some.inj (Option.some.inj b1)
      exact absurd (by rw [← b2, h0]) ht
    · rw [b5 e]; exact h.txt i2 x2 b1 (by rw [← b2, h0])
  · obtain ⟨x2, b1, _, _, _, _, _, b7⟩ := new i2 x' hi2
    rw [b7.1, b7.2]; exact h.own i2 x2 b1

def upN (l : List (Option Nd)) : Nat → Int → Int
  | 0, k => k
  | n + 1, k => upN l n (upT l k)
theorem upN_neg (l : List (Option Nd)) : ∀ n, upN l n (-1) = -1
  | 0 => rfl
  | n + 1 => by
    show upN l n (upT l (-1)) = -1
    rw [(nd_none (nd_neg l)).2]
    exact upN_neg l n
theorem Inv.anc (h : Inv deep l) {r : Nat → Nat} (hr : Rank deep l r) {j : Nat} : ∀ (n k : Nat) (z : Nd), l[k]? = some (some z) → upN l n (k : Int) = (j : Int) → r j ≤ r k
  | 0, k, z, _, e => by
    have e2 : (k : Int) = (j : Int) := e
    have : k = j := by omega
    rw [this]; exact Nat.le_refl _
  | n + 1, k, z, hk, e => by
    have e2 : upN l n (upT l (k : Int)) = (j : Int) := e
    rw [(nd_some hk).2] at e2
    rcases h.par k z hk with c | ⟨i2, x2, c1, c2, _⟩
    · rw [c, upN_neg] at e2; omega
    · rw [c1] at e2
      have := h.anc hr n i2 x2 c2 e2
      have := hr.up k z i2 hk c1
      omega
open Classical in
theorem Inv.remove (h : Inv deep l) {i j a : Nat} {x y : Nd} (hi : l[i]? = some (some x)) (hj : l[j]? = some (some y)) (hu : y.up = (i : Int)) (ha : x.kids[a]? = some (j : Int)) : Inv deep (removedZ l i x a j y) := by
  obtain ⟨r, hr⟩ := h.dep
  have hrj := hr.up j y i hj hu
  have hij : i ≠ j := fun e => by subst e; omega
  have hnx := h.nod i x hi
  have old : ∀ (k : Nat) (z : Nd), l[k]? = some (some z) → ∃ z', (removedZ l i x a j y)[k]? = some (some z') ∧ z'.tag = z.tag ∧ (k ≠ j → z'.up = z.up) ∧ (k = j → z'.up = -1) ∧ (k ≠ i → z'.kids = z.kids) ∧ (k = i → z.kids = x.kids ∧ z'.kids = delZ x.kids a) ∧ (z'.ats = z.ats ∧ z'.tx = z.tx) := fun k z hk => by
    unfold removedZ
    by_cases e : k = j
    · subst e
      rw [hj] at hk
      obtain rfl := Option.some.inj (Option.some.inj hk)
      exact ⟨_, set_at (w := some y) (by rw [set_ne (fun e => hij e.symm)]; exact hj), rfl, fun e => absurd rfl e, fun _ => rfl, fun _ => rfl, fun e => absurd e.symm hij, rfl, rfl⟩
    · rw [set_ne e]
      by_cases e2 : k = i
      · subst e2
        rw [hi] at hk
        obtain rfl := Option.some.inj (Option.some.inj hk)
        exact ⟨_, set_at hi, rfl, fun _ => rfl, fun e3 => absurd e3 e, fun e3 => absurd rfl e3, fun _ => ⟨rfl, rfl⟩, rfl, rfl⟩
      · rw [set_ne e2]
        exact ⟨z, hk, rfl, fun _ => rfl, fun e3 => absurd e3 e, fun _ => rfl, fun e3 => absurd e3 e2, rfl, rfl⟩
  have new : ∀ (k : Nat) (z' : Nd), (removedZ l i x a j y)[k]? = some (some z') → ∃ z, l[k]? = some (some z) ∧ z'.tag = z.tag ∧ (k ≠ j → z'.up = z.up) ∧ (k = j → z'.up = -1) ∧ (k ≠ i → z'.kids = z.kids) ∧ (k = i → z.kids = x.kids ∧ z'.kids = delZ x.kids a) ∧ (z'.ats = z.ats ∧ z'.tx = z.tx) := fun k z' hk => by
    have : ∃ z, l[k]? = some (some z) := by
      unfold removedZ at hk
      rcases set_get hk with ⟨e, _⟩ | ⟨_, hk⟩
      · exact ⟨y, by rw [e]; exact hj⟩
      · rcases set_get hk with ⟨e, _⟩ | ⟨_, hk⟩
        · exact ⟨x, by rw [e]; exact hi⟩
        · exact ⟨_, hk⟩
    obtain ⟨z, hz⟩ := this
    obtain ⟨z2, b1, b2⟩ := old k z hz
    rw [hk] at b1
    obtain rfl := Option.some.inj (Option.some.inj b1)
    exact ⟨z, hz, b2⟩
  have ancU : ∀ (k : Nat) (z : Nd) (i2 : Nat), l[k]? = some (some z) → k ≠ j → z.up = (i2 : Int) → ((∃ n, upN l n (k : Int) = (j : Int)) ↔ ∃ n, upN l n (i2 : Int) = (j : Int)) := fun k z i2 hk hkj hz => by
    have e : ∀ n, upN l (n + 1) (k : Int) = upN l n (i2 : Int) := fun n => by
      show upN l n (upT l (k : Int)) = _
      rw [(nd_some hk).2, hz]
    constructor
    · rintro ⟨n, hn⟩
      cases n with
      | zero => have : (k : Int) = (j : Int) := hn; omega
      | succ n => exact ⟨n, by rw [← e]; exact hn⟩
    · rintro ⟨n, hn⟩
      exact ⟨n + 1, by rw [e]; exact hn⟩
  refine ⟨?_, fun i2 x' m hi2 hm => ?_, fun i2 x' hi2 => ?_, fun k z' hk => ?_, ⟨fun k => if (∃ n, upN l n (k : Int) = (j : Int)) then r k - r j else r k, fun k z' hk => ?_, fun k z' i2 hk hz => ?_, fun k z' hk hz => ?_⟩, fun i2 x' hi2 h0 => ?_, fun i2 x' hi2 => ?_⟩
  · obtain ⟨x0, hx0, a1, a2⟩ := h.host
    obtain ⟨z', b1, b2, b3, _⟩ := old 0 x0 hx0
    have hj0 : 0 ≠ j := fun e => by
      rw [← e, hx0] at hj
      obtain rfl := Option.some.inj (Option.some.inj hj)
      omega
    exact ⟨z', b1, by rw [b3 hj0, a1], by rw [b2, a2]⟩
  · obtain ⟨x2, b1, _, _, _, b5, b6, _⟩ := new i2 x' hi2
    have key : m ∈ x2.kids → m ≠ (j : Int) → ∃ (j2 : Nat) (y2 : Nd), m = (j2 : Int) ∧ (removedZ l i x a j y)[j2]? = some (some y2) ∧ y2.up = (i2 : Int) := fun hm hne => by
      obtain ⟨j2, y2, c1, c2, c3⟩ := h.kid i2 x2 m b1 hm
      obtain ⟨y3, d1, _, d3, _⟩ := old j2 y2 c2
      exact ⟨j2, y3, c1, d1, by rw [d3 (fun e => hne (by rw [c1, e])), c3]⟩
    by_cases e : i2 = i
    · obtain ⟨e1, e2⟩ := b6 e
      rw [e2, mem_delZ hnx ha] at hm
      exact key (by rw [e1]; exact hm.1) hm.2
    · rw [b5 e] at hm
      refine key hm (fun e2 => ?_)
      obtain ⟨j2, y2, c1, c2, c3⟩ := h.kid i2 x2 m b1 hm
      have : j2 = j := by omega
      subst this
      rw [hj] at c2
      obtain rfl := Option.some.inj (Option.some.inj c2)
      omega
  · obtain ⟨x2, b1, _, _, _, b5, b6, _⟩ := new i2 x' hi2
    by_cases e : i2 = i
    · rw [(b6 e).2]; exact nodup_delZ hnx
    · rw [b5 e]; exact h.nod i2 x2 b1
  · obtain ⟨z, b1, _, b3, b4, _⟩ := new k z' hk
    by_cases e : k = j
    · exact .inl (b4 e)
    · rcases h.par k z b1 with c | ⟨i2, x2, c1, c2, c3⟩
      · exact .inl (by rw [b3 e, c])
      · obtain ⟨x', d1, _, _, _, d5, d6, _⟩ := old i2 x2 c2
        refine .inr ⟨i2, x', by rw [b3 e, c1], d1, ?_⟩
        by_cases e2 : i2 = i
        · obtain ⟨e3, e4⟩ := d6 e2
          rw [e4, mem_delZ hnx ha]
          exact ⟨by rw [← e3]; exact c3, by omega⟩
        · rw [d5 e2]; exact c3
  · obtain ⟨z, b1, _⟩ := new k z' hk
    have := hr.le k z b1
    (try dsimp only)
    split <;> omega
  · obtain ⟨z, b1, _, b3, b4, _⟩ := new k z' hk
    (try dsimp only)
    by_cases e : k = j
    · have := b4 e; omega
    · have hz2 : z.up = (i2 : Int) := by rw [← b3 e, hz]
      have h1 := ancU k z i2 b1 e hz2
      have h2 := hr.up k z i2 b1 hz2
      by_cases hA : ∃ n, upN l n (i2 : Int) = (j : Int)
      · rw [if_pos (h1.2 hA), if_pos hA]
        obtain ⟨n, hn⟩ := hA
        rcases h.par k z b1 with c | ⟨i3, x3, c1, c2, _⟩
        · omega
        · have : i3 = i2 := by omega
          subst this
          have := h.anc hr n i3 x3 c2 hn
          omega
      · rw [if_neg (fun hA2 => hA (h1.1 hA2)), if_neg hA]
        exact h2
  · obtain ⟨z, b1, _, b3, b4, _⟩ := new k z' hk
    (try dsimp only)
    by_cases e : k = j
    · rw [e, if_pos ⟨0, rfl⟩]; omega
    · have := hr.no k z b1 (by rw [← b3 e, hz])
      split <;> omega
  · obtain ⟨x2, b1, b2, _, _, b5, b6, _⟩ := new i2 x' hi2
    have h5 := h.txt i2 x2 b1 (by rw [← b2, h0])
    by_cases e : i2 = i
    · obtain ⟨e3, _⟩ := b6 e
      rw [h5] at e3
      rw [← e3] at ha
      cases ha
    · rw [b5 e]; exact h5
  · obtain ⟨x2, b1, _, _, _, _, _, b7⟩ := new i2 x' hi2
    rw [b7.1, b7.2]; exact h.own i2 x2 b1
end

end Go.Proofs.YtggjoefhopoggaaDoor
