/-
  Plain facts on what Sound asks.
-/
import Derived.Test.YtdegkcibadjogaaDoorPlayed
import Derived.Test.YtdegkcibadjogaaDoorRead
namespace Go.Proofs.YtdegkcibadjogaaDoor
open Go.RowKit Go.Lib

theorem ixZ_of {z : Int} : ∀ (K : List Int) (i a : Nat), K.Nodup → K[a]? = some z → ixZ K z i = ((i + a : Nat) : Int)
  | [], i, a, _, h => by simp at h
  | x :: K, i, a, hn, h => by
    rw [List.nodup_cons] at hn
    cases a with
    | zero =>
      have e : x = z := by simpa using h
      rw [ixZ, if_pos e.symm]; simp
    | succ a =>
      have h2 : K[a]? = some z := by simpa using h
      have e : ¬ x = z := fun e => hn.1 (by rw [e]; exact List.mem_of_getElem? h2)
      rw [ixZ, if_neg (fun h => e h.symm), ixZ_of K (i + 1) a hn.2 h2]
      congr 1
      omega
section
variable {deep : Int} {l : List (Option Nd)}
theorem Inv.depE (h : Inv deep l) (hd : deep ≤ 40) : ∃ r, Rank deep l r ∧ ∀ (j : Nat) (y : Nd), l[j]? = some (some y) → depthF l 41 (j : Int) = (r j : Int) := by
  obtain ⟨r, hr⟩ := h.dep
  refine ⟨r, hr, fun j y hj => (h.endsD hr 41 j y hj ?_).2⟩
  have := hr.le j y hj
  omega
/-- What is asked of a kid. -/
theorem Inv.kidOk (h : Inv deep l) (hd : deep ≤ 40) {i a : Nat} {x : Nd} {z : Int} (hi : l[i]? = some (some x)) (ha : x.kids[a]? = some z) :
    hasT l z = true ∧ upT l z = (i : Int) ∧ indexT l z = (a : Int) ∧ depthF l 41 z = depthF l 41 (i : Int) + 1 ∧ heightF l 41 z < heightF l 41 (i : Int) ∧ liveT l 41 z = liveT l 41 (i : Int) := by
  obtain ⟨j, y, rfl, hj, hu⟩ := h.kid i x z hi (List.mem_of_getElem? ha)
  obtain ⟨h1, h2⟩ := nd_some hj
  rw [hu] at h2
  obtain ⟨r, hr, hdep⟩ := h.depE hd
  refine ⟨h1, h2, ?_, ?_, ?_, ?_⟩
  · unfold indexT
    rw [h2, ndAt_of hi]
    show ixZ x.kids (j : Int) 0 = _
    rw [ixZ_of x.kids 0 a (h.nod i x hi) ha, Nat.zero_add]
  · rw [hdep j y hj, hdep i x hi]
    have := hr.up j y i hj hu
    omega
  · have := h.high hd hj hu; omega
  · unfold liveT
    rw [h1, (nd_some hi).1, h.rootP hd hj hu]
/-- What is asked of a node. -/
theorem Inv.nodeOk (h : Inv deep l) (hd : deep ≤ 40) {i : Nat} {x : Nd} (hi : l[i]? = some (some x)) :
    hasT l (i : Int) = true ∧ depthF l 41 (i : Int) ≤ deep ∧ (tagT l (i : Int) = 0 → x.kids = []) ∧
    ((upT l (i : Int) = -1 ∧ depthF l 41 (i : Int) = 0 ∧ liveT l 41 (i : Int) = decide (i = 0)) ∨ ∃ k : Nat, upT l (i : Int) = (k : Int) ∧ i ≠ 0 ∧ hasT l (k : Int) = true ∧ 0 ≤ indexT l (i : Int) ∧ tagT l (k : Int) ≠ 0 ∧ liveT l 41 (k : Int) = liveT l 41 (i : Int)) := by
  obtain ⟨h1, h2⟩ := nd_some hi
  obtain ⟨r, hr, hdep⟩ := h.depE hd
  have ht : ∀ (j : Nat) (y : Nd), l[j]? = some (some y) → tagT l (j : Int) = y.tag := fun j y hj => by unfold tagT; rw [ndAt_of hj]; rfl
  refine ⟨h1, by rw [hdep i x hi]; exact hr.le i x hi, fun e => h.txt i x hi (by rw [← ht i x hi]; exact e), ?_⟩
  rcases h.par i x hi with hu | ⟨k, z, hu, hk, hm⟩
  · refine .inl ⟨by rw [h2, hu], ?_, ?_⟩
    · have hn : ∀ (n : Nat), depthF l n (-1) = -1 := fun n => by
        cases n with
        | zero => rfl
        | succ n => rw [depthF, (nd_none (nd_neg l)).1, if_neg (by decide)]
      rw [depthF, h1, if_pos rfl, h2, hu, hn]
      rfl
    · unfold liveT
      rw [h1, Inv.rootN hi hu]
      simp
  · obtain ⟨a, ha⟩ := List.getElem?_of_mem hm
    obtain ⟨_, _, k3, _, _, k6⟩ := h.kidOk hd hk ha
    refine .inr ⟨k, by rw [h2, hu], fun e => ?_, (nd_some hk).1, by rw [k3]; omega, fun e => ?_, k6.symm⟩
    · obtain ⟨x0, hx0, hu0, _⟩ := h.host
      rw [e, hx0] at hi
      obtain rfl := Option.some.inj (Option.some.inj hi)
      rw [hu0] at hu
      omega
    · have := h.txt k z hk (by rw [← ht k z hk]; exact e)
      rw [this] at hm
      cases hm
theorem Inv.hostOk (h : Inv deep l) : hasT l 0 = true ∧ upT l 0 = -1 ∧ tagT l 0 = 1 := by
  obtain ⟨x0, hx0, hu, ht⟩ := h.host
  have e : ndAt l (0 : Int) = some x0 := ndAt_of (i := 0) hx0
  unfold hasT upT tagT
  rw [e]
  exact ⟨rfl, hu, ht⟩
theorem count_none {a : Nat} (h : l[a]? = some none) : countF (l.take (a + 1)) = countF (l.take a) := by
  unfold countF
  rw [List.take_add_one, h, List.filter_append]
  simp
theorem count_some {a : Nat} {x : Nd} (h : l[a]? = some (some x)) : countF (l.take (a + 1)) = countF (l.take a) + 1 := by
  unfold countF
  rw [List.take_add_one, h, List.filter_append]
  simp
theorem count_more {a : Nat} (h : countF (l.take a) < countF l) : a < l.length := by
  rcases Nat.lt_or_ge a l.length with h1 | h1
  · exact h1
  · rw [List.take_of_length_le h1] at h
    exact absurd h (Nat.lt_irrefl _)
end

end Go.Proofs.YtdegkcibadjogaaDoor
