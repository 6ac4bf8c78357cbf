/-
  What OrderGoes needs besides: all that is within a node; what next comes to is behind.
  All that is within a node stands in its row once: the row's length.
-/
import Derived.Test.YtggjoefhopoggaaDoorCTot

namespace Go.Proofs.YtggjoefhopoggaaDoor
open Go.RowKit Go.Lib

variable {deep : Int} {l : List (Option Nd)}
theorem ups_self {j : Nat} {y : Nd} (hj : l[j]? = some (some y)) : (j : Int) ∈ upsS (sk l) 41 (j : Int) := by
  rw [upsS, if_pos (sk_node hj).1]; exact List.mem_cons_self
theorem ups_up (h : Inv deep l) (hd : deep ≤ 40) {r : Nat → Nat} (hr : Rank deep l r) {i k : Nat} {x y : Nd} (hi : l[i]? = some (some x)) (hk : l[k]? = some (some y)) (hu : y.up = (i : Int)) : ∀ (n j : Nat) (z : Nd), l[j]? = some (some z) → r j = n → (k : Int) ∈ upsS (sk l) 41 (j : Int) → (i : Int) ∈ upsS (sk l) 41 (j : Int) := by
  intro n
  induction n with
  | zero =>
    intro j z hj hn hm
    rcases h.par j z hj with hu2 | ⟨i2, x2, hu2, hi2, _⟩
    · rw [ups_root hj hu2] at hm
      have e : k = j := by have := List.mem_singleton.1 hm; omega
      subst e
      rw [hj] at hk
      injection hk with hk; injection hk with hk
      subst hk
      omega
    · have := hr.up j z i2 hj hu2; omega
  | succ n ih =>
    intro j z hj hn hm
    rcases h.par j z hj with hu2 | ⟨i2, x2, hu2, hi2, _⟩
    · have := hr.no j z hj hu2; omega
    · have h1 := hr.up j z i2 hj hu2
      rw [ups_step h hd hj hu2] at hm ⊢
      rcases List.mem_cons.1 hm with e | hm
      · have e : k = j := by omega
        subst e
        rw [hj] at hk
        injection hk with hk; injection hk with hk
        subst hk
        have e2 : i = i2 := by omega
        subst e2
        exact List.mem_cons_of_mem _ (ups_self hi)
      · exact List.mem_cons_of_mem _ (ih i2 x2 hi2 (by omega) hm)
/-- All that is in a node's row stands there, and is within it. -/
theorem down_in (h : Inv deep l) (hd : deep ≤ 40) {r : Nat → Nat} (hr : Rank deep l r) : ∀ (n j : Nat) (y : Nd), l[j]? = some (some y) → ∀ a ∈ downS (sk l) n (j : Int), ∃ (i : Nat) (x : Nd), a = (i : Int) ∧ l[i]? = some (some x) ∧ (j : Int) ∈ upsS (sk l) 41 a := by
  intro n
  induction n with
  | zero => intro j y _ a ha; rw [downS] at ha; cases ha
  | succ n ih =>
    intro j y hj a ha
    rw [down_eq n hj] at ha
    rcases List.mem_cons.1 ha with e | ha
    · exact ⟨j, y, e, hj, by rw [e]; exact ups_self hj⟩
    · obtain ⟨k, hk, ha⟩ := List.mem_flatMap.1 ha
      obtain ⟨i, x, e, hi, hu⟩ := h.kid j y k hj hk
      rw [e] at ha
      obtain ⟨i2, x2, e2, hi2, hm⟩ := ih i x hi a ha
      refine ⟨i2, x2, e2, hi2, ?_⟩
      rw [e2] at hm ⊢
      exact ups_up h hd hr hj hi hu _ i2 x2 hi2 rfl hm
theorem path_in (h : Inv deep l) (hd : deep ≤ 40) {j i : Nat} {y x : Nd} (hj : l[j]? = some (some y)) (_hi : l[i]? = some (some x)) (hm : (i : Int) ∈ upsS (sk l) 41 (j : Int)) : ∃ rest, pathS (sk l) 41 (j : Int) = pathS (sk l) 41 (i : Int) ++ rest ∧ rootS (sk l) 41 (j : Int) = rootS (sk l) 41 (i : Int) := by
  obtain ⟨r, hr⟩ := h.dep
  by_cases e : (i : Int) = (j : Int)
  · rw [e]; exact ⟨[], by simp, rfl⟩
  · obtain ⟨k, rest, g1, _, g3, _⟩ := within_path h hd _ j y r (i : Int) hr hj rfl hm e
    exact ⟨_, g1, g3⟩
theorem path_kid (h : Inv deep l) (hd : deep ≤ 40) {i : Nat} {x : Nd} (hi : l[i]? = some (some x)) {p s : List Int} {k : Int} (e : x.kids = p ++ k :: s) : pathS (sk l) 41 k = pathS (sk l) 41 (i : Int) ++ [(p.length : Int)] ∧ rootS (sk l) 41 k = rootS (sk l) 41 (i : Int) := by
  obtain ⟨j, y, e2, hj, hu⟩ := h.kid i x k hi (by rw [e]; simp)
  obtain ⟨a, ha, hk, h3, h4⟩ := path_step h hd hj hi hu (by rw [← e2, e]; simp)
  obtain ⟨a2, ha2, hix, _⟩ := index_step hj hi hu (by rw [← e2, e]; simp)
  have h5 := (index_kid h hi e).1
  have hn := h.nod i x hi
  have e3 : a = p.length := by
    have g1 : x.kids[a]? = some k := by
      rw [List.getElem?_eq_getElem ha]; congr 1
      rw [e2, ← hk]; simp [getElem!_pos, ha]
    have g2 : x.kids[p.length]? = some k := by rw [e]; simp
    exact (List.getElem?_inj ha hn).1 (g1.trans g2.symm)
  rw [e2, h3, h4, e3]
  exact ⟨rfl, rfl⟩
theorem lexZ_less {p s t : List Int} {x y : Int} (h : x < y) : lexZ (p ++ x :: s) (p ++ y :: t) = -1 := by
  rw [lexZ_append, lexZ]
  have : cmpZ x y = -1 := by unfold cmpZ; rw [if_pos h]
  rw [this, if_neg (by omega)]
/-- What is behind a node is behind all within it. -/
theorem behind_less (h : Inv deep l) (hd : deep ≤ 40) {r : Nat → Nat} (hr : Rank deep l r) : ∀ (n j : Nat) (y : Nd), l[j]? = some (some y) → r j = n → behindS (sk l) 41 (j : Int) ≠ -1 → ∀ (a : Nat) (z : Nd), l[a]? = some (some z) → (j : Int) ∈ upsS (sk l) 41 (a : Int) →
    ∀ b c : Int, hasS (sk l) (behindS (sk l) 41 (j : Int)) = true ∧ rootS (sk l) 41 (a : Int) = rootS (sk l) 41 (behindS (sk l) 41 (j : Int)) ∧ lexZ (wayS (sk l) 41 ((a : Int), b)) (wayS (sk l) 41 (behindS (sk l) 41 (j : Int), c)) = -1 := by
  intro n
  induction n with
  | zero =>
    intro j y hj hn hb
    rcases h.par j y hj with hu | ⟨i, x, hu, hi, _⟩
    · exact absurd (behind_root hj hu) hb
    · have := hr.up j y i hj hu; omega
  | succ n ih =>
    intro j y hj hn hb a z ha hm b c
    rcases h.par j y hj with hu | ⟨i, x, hu, hi, hmk⟩
    · exact absurd (behind_root hj hu) hb
    · have h1 := hr.up j y i hj hu
      obtain ⟨p, s, e⟩ := List.append_of_mem hmk
      have hk := behind_kid h hd hi e
      have hm2 := ups_up h hd hr hi hj hu _ a z ha rfl hm
      cases s with
      | nil =>
        have hk2 : behindS (sk l) 41 (j : Int) = behindS (sk l) 41 (i : Int) := hk
        rw [hk2] at hb ⊢
        exact ih i x hi (by omega) hb a z ha hm2 b c
      | cons k s =>
        have hk2 : behindS (sk l) 41 (j : Int) = k := hk
        rw [hk2]
        have e5 : x.kids = (p ++ [(j : Int)]) ++ k :: s := by rw [e]; simp
        obtain ⟨p1, p2⟩ := path_kid h hd hi e
        obtain ⟨q1, q2⟩ := path_kid h hd hi e5
        obtain ⟨rest, g1, g2⟩ := path_in h hd ha hj hm
        obtain ⟨kj, ky, ek, hkj, _⟩ := h.kid i x k hi (by rw [e]; simp)
        refine ⟨by rw [ek]; exact (sk_node hkj).1, by rw [g2, p2, q2], ?_⟩
        unfold wayS
        show lexZ (pathS (sk l) 41 (a : Int) ++ [b]) (pathS (sk l) 41 k ++ [c]) = -1
        rw [g1, p1, q1]
        simp only [List.append_assoc, List.singleton_append]
        exact lexZ_less (by simp; omega)
theorem may_zero {L : Sk} {a : Int} (h : hasS L a = true) : mayS L a 0 = true := by
  unfold mayS
  rw [Bool.and_eq_true, decide_eq_true_eq, decide_eq_true_eq]
  exact ⟨Int.le_refl _, lengthS_pos h⟩
/-- What next comes to is behind. -/
theorem cmp_next (h : Inv deep l) (hd : deep ≤ 40) {j : Nat} {y : Nd} (hj : l[j]? = some (some y)) (hn : nextS (sk l) 41 41 (j : Int) ≠ -1) : cmpS (sk l) 41 ((j : Int), 0) (nextS (sk l) 41 41 (j : Int), 0) = (-1, true) := by
  obtain ⟨r, hr⟩ := h.dep
  have m1 := may_zero (sk_node hj).1
  have key : hasS (sk l) (nextS (sk l) 41 41 (j : Int)) = true ∧ rootS (sk l) 41 (j : Int) = rootS (sk l) 41 (nextS (sk l) 41 41 (j : Int)) ∧ lexZ (wayS (sk l) 41 ((j : Int), 0)) (wayS (sk l) 41 (nextS (sk l) 41 41 (j : Int), 0)) = -1 := by
    rw [next_eq h hj] at hn ⊢
    cases hk : y.kids with
    | nil =>
      rw [hk] at hn
      exact behind_less h hd hr _ j y hj rfl hn j y hj (ups_self hj) 0 0
    | cons k ks =>
      obtain ⟨p1, p2⟩ := path_kid h hd hj (p := []) hk
      obtain ⟨kj, ky, ek, hkj, _⟩ := h.kid j y k hj (by rw [hk]; exact List.mem_cons_self)
      refine ⟨by show hasS (sk l) k = true; rw [ek]; exact (sk_node hkj).1, p2.symm, ?_⟩
      unfold wayS
      show lexZ (pathS (sk l) 41 (j : Int) ++ [0]) (pathS (sk l) 41 k ++ [0]) = -1
      rw [p1]
      simp only [List.append_assoc, List.singleton_append]
      rw [lexZ_append]; rfl
  unfold cmpS
  rw [if_pos ⟨m1, may_zero key.1, key.2.1⟩, key.2.2]

end Go.Proofs.YtggjoefhopoggaaDoor

namespace Go.Proofs.YtggjoefhopoggaaDoor
open Go.RowKit Go.Lib

variable {deep : Int} {l : List (Option Nd)}
theorem ups_le (h : Inv deep l) (hd : deep ≤ 40) {r : Nat → Nat} (hr : Rank deep l r) {a : Nat} : ∀ (n j : Nat) (z : Nd), l[j]? = some (some z) → r j = n → (a : Int) ∈ upsS (sk l) 41 (j : Int) → a = j ∨ r a < r j := by
  intro n
  induction n with
  | zero =>
    intro j z hj hn hm
    rcases h.par j z hj with hu2 | ⟨i2, x2, hu2, hi2, _⟩
    · rw [ups_root hj hu2] at hm
      have := List.mem_singleton.1 hm; omega
    · have := hr.up j z i2 hj hu2; omega
  | succ n ih =>
    intro j z hj hn hm
    rcases h.par j z hj with hu2 | ⟨i2, x2, hu2, hi2, _⟩
    · have := hr.no j z hj hu2; omega
    · have h1 := hr.up j z i2 hj hu2
      rw [ups_step h hd hj hu2] at hm
      rcases List.mem_cons.1 hm with e | hm
      · left; omega
      · rcases ih i2 x2 hi2 (by omega) hm with e | e
        · right; subst e; omega
        · right; omega
theorem ups_one (h : Inv deep l) (hd : deep ≤ 40) {r : Nat → Nat} (hr : Rank deep l r) {a b : Nat} (hab : r a = r b) : ∀ (n j : Nat) (z : Nd), l[j]? = some (some z) → r j = n → (a : Int) ∈ upsS (sk l) 41 (j : Int) → (b : Int) ∈ upsS (sk l) 41 (j : Int) → a = b := by
  intro n
  induction n with
  | zero =>
    intro j z hj hn ha hb
    have := ups_le h hd hr _ j z hj hn ha
    have := ups_le h hd hr _ j z hj hn hb
    omega
  | succ n ih =>
    intro j z hj hn ha hb
    rcases h.par j z hj with hu2 | ⟨i2, x2, hu2, hi2, _⟩
    · have := hr.no j z hj hu2; omega
    · have h1 := hr.up j z i2 hj hu2
      have c1 := ups_le h hd hr _ j z hj rfl ha
      have c2 := ups_le h hd hr _ j z hj rfl hb
      rw [ups_step h hd hj hu2] at ha hb
      rcases List.mem_cons.1 ha with e | ha
      · have e1 : a = j := by omega
        subst e1
        omega
      · rcases List.mem_cons.1 hb with e | hb
        · have e1 : b = j := by omega
          subst e1
          omega
        · exact ih i2 x2 hi2 (by omega) ha hb
theorem down_nodup (h : Inv deep l) (hd : deep ≤ 40) {r : Nat → Nat} (hr : Rank deep l r) : ∀ (n j : Nat) (y : Nd), l[j]? = some (some y) → (downS (sk l) n (j : Int)).Nodup := by
  intro n
  induction n with
  | zero => intro j y _; rw [downS]; exact List.nodup_nil
  | succ n ih =>
    intro j y hj
    rw [down_eq n hj, List.nodup_cons]
    refine ⟨fun hm => ?_, ?_⟩
    · obtain ⟨k, hk, hm⟩ := List.mem_flatMap.1 hm
      obtain ⟨i, x, e, hi, hu⟩ := h.kid j y k hj hk
      rw [e] at hm
      obtain ⟨i2, x2, e2, hi2, hu2⟩ := down_in h hd hr n i x hi _ hm
      have h1 := hr.up i x j hi hu
      rcases ups_le h hd hr _ j y hj rfl hu2 with e3 | e3
      · subst e3; omega
      · omega
    · unfold List.Nodup
      rw [List.pairwise_flatMap]
      refine ⟨fun k hk => ?_, ?_⟩
      · obtain ⟨i, x, e, hi, hu⟩ := h.kid j y k hj hk
        rw [e]; exact ih i x hi
      · refine (List.Pairwise.imp_of_mem ?_ (h.nod j y hj))
        intro k1 k2 hk1 hk2 hne a ha b hb hab
        subst hab
        obtain ⟨i1, x1, e1, hi1, hu1⟩ := h.kid j y k1 hj hk1
        obtain ⟨i2, x2, e2, hi2, hu2⟩ := h.kid j y k2 hj hk2
        rw [e1] at ha
        rw [e2] at hb
        obtain ⟨c, z, ez, hc, m1⟩ := down_in h hd hr n i1 x1 hi1 a ha
        obtain ⟨c2, z2, ez2, hc2, m2⟩ := down_in h hd hr n i2 x2 hi2 a hb
        rw [ez] at m1 m2
        have r1 := hr.up i1 x1 j hi1 hu1
        have r2 := hr.up i2 x2 j hi2 hu2
        have := ups_one h hd hr (by omega) _ c z hc rfl m1 m2
        exact hne (by rw [e1, e2, this])
theorem nodup_len : ∀ (N : Nat) (A : List Int), A.Nodup → (∀ a ∈ A, 0 ≤ a ∧ a < (N : Int)) → A.length ≤ N := by
  intro N
  induction N with
  | zero =>
    intro A _ hA
    cases A with
    | nil => simp
    | cons x A => have := hA x List.mem_cons_self; omega
  | succ N ih =>
    intro A hn hA
    have h1 := ih (A.erase (N : Int)) (hn.erase _) (fun a ha => by
      obtain ⟨h2, h3⟩ := (hn.mem_erase_iff).1 ha
      have := hA a h3
      omega)
    by_cases hm : (N : Int) ∈ A
    · rw [List.length_erase_of_mem hm] at h1; omega
    · rw [List.erase_of_not_mem hm] at h1; omega
theorem down_len (h : Inv deep l) (hd : deep ≤ 40) (n : Nat) {j : Nat} {y : Nd} (hj : l[j]? = some (some y)) : (downS (sk l) n (j : Int)).length ≤ l.length := by
  obtain ⟨r, hr⟩ := h.dep
  refine nodup_len _ _ (down_nodup h hd hr n j y hj) (fun a ha => ?_)
  obtain ⟨i, x, e, hi, _⟩ := down_in h hd hr n j y hj a ha
  obtain ⟨hlt, _⟩ := List.getElem?_eq_some_iff.1 hi
  omega

end Go.Proofs.YtggjoefhopoggaaDoor
