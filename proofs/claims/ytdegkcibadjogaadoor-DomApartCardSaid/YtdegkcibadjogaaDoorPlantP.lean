/-
  Plain facts on planting: what grows, heights, numbers that are free.
-/
import Derived.Test.YtdegkcibadjogaaDoorCalls
namespace Go.Proofs.YtdegkcibadjogaaDoor
open Go.RowKit Go.Lib

mutual
/-- How high a plain tree is. -/
def hP : Pn → Int
  | .mk _ _ _ _ _ _ _ _ _ kids => hPs kids
def hPs : List Pn → Int
  | [] => 0
  | t :: r => max (hP t + 1) (hPs r)
end
theorem hP_eq (t : Pn) : hP t = hPs t.kids := by cases t; rw [hP]; rfl
theorem hPs_mem : ∀ (l : List Pn) (t : Pn), t ∈ l → hP t + 1 ≤ hPs l
  | [], _, h => by cases h
  | s :: l, t, h => by
    rw [hPs]
    rcases List.mem_cons.1 h with rfl | h
    · omega
    · have := hPs_mem l t h; omega
theorem hPs_pos : ∀ l : List Pn, 0 ≤ hPs l
  | [] => by rw [hPs]; omega
  | s :: l => by rw [hPs]; have := hPs_pos l; omega
mutual
theorem highP_is : ∀ (t : Pn) (lev h : Int), highP lev h t = max h (lev + hP t)
  | .mk tag aa an ac tx ka kn kc ats kids, lev, h => by
    rw [highP, hP, highPs_is kids (lev + 1) (max h lev) (by omega)]
    have := hPs_pos kids
    omega
theorem highPs_is : ∀ (l : List Pn) (lev h : Int), lev - 1 ≤ h → highPs lev h l = max h (lev - 1 + hPs l)
  | [], lev, h, hh => by rw [highPs, hPs]; omega
  | t :: r, lev, h, hh => by
    rw [highPs, hPs, highP_is t lev h, highPs_is r lev _ (by omega)]
    omega
end

/-- What was there is there as it was. -/
structure Grows (l l' : List (Option Nd)) : Prop where
  len : l'.length = l.length
  old : ∀ (j : Nat) (y : Nd), l[j]? = some (some y) → l'[j]? = some (some y)
theorem Grows.refl (l : List (Option Nd)) : Grows l l := ⟨rfl, fun _ _ h => h⟩
theorem Grows.trans {a b c : List (Option Nd)} (h : Grows a b) (k : Grows b c) : Grows a c := ⟨by rw [k.len, h.len], fun j y hj => k.old j y (h.old j y hj)⟩
theorem Grows.set {l l' : List (Option Nd)} (h : Grows l l') {k : Nat} {v : Option Nd} (hk : l[k]? = some none) : Grows l (l'.set k v) :=
  ⟨by rw [List.length_set, h.len], fun j y hj => by rw [set_ne (fun e => by rw [e, hk] at hj; cases hj)]; exact h.old j y hj⟩

section
variable {deep : Int} {l l' : List (Option Nd)}
theorem fold_le {f : Int → Int} {M : Int} : ∀ (ks : List Int) (z : Int), z ≤ M → (∀ k ∈ ks, f k + 1 ≤ M) → ks.foldl (fun h k => max h (f k + 1)) z ≤ M
  | [], z, hz, _ => hz
  | a :: ks, z, hz, h => by
    rw [List.foldl_cons]
    exact fold_le ks _ (by have := h a (by simp); omega) (fun k hk => h k (by simp [hk]))
theorem Grows.height (h : Grows l l') (hI : Inv deep l) : ∀ (n j : Nat) (y : Nd), l[j]? = some (some y) → heightF l' n (j : Int) = heightF l n (j : Int)
  | 0, j, y, hj => rfl
  | n + 1, j, y, hj => by
    rw [heightS (ndAt_of hj), heightS (ndAt_of (h.old j y hj))]
    refine fold_same _ _ (fun k hk => ?_)
    obtain ⟨m, z, rfl, hz, _⟩ := hI.kid j y k hj hk
    exact h.height hI n m z hz
/-- Heights within what does not hold i are as they were, when a kid comes into i. -/
theorem join_same (hI : Inv deep l) {i j a : Nat} {x y : Nd} (hi : l[i]? = some (some x)) (hj : l[j]? = some (some y)) (hij : i ≠ j) (ka : Option Addr) (kc : Nat) : ∀ (n k : Nat) (z : Nd), l[k]? = some (some z) → ¬ Sub l k i → heightF (joinedZ l i x a j y ka kc) n (k : Int) = heightF l n (k : Int)
  | 0, k, z, hk, _ => rfl
  | n + 1, k, z, hk, hs => by
    have hki : k ≠ i := fun e => hs (by subst e; exact ⟨⟨z, hk⟩, 0, rfl⟩)
    obtain ⟨z', h1, h2⟩ : ∃ z', (joinedZ l i x a j y ka kc)[k]? = some (some z') ∧ z'.kids = z.kids := by
      unfold joinedZ
      by_cases e : k = j
      · subst e
        rw [hj] at hk
        obtain rfl := Option.some.inj (Option.some.inj hk)
        exact ⟨_, set_at (w := some y) (by rw [set_ne hki]; exact hj), rfl⟩
      · exact ⟨z, by rw [set_ne e, set_ne hki]; exact hk, rfl⟩
    rw [heightS (ndAt_of hk), heightS (ndAt_of h1), h2]
    refine fold_same _ _ (fun m hm => ?_)
    obtain ⟨m2, z2, rfl, hz2, _⟩ := hI.kid k z m hk hm
    exact join_same hI hi hj hij ka kc n m2 z2 hz2 (fun hs2 => hs ((hI.sub_kids hk i).2 (.inr ⟨m2, hm, hs2⟩)))
theorem join_high (hI : Inv deep l) (hd : deep ≤ 40) {i j a : Nat} {x y : Nd} {M : Int} (hi : l[i]? = some (some x)) (hj : l[j]? = some (some y)) (hij : i ≠ j) (hxu : x.up = -1) (ka : Option Addr) (kc : Nat) (hJ : Inv deep (joinedZ l i x a j y ka kc)) (h1 : heightF l 41 (i : Int) ≤ M) (h2 : heightF l 41 (j : Int) + 1 ≤ M) : heightF (joinedZ l i x a j y ka kc) 41 (i : Int) ≤ M := by
  have hM : 0 ≤ M := by have := Inv.height0 (l := l) hi; omega
  have hnot : ∀ k : Nat, k ≠ i → ¬ Sub l k i := fun k hk ⟨_, n, hn⟩ => by
    cases n with
    | zero => have : (i : Int) = (k : Int) := hn; omega
    | succ n =>
      have e : upN l n (upT l (i : Int)) = (k : Int) := hn
      rw [(nd_some hi).2, hxu, upN_neg] at e
      omega
  have hx' : (joinedZ l i x a j y ka kc)[i]? = some (some { x with ka := ka, kc := kc, kids := insZ x.kids a j }) := by
    unfold joinedZ
    rw [set_ne hij]
    exact set_at hi
  rw [← height_more 41 (i : Int) (hJ.endsHa hd _), heightS (ndAt_of hx')]
  refine fold_le _ _ hM (fun k hk => ?_)
  rcases mem_insZ.1 hk with rfl | hk
  · rw [join_same hI hi hj hij ka kc 41 j y hj (hnot j (fun e => hij e.symm))]
    exact h2
  · obtain ⟨m, z, rfl, hz, hzu⟩ := hI.kid i x k hi hk
    have hmi : m ≠ i := fun e => by
      obtain ⟨r, hr⟩ := hI.dep
      have := hr.up m z i hz hzu
      rw [e] at this
      omega
    rw [join_same hI hi hj hij ka kc 41 m z hz (hnot m hmi)]
    have := hI.high hd hz hzu
    omega

theorem countF_set : ∀ (l : List (Option Nd)) (k : Nat) (x : Nd), l[k]? = some none → countF (l.set k (some x)) = countF l + 1
  | [], k, x, h => by simp at h
  | v :: l, 0, x, h => by
    have e : v = none := by simpa using h
    subst e
    simp [countF]
  | v :: l, k + 1, x, h => by
    have ih := countF_set l k x (by simpa using h)
    unfold countF at ih ⊢
    rw [List.set_cons_succ, List.filter_cons, List.filter_cons]
    split
    · simp only [List.length_cons]; omega
    · exact ih
theorem countF_same : ∀ (l : List (Option Nd)) (k : Nat) (x y : Nd), l[k]? = some (some y) → countF (l.set k (some x)) = countF l
  | [], k, x, y, h => by simp at h
  | v :: l, 0, x, y, h => by
    have e : v = some y := by simpa using h
    subst e
    simp [countF]
  | v :: l, k + 1, x, y, h => by
    have ih := countF_same l k x y (by simpa using h)
    unfold countF at ih ⊢
    rw [List.set_cons_succ, List.filter_cons, List.filter_cons]
    split
    · simp only [List.length_cons]; omega
    · exact ih
theorem ixN_full : ∀ (l : List (Option Nd)) (i : Nat), ixN l i = -1 → countF l = l.length
  | [], _, _ => rfl
  | none :: l, i, h => by
    have e : (i : Int) = -1 := h
    omega
  | some x :: l, i, h => by
    have ih := ixN_full l (i + 1) h
    unfold countF at ih ⊢
    rw [List.filter_cons_of_pos (by rfl), List.length_cons, List.length_cons, ih]
theorem ixN_room {l : List (Option Nd)} (h : countF l < l.length) : ∃ k : Nat, ixN l 0 = (k : Int) ∧ l[k]? = some none := by
  rcases ixN_dec l 0 with h1 | ⟨k, h1⟩
  · have := ixN_full l 0 h1; omega
  · obtain ⟨_, h2⟩ := ixN_at l 0 k h1
    rw [Nat.sub_zero] at h2
    exact ⟨k, h1, h2⟩
theorem joined_count {i j a : Nat} {x y : Nd} (hi : l[i]? = some (some x)) (hj : l[j]? = some (some y)) (hij : i ≠ j) (ka : Option Addr) (kc : Nat) : countF (joinedZ l i x a j y ka kc) = countF l := by
  unfold joinedZ
  rw [countF_same _ j _ y (by rw [set_ne (fun e => hij e.symm)]; exact hj), countF_same _ i _ x hi]
end

end Go.Proofs.YtdegkcibadjogaaDoor
