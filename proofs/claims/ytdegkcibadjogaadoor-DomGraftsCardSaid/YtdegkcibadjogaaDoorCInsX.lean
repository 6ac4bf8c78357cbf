/-
  A node is taken off and put in again: what is told of the others, and of what is within it.
    Insert, exactly.
-/
import Derived.Test.YtdegkcibadjogaaDoorCOff
import Derived.Test.YtdegkcibadjogaaDoorCCopy
import Derived.Test.YtdegkcibadjogaaDoorCKeepC

namespace Go.Proofs.YtdegkcibadjogaaDoor
open Go.RowKit Go.Lib

theorem ixZ_ofB {z : Int} : ∀ (K : List Int) (i a : Nat), K.Nodup → K[a]? = some z → ixZ K z i = ((i + a : Nat) : Int)
  | [], i, a, _, h => by simp at h
  | x :: K, i, a, hn, h => by
    rw [List.nodup_cons] at hn
    cases a with
    | zero =>
      have e : x = z := by simpa using h
      rw [ixZ, if_pos e.symm]; simp
    | succ a =>
      have h2 : K[a]? = some z := by simpa using h
      have e : ¬ x = z := fun e => hn.1 (by rw [e]; exact List.mem_of_getElem? h2)
      rw [ixZ, if_neg (fun h => e h.symm), ixZ_ofB K (i + 1) a hn.2 h2]
      congr 1
      omega
/-- The same nodes, but for i's kids and j's parent. -/
structure Near (i j : Nat) (l l' : List (Option Nd)) : Prop where
  len : l'.length = l.length
  no : ∀ k : Nat, l[k]? = some none → l'[k]? = some none
  yes : ∀ (k : Nat) (y : Nd), l[k]? = some (some y) → ∃ y', l'[k]? = some (some y') ∧ y'.tag = y.tag ∧ y'.tx = y.tx ∧ y'.ats = y.ats ∧ (k ≠ i → y'.kids = y.kids) ∧ (k ≠ j → y'.up = y.up)
section
variable {deep : Int} {l l' l'' : List (Option Nd)} {i j a : Nat} {x y : Nd} {r : Nat → Nat}
theorem Near.symm (h : Near i j l l') : Near i j l' l := by
  have back : ∀ k : Nat, k < l.length → (∃ y, l[k]? = some (some y)) ∨ l[k]? = some none := fun k hk => by
    rw [List.getElem?_eq_getElem hk]
    cases l[k] with
    | none => exact .inr rfl
    | some y => exact .inl ⟨y, rfl⟩
  refine ⟨h.len.symm, fun k hk => ?_, fun k y' hk => ?_⟩
  · have hl : k < l.length := by rw [← h.len]; exact (List.getElem?_eq_some_iff.1 hk).1
    rcases back k hl with ⟨y, e⟩ | e
    · obtain ⟨y', g, _⟩ := h.yes k y e
      rw [hk] at g; cases g
    · exact e
  · have hl : k < l.length := by rw [← h.len]; exact (List.getElem?_eq_some_iff.1 hk).1
    rcases back k hl with ⟨y, e⟩ | e
    · obtain ⟨y2, g1, g2, g3, g4, g5, g6⟩ := h.yes k y e
      rw [hk] at g1
      obtain rfl := Option.some.inj (Option.some.inj g1)
      exact ⟨y, e, g2.symm, g3.symm, g4.symm, fun e => (g5 e).symm, fun e => (g6 e).symm⟩
    · rw [h.no k e] at hk; cases hk
theorem Near.like (h : Near i j l l') (k : Like l' l'') : Near i j l l'' := by
  refine ⟨k.len.trans h.len, fun m hm => k.no m (h.no m hm), fun m y hm => ?_⟩
  obtain ⟨y', g1, g2, g3, g4, g5, g6⟩ := h.yes m y hm
  obtain ⟨y'', e1, e2, e3, e4, e5, e6⟩ := k.yes m y' g1
  exact ⟨y'', e1, e2.trans g2, e3.trans g3, e6.trans g4, fun e => e5.trans (g5 e), fun e => e4.trans (g6 e)⟩
theorem near_removed (hi : l[i]? = some (some x)) (hj : l[j]? = some (some y)) (hij : i ≠ j) : Near i j l (removedZ l i x a j y) := by
  unfold removedZ
  refine ⟨by rw [List.length_set, List.length_set], fun k hk => ?_, fun k z hk => ?_⟩
  · have h1 : k ≠ j := fun e => by rw [e, hj] at hk; cases hk
    have h2 : k ≠ i := fun e => by rw [e, hi] at hk; cases hk
    rw [set_ne h1, set_ne h2]; exact hk
  · by_cases h1 : k = j
    · subst h1
      rw [hj] at hk
      obtain rfl := Option.some.inj (Option.some.inj hk)
      exact ⟨_, set_at (w := some y) (by rw [set_ne (fun e => hij e.symm)]; exact hj), rfl, rfl, rfl, fun _ => rfl, fun e => absurd rfl e⟩
    · rw [set_ne h1]
      by_cases h2 : k = i
      · subst h2
        rw [hi] at hk
        obtain rfl := Option.some.inj (Option.some.inj hk)
        exact ⟨_, set_at hi, rfl, rfl, rfl, fun e => absurd rfl e, fun _ => rfl⟩
      · rw [set_ne h2]
        exact ⟨z, hk, rfl, rfl, rfl, fun _ => rfl, fun _ => rfl⟩
theorem near_joined {ka : Option Addr} {kc : Nat} (hi : l[i]? = some (some x)) (hj : l[j]? = some (some y)) (hij : i ≠ j) : Near i j l (joinedZ l i x a j y ka kc) := by
  unfold joinedZ
  refine ⟨by rw [List.length_set, List.length_set], fun k hk => ?_, fun k z hk => ?_⟩
  · have h1 : k ≠ j := fun e => by rw [e, hj] at hk; cases hk
    have h2 : k ≠ i := fun e => by rw [e, hi] at hk; cases hk
    rw [set_ne h1, set_ne h2]; exact hk
  · by_cases h1 : k = j
    · subst h1
      rw [hj] at hk
      obtain rfl := Option.some.inj (Option.some.inj hk)
      exact ⟨_, set_at (w := some y) (by rw [set_ne (fun e => hij e.symm)]; exact hj), rfl, rfl, rfl, fun _ => rfl, fun e => absurd rfl e⟩
    · rw [set_ne h1]
      by_cases h2 : k = i
      · subst h2
        rw [hi] at hk
        obtain rfl := Option.some.inj (Option.some.inj hk)
        exact ⟨_, set_at hi, rfl, rfl, rfl, fun e => absurd rfl e, fun _ => rfl⟩
      · rw [set_ne h2]
        exact ⟨z, hk, rfl, rfl, rfl, fun _ => rfl, fun _ => rfl⟩

theorem Near.plain (h : Near i j l l') (hI : Inv deep l) (hr : Rank deep l r) : ∀ (n k : Nat) (z : Nd), l[k]? = some (some z) → r i < r k → plainF l' n (k : Int) = plainF l n (k : Int)
  | 0, _, _, _, _ => rfl
  | n + 1, k, z, hk, hn => by
    obtain ⟨z', g1, g2, g3, g4, g5, _⟩ := h.yes k z hk
    rw [plainF_some (ndAt_of hk), plainF_some (ndAt_of g1), g2, g3, g4, g5 (fun e => by rw [e] at hn; omega)]
    congr 1
    refine List.map_congr_left fun m hm => ?_
    obtain ⟨m, u, rfl, hu, hup⟩ := hI.kid k z m hk hm
    exact h.plain hI hr n m u hu (by have := hr.up m u k hu hup; omega)
theorem Near.height (h : Near i j l l') (hI : Inv deep l) (hr : Rank deep l r) : ∀ (n k : Nat) (z : Nd), l[k]? = some (some z) → r i < r k → heightF l' n (k : Int) = heightF l n (k : Int)
  | 0, _, _, _, _ => rfl
  | n + 1, k, z, hk, hn => by
    obtain ⟨z', g1, _, _, _, g5, _⟩ := h.yes k z hk
    rw [heightS (ndAt_of hk), heightS (ndAt_of g1), g5 (fun e => by rw [e] at hn; omega)]
    refine fold_same z.kids 0 (fun m hm => ?_)
    obtain ⟨m, u, rfl, hu, hup⟩ := hI.kid k z m hk hm
    exact h.height hI hr n m u hu (by have := hr.up m u k hu hup; omega)
theorem Near.root (h : Near i j l l') (hI : Inv deep l) (hr : Rank deep l r) : ∀ (n k : Nat) (z : Nd), l[k]? = some (some z) → r k < r j → rootF l' n (k : Int) = rootF l n (k : Int)
  | 0, _, _, _, _ => rfl
  | n + 1, k, z, hk, hn => by
    obtain ⟨z', g1, _, _, _, _, g6⟩ := h.yes k z hk
    unfold rootF
    rw [(nd_some hk).2, (nd_some g1).2, g6 (fun e => by rw [e] at hn; omega)]
    rcases hI.par k z hk with hu | ⟨m, u, hu, hm, _⟩
    · rw [hu, if_pos rfl, if_pos rfl]
    · rw [hu, if_neg (by omega), if_neg (by omega)]
      exact h.root hI hr n m u hm (by have := hr.up k z m hk hu; omega)
theorem Near.depth (h : Near i j l l') (hI : Inv deep l) (hr : Rank deep l r) : ∀ (n k : Nat) (z : Nd), l[k]? = some (some z) → r k < r j → depthF l' n (k : Int) = depthF l n (k : Int)
  | 0, _, _, _, _ => rfl
  | n + 1, k, z, hk, hn => by
    obtain ⟨z', g1, _, _, _, _, g6⟩ := h.yes k z hk
    unfold depthF
    rw [(nd_some hk).1, (nd_some g1).1, if_pos rfl, if_pos rfl, (nd_some hk).2, (nd_some g1).2, g6 (fun e => by rw [e] at hn; omega)]
    rcases hI.par k z hk with hu | ⟨m, u, hu, hm, _⟩
    · rw [hu]
      cases n with
      | zero => rfl
      | succ n =>
        unfold depthF
        rw [(nd_none (nd_neg l)).1, (nd_none (nd_neg l')).1]
        rfl
    · rw [hu, h.depth hI hr n m u hm (by have := hr.up k z m hk hu; omega)]
theorem Inv.rootRank (hI : Inv deep l) (hr : Rank deep l r) : ∀ (n k : Nat) (z : Nd), l[k]? = some (some z) → ∃ m : Nat, rootF l n (k : Int) = (m : Int) ∧ r m ≤ r k
  | 0, k, _, _ => ⟨k, rfl, Nat.le_refl _⟩
  | n + 1, k, z, hk => by
    unfold rootF
    rw [(nd_some hk).2]
    rcases hI.par k z hk with hu | ⟨m, u, hu, hm, _⟩
    · rw [hu, if_pos rfl]; exact ⟨k, rfl, Nat.le_refl _⟩
    · rw [hu, if_neg (by omega)]
      obtain ⟨m2, e, h2⟩ := hI.rootRank hr n m u hm
      have := hr.up k z m hk hu
      exact ⟨m2, e, by omega⟩
theorem foldh_le {f : Int → Int} {M : Int} : ∀ (ks : List Int) (z : Int), z ≤ M → (∀ k ∈ ks, f k + 1 ≤ M) → ks.foldl (fun h k => max h (f k + 1)) z ≤ M
  | [], _, h, _ => h
  | k :: ks, z, h, hk => foldh_le ks (max z (f k + 1)) (by have := hk k (by simp); omega) (fun m hm => hk m (by simp [hm]))
theorem Inv.heightLe (hI : Inv deep l) (hr : Rank deep l r) : ∀ (n k : Nat) (z : Nd), l[k]? = some (some z) → (r k : Int) + heightF l n (k : Int) ≤ deep
  | 0, k, z, hk => by have := hr.le k z hk; show (r k : Int) + (-1) ≤ deep; omega
  | n + 1, k, z, hk => by
    rw [heightS (ndAt_of hk)]
    have h1 := foldh_le (f := fun k => heightF l n k) (M := deep - (r k : Int)) z.kids 0 (by have := hr.le k z hk; omega) (fun m hm => by
      obtain ⟨m, u, rfl, hu, hup⟩ := hI.kid k z m hk hm
      have h2 := hI.heightLe hr n m u hu
      have h3 := hr.up m u k hu hup
      omega)
    omega

theorem Like.plain (h : Like l l') : ∀ (n : Nat) (id : Int), plainF l' n id = plainF l n id
  | 0, _ => rfl
  | n + 1, id => by
    by_cases h0 : 0 ≤ id
    · obtain ⟨k, rfl⟩ : ∃ k : Nat, id = (k : Int) := ⟨id.toNat, by omega⟩
      cases e : ndAt l (k : Int) with
      | some y =>
        obtain ⟨m, e2, hm⟩ := nd_id e
        obtain rfl : k = m := by omega
        obtain ⟨y', g1, g2, g3, _, g5, g6⟩ := h.yes k y hm
        rw [plainF_some (ndAt_of hm), plainF_some (ndAt_of g1), g2, g3, g5, g6]
        congr 1
        exact List.map_congr_left fun m _ => h.plain n m
      | none =>
        have e' : ndAt l' (k : Int) = none := by
          cases e2 : ndAt l' (k : Int) with
          | none => rfl
          | some y' =>
            obtain ⟨m, e3, hm⟩ := nd_id e2
            obtain ⟨y, g, _⟩ := h.back hm
            rw [e3, ndAt_of g] at e; cases e
        rw [plainF_none e, plainF_none e']
    · have e : ndAt l id = none := by unfold ndAt; rw [if_neg h0]
      have e' : ndAt l' id = none := by unfold ndAt; rw [if_neg h0]
      rw [plainF_none e, plainF_none e']

theorem del_ins {K : List Int} {z : Int} {a : Nat} (ha : a ≤ K.length) : delZ (insZ K a z) a = K := by
  unfold delZ insZ
  have hl : (K.take a).length = a := by rw [List.length_take]; omega
  rw [List.take_append_of_le_length (by omega), List.take_take, Nat.min_self, List.drop_append, hl]
  have e : a + 1 - a = 1 := by omega
  rw [e, List.drop_of_length_le (by omega : (K.take a).length ≤ a + 1)]
  simp
theorem ins_del {K : List Int} {z : Int} {a : Nat} (ha : K[a]? = some z) : insZ (delZ K a) a z = K := by
  obtain ⟨hl, hz⟩ := List.getElem?_eq_some_iff.1 ha
  unfold delZ insZ
  have hl2 : (K.take a).length = a := by rw [List.length_take]; omega
  rw [List.take_append_of_le_length (by omega), List.take_take, Nat.min_self, List.drop_append, hl2, Nat.sub_self, List.drop_of_length_le (by omega : (K.take a).length ≤ a)]
  simp only [List.drop_zero, List.nil_append]
  rw [← hz, ← List.drop_eq_getElem_cons hl, List.take_append_drop]

/-- Put in, and taken off. -/
theorem like_there {ka : Option Addr} {kc : Nat} (hi : l[i]? = some (some x)) (hj : l[j]? = some (some y)) (hij : i ≠ j) (hu : y.up = -1) (ha : a ≤ x.kids.length) :
    Like l (removedZ (joinedZ l i x a j y ka kc) i { x with ka := ka, kc := kc, kids := insZ x.kids a j } a j { y with up := (i : Int) }) := by
  unfold removedZ joinedZ
  refine ⟨by simp only [List.length_set], fun k hk => ?_, fun k z hk => ?_⟩
  · have h1 : k ≠ j := fun e => by rw [e, hj] at hk; cases hk
    have h2 : k ≠ i := fun e => by rw [e, hi] at hk; cases hk
    rw [set_ne h1, set_ne h2, set_ne h1, set_ne h2]; exact hk
  · by_cases h1 : k = j
    · subst h1
      rw [hj] at hk
      obtain rfl := Option.some.inj (Option.some.inj hk)
      refine ⟨_, set_at (w := some { y with up := (i : Int) }) ?_, rfl, rfl, hu.symm, rfl, rfl⟩
      rw [set_ne (fun e => hij e.symm)]
      exact set_at (w := some y) (by rw [set_ne (fun e => hij e.symm)]; exact hj)
    · rw [set_ne h1]
      by_cases h2 : k = i
      · subst h2
        rw [hi] at hk
        obtain rfl := Option.some.inj (Option.some.inj hk)
        refine ⟨_, set_at (w := some { x with ka := ka, kc := kc, kids := insZ x.kids a j }) ?_, rfl, rfl, rfl, ?_, rfl⟩
        · rw [set_ne h1]; exact set_at hi
        · exact del_ins ha
      · rw [set_ne h2, set_ne h1, set_ne h2]
        exact ⟨z, hk, rfl, rfl, rfl, rfl, rfl⟩
/-- Taken off, and put in where it was. -/
theorem like_back {x' y' : Nd} {ka : Option Addr} {kc : Nat} (hi : l[i]? = some (some x)) (hj : l[j]? = some (some y)) (hij : i ≠ j) (hu : y.up = (i : Int)) (ha : x.kids[a]? = some (j : Int)) (hL : Like (removedZ l i x a j y) l') (hi' : l'[i]? = some (some x')) (hj' : l'[j]? = some (some y')) :
    Like l (joinedZ l' i x' a j y' ka kc) := by
  have hN := near_removed (a := a) hi hj hij
  have gi : (removedZ l i x a j y)[i]? = some (some { x with kids := delZ x.kids a }) := by unfold removedZ; rw [set_ne hij]; exact set_at hi
  have gj : (removedZ l i x a j y)[j]? = some (some { y with up := -1 }) := by unfold removedZ; exact set_at (w := some y) (by rw [set_ne (fun e => hij e.symm)]; exact hj)
  obtain ⟨x2, b1, b2, b3, b4, b5, b6⟩ := hL.yes i _ gi
  rw [hi'] at b1
  obtain rfl := Option.some.inj (Option.some.inj b1)
  obtain ⟨y2, c1, c2, c3, c4, c5, c6⟩ := hL.yes j _ gj
  rw [hj'] at c1
  obtain rfl := Option.some.inj (Option.some.inj c1)
  unfold joinedZ
  refine ⟨by rw [List.length_set, List.length_set, hL.len, hN.len], fun k hk => ?_, fun k z hk => ?_⟩
  · have h1 : k ≠ j := fun e => by rw [e, hj] at hk; cases hk
    have h2 : k ≠ i := fun e => by rw [e, hi] at hk; cases hk
    rw [set_ne h1, set_ne h2]; exact hL.no k (hN.no k hk)
  · by_cases h1 : k = j
    · subst h1
      rw [hj] at hk
      obtain rfl := Option.some.inj (Option.some.inj hk)
      exact ⟨_, set_at (w := some y') (by rw [set_ne (fun e => hij e.symm)]; exact hj'), c2, c3, hu.symm, c5, c6⟩
    · rw [set_ne h1]
      by_cases h2 : k = i
      · subst h2
        rw [hi] at hk
        obtain rfl := Option.some.inj (Option.some.inj hk)
        refine ⟨_, set_at hi', b2, b3, b4, ?_, b6⟩
        show insZ x'.kids a j = x.kids
        rw [b5]
        exact ins_del ha
      · rw [set_ne h2]
        obtain ⟨z', d1, d2, d3, d4, d5, d6⟩ := hN.yes k z hk
        obtain ⟨z'', e1, e2, e3, e4, e5, e6⟩ := hL.yes k z' d1
        exact ⟨z'', e1, e2.trans d2, e3.trans d3, e4.trans (d6 h1), e5.trans (d5 h2), e6.trans d4⟩

/-- What Insert asks, where the node was. -/
theorem may_back (hI : Inv deep l) (hd : deep ≤ 40) (hi : l[i]? = some (some x)) (hj : l[j]? = some (some y)) (hu : y.up = (i : Int)) (ha : x.kids[a]? = some (j : Int)) (hk : x.kids.length ≤ 2000) (hj0 : j ≠ 0) (hL : Like (removedZ l i x a j y) l') (hI' : Inv deep l') :
    ∃ x' y', MayInZ l' i a j x' y' 41 ∧ depthF l' 41 (i : Int) + 1 + heightF l' 41 (j : Int) ≤ deep := by
  obtain ⟨r, hr⟩ := hI.dep
  have hrj := hr.up j y i hj hu
  have hij : i ≠ j := fun e => by rw [e] at hrj; omega
  have hN := (near_removed (a := a) hi hj hij).like hL
  have gi : (removedZ l i x a j y)[i]? = some (some { x with kids := delZ x.kids a }) := by unfold removedZ; rw [set_ne hij]; exact set_at hi
  have gj : (removedZ l i x a j y)[j]? = some (some { y with up := -1 }) := by unfold removedZ; exact set_at (w := some y) (by rw [set_ne (fun e => hij e.symm)]; exact hj)
  obtain ⟨x', b1, b2, _, _, b5, _⟩ := hL.yes i _ gi
  obtain ⟨y', c1, _, _, c4, _⟩ := hL.yes j _ gj
  have hal := (List.getElem?_eq_some_iff.1 ha).1
  have hlen : x'.kids.length = x.kids.length - 1 := by rw [b5]; exact delZ_len hal
  have hroot := hN.root hI hr 41 i x hi (by omega)
  have hdep := hN.depth hI hr 41 i x hi (by omega)
  have hhei := hN.height hI hr 41 j y hj (by omega)
  obtain ⟨m, e, hm⟩ := hI.rootRank hr 41 i x hi
  refine ⟨x', y', ⟨b1, c1, hij, ?_, by omega, by omega, ?_, hI'.endsRa hd _, ?_, hI'.endsHa hd _, hI'.endsDa hd _, by omega⟩, ?_⟩
  · rw [b2]
    intro h0
    have := hI.txt i x hi h0
    rw [this] at ha
    cases ha
  · unfold looseT
    rw [(nd_some c1).2, c4]
    simp
    omega
  · rw [hroot, e]
    intro e2
    have : m = j := by omega
    rw [this] at hm
    omega
  · rw [hdep, hhei, (hI.endsD hr 41 i x hi (by have := hr.le i x hi; omega)).2]
    have := hI.heightLe hr 41 j y hj
    omega
end

/-- An error, and all as it was; or the node is there. -/
def InsX (B : Nat) (w : World) (p nb : Nat) (deep : Int) (l : List (Option Nd)) (pa at_ kid : Int) (e : Ending) (w' : World) : Prop :=
  (∃ c : Int, c ≠ 0 ∧ e = .returned (.int .i64 c) ∧ Below w.heap.size w w') ∨
  (e = .returned (.int .i64 0) ∧ Below B w w' ∧ ∃ (i a j : Nat) (x y : Nd) (ka : Option Addr) (kc : Nat), pa = (i : Int) ∧ at_ = (a : Int) ∧ kid = (j : Int) ∧ l[i]? = some (some x) ∧ l[j]? = some (some y) ∧ y.up = -1 ∧ i ≠ j ∧ a ≤ x.kids.length ∧
    Full B w' p nb deep (joinedZ l i x a j y ka kc) ∧ Inv deep (joinedZ l i x a j y ka kc) ∧
    ((Value.slice ka (insZ x.kids a j).length kc).ownBlock = x.ks.ownBlock ∨ ∀ b, (Value.slice ka (insZ x.kids a j).length kc).ownBlock = some b → w.heap.size ≤ b) ∧ ∀ q, q < w.heap.size → x.ks.ownBlock ≠ some q → q ≠ x.ab → q ≠ y.ab → w'.heap[q]? = w.heap[q]?)

set_option maxRecDepth 20000 in
set_option maxHeartbeats 8000000 in
theorem insert_exact (B : Nat) (w : World) (p nb : Nat) (deep : Int) (l : List (Option Nd)) (h : Full B w p nb deep l) (hI : Inv deep l) (hd : deep ≤ 40) (pa at_ kid : Int) :
    Calls Tryd.prog 15 #[.pointer (some ⟨p, 0, none⟩), .int .i64 pa, .int .i64 at_, .int .i64 kid] w (InsX B w p nb deep l pa at_ kid) := by
  have KP := Lib.hid (fun (e : Ending) (w' : World) (he : ∃ c : Int, c ≠ 0 ∧ e = .returned (.int .i64 c)) (hb : Below w.heap.size w w') => (show InsX B w p nb deep l pa at_ kid e w' from .inl (by obtain ⟨c, h1, h2⟩ := he; exact ⟨c, h1, h2, hb⟩)))
  have hnb := h.ln
  have hb1 := (Below.refl _ w).alloc (Nat.le_refl _) (.cells #[.int .i64 pa, .int .i64 kid] 3)
  have cA := ask_any _ p nb deep l (h.t.below hnb hb1) w.heap.size [pa, kid] (by simp) (fun k hk => by
    have hk2 : k = 0 ∨ k = 1 := by simp at hk; omega
    rcases hk2 with rfl | rfl <;> simp [go_sem])
  have e2 : [pa, kid].length = 2 := rfl
  rw [e2] at cA
  have HTB := fun (w1 : World) (hb : Below w.heap.size w w1) => h.t.below hnb hb
  have hnB := fun (w1 : World) (hb : Below w.heap.size w w1) => Nat.lt_of_lt_of_le hnb hb.size
  have cE := fun (w1 : World) (hb : Below w.heap.size w w1) => element_any w1 p nb deep l (HTB w1 hb) pa (hnB w1 hb)
  have HB1 := Lib.hid hb1
  by_cases hh : hasT l pa = true ∧ hasT l kid = true
  · have e1 : askT l [pa, kid] = 0 := by unfold askT; rw [if_pos]; simp [hh.1, hh.2]
    rw [e1] at cA
    obtain ⟨x, hx⟩ : ∃ x, ndAt l pa = some x := Option.isSome_iff_exists.1 hh.1
    obtain ⟨y, hy⟩ : ∃ y, ndAt l kid = some y := Option.isSome_iff_exists.1 hh.2
    obtain ⟨i, rfl, hi⟩ := nd_id hx
    obtain ⟨j, rfl, hj⟩ := nd_id hy
    by_cases ht : x.tag = 0
    · have e3 : elemT l (i : Int) = (none, 6) := by unfold elemT; rw [hx]; exact if_pos ht
      rw [e3] at cE
      unfold ndV at cE
      dsimp only at cE
      clear h hI hnb hb1 HTB hnB hh hx hy hi hj ht e1 e2 e3
      go_enter Tryd.func15, Tryd.ntmps15
      go_wp2_with (first
        | (go_at_call 44; ((with_reducible refine (cA).mono ?_); rintro e w1 ⟨rfl, rfl⟩))
        | (go_at_call 45; ((with_reducible refine (cE _ HB1.out).mono ?_); rintro e w2 ⟨rfl, hb2⟩; have hb := HB1.out.trans (hb2.mono (by simp)); clear hb2)))
      go_ret
      exact KP.out _ _ ⟨_, by decide, rfl⟩ hb
    · have e3 : elemT l (i : Int) = (some x, 0) := by unfold elemT; rw [hx]; exact if_neg ht
      rw [e3] at cE
      unfold ndV at cE
      dsimp only at cE
      have cL := fun (w1 : World) (hb : Below w.heap.size w w1) => loose_any w1 p nb deep l (HTB w1 hb) j
      have cT := fun (w1 : World) (hb : Below w.heap.size w w1) => takes_any w1 x at_ ((HTB w1 hb).yes i x hi).2
      cases hl : looseT l (j : Int) with
      | false =>
        rw [hl] at cL
        clear h hI hnb hb1 HTB hnB hh hx hy hi hj ht e1 e2 e3 hl
        go_enter Tryd.func15, Tryd.ntmps15
        go_wp2_with (first
          | (go_at_call 44; ((with_reducible refine (cA).mono ?_); rintro e w1 ⟨rfl, rfl⟩))
          | (go_at_call 45; ((with_reducible refine (cE _ HB1.out).mono ?_); rintro e w2 ⟨rfl, hb2⟩; have hb := HB1.out.trans (hb2.mono (by simp)); clear hb2))
          | (go_at_call 46; ((with_reducible refine (cL _ hb).mono ?_); rintro e w3 ⟨rfl, rfl⟩)))
        go_ret
        exact KP.out _ _ ⟨_, by decide, rfl⟩ hb
      | true =>
        rw [hl] at cL
        cases hk : takesT x at_ with
        | false =>
          rw [hk] at cT
          obtain ⟨b, hb0⟩ : ∃ b, x.ab = b := ⟨_, rfl⟩
          rw [hb0] at cE cT
          clear h hI hnb hb1 HTB hnB hh hx hy hi hj ht e1 e2 e3 hl hk hb0
          go_enter Tryd.func15, Tryd.ntmps15
          go_wp2_with (first
            | (go_at_call 44; ((with_reducible refine (cA).mono ?_); rintro e w1 ⟨rfl, rfl⟩))
            | (go_at_call 45; ((with_reducible refine (cE _ HB1.out).mono ?_); rintro e w2 ⟨rfl, hb2⟩; have hb := HB1.out.trans (hb2.mono (by simp)); clear hb2))
            | (go_at_call 46; ((with_reducible refine (cL _ hb).mono ?_); rintro e w3 ⟨rfl, rfl⟩))
            | (go_at_call 47; ((with_reducible refine (cT _ hb).mono ?_); rintro e w4 ⟨rfl, rfl⟩)))
          go_ret
          exact KP.out _ _ ⟨_, by decide, rfl⟩ hb
        | true =>
          rw [hk] at cT
          have cR := fun (w1 : World) (hb : Below w.heap.size w w1) => root_any w1 p nb deep l (HTB w1 hb) i 41 (hI.endsRa hd _)
          by_cases hr : rootF l 41 (i : Int) = (j : Int)
          · rw [hr] at cR
            have hrb : ((j : Int) == (j : Int)) = true := by simp
            obtain ⟨b, hb0⟩ : ∃ b, x.ab = b := ⟨_, rfl⟩
            rw [hb0] at cE cT
            clear h hI hnb hb1 HTB hnB hh hx hy hi hj ht e1 e2 e3 hl hk hr hb0
            go_enter Tryd.func15, Tryd.ntmps15
            go_wp2_with (first
              | (go_at_call 44; ((with_reducible refine (cA).mono ?_); rintro e w1 ⟨rfl, rfl⟩))
              | (go_at_call 45; ((with_reducible refine (cE _ HB1.out).mono ?_); rintro e w2 ⟨rfl, hb2⟩; have hb := HB1.out.trans (hb2.mono (by simp)); clear hb2))
              | (go_at_call 46; ((with_reducible refine (cL _ hb).mono ?_); rintro e w3 ⟨rfl, rfl⟩))
              | (go_at_call 47; ((with_reducible refine (cT _ hb).mono ?_); rintro e w4 ⟨rfl, rfl⟩))
              | (go_at_call 48; ((with_reducible refine (cR _ hb).mono ?_); rintro e w5 ⟨rfl, rfl⟩)))
            go_ret
            exact KP.out _ _ ⟨_, by decide, rfl⟩ hb
          · have cH := fun (w1 : World) (hb : Below w.heap.size w w1) => height_any w1 p nb deep l (HTB w1 hb) 41 (by omega) j (hI.endsHa hd _)
            have hhl := heightF_le l 41 (j : Int)
            have cF := fun (w1 : World) (hb : Below w.heap.size w w1) => fits_any w1 p nb deep l (HTB w1 hb) (hnB w1 hb) i (heightF l 41 (j : Int)) 41 (by omega) (by omega) (hI.endsDa hd _)
            have hl2 := hl
            unfold looseT at hl2
            simp only [Bool.and_eq_true, decide_eq_true_eq] at hl2
            rw [(nd_some hj).2] at hl2
            have hk2 := hk
            unfold takesT at hk2
            simp only [Bool.and_eq_true, decide_eq_true_eq] at hk2
            by_cases hf : depthF l 41 (i : Int) + 1 + heightF l 41 (j : Int) ≤ deep
            · obtain ⟨a, rfl⟩ : ∃ a : Nat, at_ = (a : Int) := ⟨at_.toNat, by omega⟩
              have hlen := hI.kidsLt hi hj hl2.2
              have hle := h.t.le
              refine (ins_but B w p nb deep l h i a j 41 x y ⟨hi, hj, fun e => hr (by subst e; exact Inv.rootN hj hl2.2), ht, by omega, by omega, hl, hI.endsRa hd _, hr, hI.endsHa hd _, hI.endsDa hd _, by omega⟩ hf).mono ?_
              rintro e w' ⟨rfl, h1, ka, kc, h2, h3, h4⟩
              exact .inr ⟨rfl, h1, i, a, j, x, y, ka, kc, rfl, rfl, rfl, hi, hj, hl2.2, (fun e => hr (by subst e; exact Inv.rootN hj hl2.2)), by omega, h2, hI.join hd hi hj ht hl2.2 (by omega) hr hf ka kc, h3, h4⟩
            · rw [decide_eq_false hf] at cF
              obtain ⟨r, hr2⟩ : ∃ r, rootF l 41 (i : Int) = r := ⟨_, rfl⟩
              rw [hr2] at cR hr
              have hrj : (r == (j : Int)) = false := by simpa using hr
              obtain ⟨z, hz⟩ : ∃ z, heightF l 41 (j : Int) = z := ⟨_, rfl⟩
              rw [hz] at cH cF
              obtain ⟨b, hb0⟩ : ∃ b, x.ab = b := ⟨_, rfl⟩
              rw [hb0] at cE cT
              clear h hI hnb hb1 HTB hnB hh hx hy hi hj ht e1 e2 e3 hl hk hl2 hk2 hhl hf hr2 hz hb0
              go_enter Tryd.func15, Tryd.ntmps15
              go_wp2_with (first
                | (go_at_call 44; ((with_reducible refine (cA).mono ?_); rintro e w1 ⟨rfl, rfl⟩))
                | (go_at_call 45; ((with_reducible refine (cE _ HB1.out).mono ?_); rintro e w2 ⟨rfl, hb2⟩; have hb := HB1.out.trans (hb2.mono (by simp)); clear hb2))
                | (go_at_call 46; ((with_reducible refine (cL _ hb).mono ?_); rintro e w3 ⟨rfl, rfl⟩))
                | (go_at_call 47; ((with_reducible refine (cT _ hb).mono ?_); rintro e w4 ⟨rfl, rfl⟩))
                | (go_at_call 48; ((with_reducible refine (cR _ hb).mono ?_); rintro e w5 ⟨rfl, rfl⟩))
                | (go_at_call 50; ((with_reducible refine (cH _ hb).mono ?_); rintro e w6 ⟨rfl, rfl⟩))
                | (go_at_call 49; ((with_reducible refine (cF _ hb).mono ?_); rintro e w7 ⟨rfl, hb7⟩; replace hb := hb.trans (hb7.mono hb.size); clear hb7)))
              go_ret
              exact KP.out _ _ ⟨_, by decide, rfl⟩ hb
  · have e1 : askT l [pa, kid] = 2 := by
      unfold askT
      rw [if_neg]
      simp only [List.all_cons, List.all_nil, Bool.and_true, Bool.and_eq_true]
      exact hh
    rw [e1] at cA
    clear h hI hnb hb1 HTB hnB hh e1 e2
    go_enter Tryd.func15, Tryd.ntmps15
    go_wp2_with (first
      | (go_at_call 44; ((with_reducible refine (cA).mono ?_); rintro e w1 ⟨rfl, rfl⟩)))
    go_ret
    exact KP.out _ _ ⟨_, by decide, rfl⟩ HB1.out

end Go.Proofs.YtdegkcibadjogaaDoor
