/-
  Places stand in one order: plain facts.
  The law's tree; the cases of OrderTotal.
  What OrderGoes needs of a tree as told: next goes through all that is within a node, and then behind it.
-/
import Derived.Test.YtggjoefhopoggaaDoorCCmp
import Derived.Test.YtggjoefhopoggaaDoorCInv
import Derived.Test.YtggjoefhopoggaaDoorCAwk
import Derived.Test.YtggjoefhopoggaaDoorCPlayed

namespace Go.Proofs.YtggjoefhopoggaaDoor
open Go.RowKit Go.Lib

/-! ### rows of numbers -/
theorem cmpZ_refl (x : Int) : cmpZ x x = 0 := by unfold cmpZ; rw [if_neg (by omega), if_neg (by omega)]
theorem cmpZ_zero {x y : Int} (h : cmpZ x y = 0) : x = y := by
  unfold cmpZ at h
  by_cases h1 : x < y
  · rw [if_pos h1] at h; omega
  · rw [if_neg h1] at h
    by_cases h2 : y < x
    · rw [if_pos h2] at h; omega
    · omega
theorem cmpZ_neg (x y : Int) : cmpZ y x = - cmpZ x y := by
  unfold cmpZ
  by_cases h1 : x < y
  · rw [if_pos h1, if_neg (by omega), if_pos h1]; try rfl
  · by_cases h2 : y < x
    · rw [if_pos h2, if_neg h1, if_pos h2]; try rfl
    · rw [if_neg h2, if_neg h1, if_neg h1, if_neg h2]; try rfl
theorem cmpZ_range (x y : Int) : -1 ≤ cmpZ x y ∧ cmpZ x y ≤ 1 := by
  unfold cmpZ
  split
  · omega
  · split <;> omega
theorem lexZ_refl : ∀ s : List Int, lexZ s s = 0
  | [] => rfl
  | x :: s => by unfold lexZ; rw [cmpZ_refl, if_pos rfl]; exact lexZ_refl s
theorem lexZ_zero : ∀ {s t : List Int}, lexZ s t = 0 → s = t
  | [], [], _ => rfl
  | [], _ :: _, h => by simp [lexZ] at h
  | _ :: _, [], h => by simp [lexZ] at h
  | x :: s, y :: t, h => by
    unfold lexZ at h
    by_cases hz : cmpZ x y = 0
    · rw [if_pos hz] at h; rw [cmpZ_zero hz, lexZ_zero h]
    · rw [if_neg hz] at h; exact absurd h hz
theorem lexZ_neg : ∀ (s t : List Int), lexZ t s = - lexZ s t
  | [], [] => rfl
  | [], _ :: _ => rfl
  | _ :: _, [] => rfl
  | x :: s, y :: t => by
    unfold lexZ
    rw [cmpZ_neg x y]
    by_cases hz : cmpZ x y = 0
    · rw [if_pos hz, if_pos (by omega)]; exact lexZ_neg s t
    · rw [if_neg hz, if_neg (by omega)]
theorem lexZ_range : ∀ (s t : List Int), -1 ≤ lexZ s t ∧ lexZ s t ≤ 1
  | [], [] => by simp [lexZ]
  | [], _ :: _ => by simp [lexZ]
  | _ :: _, [] => by simp [lexZ]
  | x :: s, y :: t => by
    unfold lexZ
    split
    · exact lexZ_range s t
    · exact cmpZ_range x y
theorem cmpZ_lt {x y : Int} : cmpZ x y < 0 ↔ x < y := by
  unfold cmpZ
  by_cases h1 : x < y
  · rw [if_pos h1]; omega
  · rw [if_neg h1]
    by_cases h2 : y < x
    · rw [if_pos h2]; omega
    · rw [if_neg h2]; omega
theorem lexZ_trans : ∀ (s t u : List Int), lexZ s t ≤ 0 → lexZ t u ≤ 0 → lexZ s u ≤ 0 ∧ (lexZ s t < 0 ∨ lexZ t u < 0 → lexZ s u < 0)
  | [], [], [], _, _ => by simp [lexZ]
  | [], [], _ :: _, _, _ => by simp [lexZ]
  | [], _ :: _, [], _, h => by simp [lexZ] at h
  | [], _ :: _, _ :: _, _, _ => by simp [lexZ]
  | _ :: _, [], _, h, _ => by simp [lexZ] at h
  | _ :: _, _ :: _, [], _, h => by simp [lexZ] at h
  | x :: s, y :: t, z :: u, h1, h2 => by
    unfold lexZ at h1 h2 ⊢
    by_cases hxy : cmpZ x y = 0
    · obtain rfl := cmpZ_zero hxy
      rw [if_pos hxy] at h1 ⊢
      by_cases hyz : cmpZ x z = 0
      · rw [if_pos hyz] at h2
        rw [if_pos hyz, if_pos hyz]
        exact lexZ_trans s t u h1 h2
      · rw [if_neg hyz] at h2
        rw [if_neg hyz, if_neg hyz]
        exact ⟨h2, fun _ => by omega⟩
    · rw [if_neg hxy] at h1 ⊢
      have l1 : x < y := cmpZ_lt.1 (by omega)
      have l3 : y ≤ z := by
        by_cases hyz : cmpZ y z = 0
        · rw [cmpZ_zero hyz]; omega
        · rw [if_neg hyz] at h2; have := cmpZ_lt.1 (show cmpZ y z < 0 by omega); omega
      have l2 : cmpZ x z < 0 := cmpZ_lt.2 (by omega)
      rw [if_neg (by omega)]
      exact ⟨by omega, fun _ => l2⟩
theorem lexZ_append : ∀ (p s t : List Int), lexZ (p ++ s) (p ++ t) = lexZ s t
  | [], _, _ => rfl
  | x :: p, s, t => by
    rw [List.cons_append, List.cons_append, lexZ, cmpZ_refl, if_pos rfl]
    exact lexZ_append p s t

/-! ### paths -/
theorem ixZ_mem (z : Int) : ∀ (l : List Int) (i : Nat), z ∈ l → ∃ k, k < l.length ∧ ixZ l z i = ((i + k : Nat) : Int) ∧ l[k]! = z
  | [], _, h => by cases h
  | x :: l, i, h => by
    unfold ixZ
    dsimp only
    by_cases hz : z = x
    · rw [if_pos hz]
      exact ⟨0, by simp, by simp, by simp [hz]⟩
    · rw [if_neg hz]
      rcases List.mem_cons.1 h with e | h
      · exact absurd e hz
      · obtain ⟨k, h1, h2, h3⟩ := ixZ_mem z l (i + 1) h
        exact ⟨k + 1, by simp; omega, by rw [h2]; congr 1; omega, by simpa using h3⟩
theorem ends_more (L : Sk) : ∀ (n : Nat) (id : Int), endsU L n id = true → upsS L (n + 1) id = upsS L n id
  | 0, id, h => by
    unfold endsU at h
    have h0 : hasS L id = false := by simpa using h
    rw [ups_none h0, ups_none h0]
  | n + 1, id, h => by
    unfold endsU at h
    rw [upsS]
    by_cases hh : hasS L id = true
    · rw [if_pos hh] at h ⊢
      rw [ends_more L n _ h]
      conv => rhs; rw [upsS, if_pos hh]
    · rw [if_neg hh]
      conv => rhs; rw [upsS, if_neg hh]
theorem findGo_snoc (L : Sk) (x : Int) : ∀ (p : List Int) (id : Int), findGo L id (p ++ [x]) = (findGo L id p).bind (fun j => findGo L j [x])
  | [], id => rfl
  | y :: p, id => by
    rw [List.cons_append, findGo]
    conv => rhs; rw [findGo]
    split
    · exact findGo_snoc L x p _
    · rfl
section
variable {deep : Int} {l : List (Option Nd)}
theorem inv_endsU (h : Inv deep l) (hd : deep ≤ 40) (id : Int) : endsU (sk l) 41 id = true := by rw [← sk_endsU]; exact h.endsDa hd id
theorem inv_short (h : Inv deep l) : ShortS (sk l) := fun id => by
  rw [← sk_told]
  unfold toldT
  cases e : ndAt l id with
  | none => decide
  | some x =>
    obtain ⟨j, _, hj⟩ := nd_id e
    exact (h.own j x hj).2
theorem ups_root {j : Nat} {y : Nd} (hj : l[j]? = some (some y)) (hu : y.up = -1) : upsS (sk l) 41 (j : Int) = [(j : Int)] := by
  have hh := (nd_some hj).1
  have hup := (nd_some hj).2
  rw [sk_has] at hh
  rw [sk_up, hu] at hup
  rw [upsS, if_pos hh, hup]
  have h0 : hasS (sk l) (-1) = false := by rw [← sk_has]; exact (nd_none (nd_neg l)).1
  rw [ups_none h0]
theorem ups_step (h : Inv deep l) (hd : deep ≤ 40) {i j : Nat} {y : Nd} (hj : l[j]? = some (some y)) (hu : y.up = (i : Int)) : upsS (sk l) 41 (j : Int) = (j : Int) :: upsS (sk l) 41 (i : Int) := by
  have hh := (nd_some hj).1
  have hup := (nd_some hj).2
  rw [sk_has] at hh
  rw [sk_up, hu] at hup
  have he := inv_endsU h hd (j : Int)
  rw [endsU, if_pos hh, hup] at he
  rw [upsS, if_pos hh, hup, ends_more _ _ _ he]
theorem index_root {j : Nat} {y : Nd} (hj : l[j]? = some (some y)) (hu : y.up = -1) : indexS (sk l) (j : Int) = -1 := by
  have hup := (nd_some hj).2
  rw [sk_up, hu] at hup
  unfold indexS
  rw [hup, sk_nd, nd_neg]
  rfl
theorem index_step {i j : Nat} {x y : Nd} (hj : l[j]? = some (some y)) (hi : l[i]? = some (some x)) (hu : y.up = (i : Int)) (hm : (j : Int) ∈ x.kids) : ∃ k : Nat, k < x.kids.length ∧ indexS (sk l) (j : Int) = (k : Int) ∧ x.kids[k]! = (j : Int) := by
  have hup := (nd_some hj).2
  rw [sk_up, hu] at hup
  obtain ⟨k, h1, h2, h3⟩ := ixZ_mem (j : Int) x.kids 0 hm
  refine ⟨k, h1, ?_, h3⟩
  unfold indexS
  rw [hup, sk_nd, ndAt_of hi]
  show ixZ x.kids (j : Int) 0 = _
  rw [h2, Nat.zero_add]
theorem path_root {j : Nat} {y : Nd} (hj : l[j]? = some (some y)) (hu : y.up = -1) : pathS (sk l) 41 (j : Int) = [] ∧ rootS (sk l) 41 (j : Int) = (j : Int) := by
  unfold pathS rootS
  rw [ups_root hj hu]
  refine ⟨?_, rfl⟩
  unfold atsS
  rw [List.filterMap_cons, index_root hj hu]
  rfl
theorem path_step (h : Inv deep l) (hd : deep ≤ 40) {i j : Nat} {x y : Nd} (hj : l[j]? = some (some y)) (hi : l[i]? = some (some x)) (hu : y.up = (i : Int)) (hm : (j : Int) ∈ x.kids) : ∃ k : Nat, k < x.kids.length ∧ x.kids[k]! = (j : Int) ∧ pathS (sk l) 41 (j : Int) = pathS (sk l) 41 (i : Int) ++ [(k : Int)] ∧ rootS (sk l) 41 (j : Int) = rootS (sk l) 41 (i : Int) := by
  obtain ⟨k, h1, h2, h3⟩ := index_step hj hi hu hm
  refine ⟨k, h1, h3, ?_, ?_⟩
  · unfold pathS atsS
    rw [ups_step h hd hj hu, List.filterMap_cons, h2, if_pos (by omega)]
    simp
  · unfold rootS
    rw [ups_step h hd hj hu]
    have hne : upsS (sk l) 41 (i : Int) ≠ [] := by
      have hh := (nd_some hi).1
      rw [sk_has] at hh
      rw [upsS, if_pos hh]
      simp
    rw [List.getLast?_cons, List.getLast?_eq_some_getLast hne]
    rfl
theorem find_path (h : Inv deep l) (hd : deep ≤ 40) : ∀ (n j : Nat) (y : Nd) (r : Nat → Nat), Rank deep l r → l[j]? = some (some y) → r j = n → findGo (sk l) (rootS (sk l) 41 (j : Int)) (pathS (sk l) 41 (j : Int)) = some (j : Int)
  | n, j, y, r, hr, hj, hn => by
    rcases h.par j y hj with hu | ⟨i, x, hu, hi, hm⟩
    · obtain ⟨e1, e2⟩ := path_root hj hu
      rw [e1, e2]; rfl
    · obtain ⟨k, h1, h2, h3, h4⟩ := path_step h hd hj hi hu hm
      have hri := hr.up j y i hj hu
      obtain ⟨n, rfl⟩ : ∃ n', n = n' + 1 := ⟨n - 1, by omega⟩
      rw [h3, h4, findGo_snoc, find_path h hd n i x r hr hi (by omega)]
      have hk : kidsS (sk l) (i : Int) = x.kids := by rw [← sk_kids]; unfold kidsT; rw [ndAt_of hi]; rfl
      show findGo (sk l) (i : Int) [(k : Int)] = some (j : Int)
      rw [findGo, hk, if_pos (by omega), Int.toNat_natCast, h2]
      rfl
theorem node_one (h : Inv deep l) (hd : deep ≤ 40) {a b : Int} (ha : hasS (sk l) a = true) (hb : hasS (sk l) b = true) (hr : rootS (sk l) 41 a = rootS (sk l) 41 b) (hp : pathS (sk l) 41 a = pathS (sk l) 41 b) : a = b := by
  obtain ⟨r, hrk⟩ := h.dep
  rw [← sk_has] at ha hb
  obtain ⟨x, hx⟩ := Option.isSome_iff_exists.1 ha
  obtain ⟨y, hy⟩ := Option.isSome_iff_exists.1 hb
  obtain ⟨j, rfl, hj⟩ := nd_id hx
  obtain ⟨k, rfl, hk⟩ := nd_id hy
  have e1 := find_path h hd _ j x r hrk hj rfl
  have e2 := find_path h hd _ k y r hrk hk rfl
  rw [hr, hp, e2] at e1
  exact (Option.some.inj e1).symm
theorem within_path (h : Inv deep l) (hd : deep ≤ 40) : ∀ (n j : Nat) (y : Nd) (r : Nat → Nat) (b : Int), Rank deep l r → l[j]? = some (some y) → r j = n → b ∈ upsS (sk l) 41 (j : Int) → b ≠ (j : Int) →
    ∃ (k : Nat) (rest : List Int), pathS (sk l) 41 (j : Int) = pathS (sk l) 41 b ++ (k : Int) :: rest ∧ k < (kidsS (sk l) b).length ∧ rootS (sk l) 41 (j : Int) = rootS (sk l) 41 b ∧ hasS (sk l) b = true
  | n, j, y, r, b, hr, hj, hn, hb, hne => by
    rcases h.par j y hj with hu | ⟨i, x, hu, hi, hm⟩
    · rw [ups_root hj hu] at hb
      exact absurd (List.mem_singleton.1 hb) hne
    · rw [ups_step h hd hj hu] at hb
      rcases List.mem_cons.1 hb with e | hb
      · exact absurd e hne
      obtain ⟨k, h1, h2, h3, h4⟩ := path_step h hd hj hi hu hm
      have hri := hr.up j y i hj hu
      have hk : kidsS (sk l) (i : Int) = x.kids := by rw [← sk_kids]; unfold kidsT; rw [ndAt_of hi]; rfl
      by_cases e : b = (i : Int)
      · subst e
        exact ⟨k, [], h3, by rw [hk]; exact h1, h4, by rw [← sk_has]; exact (nd_some hi).1⟩
      · obtain ⟨n, rfl⟩ : ∃ n', n = n' + 1 := ⟨n - 1, by omega⟩
        obtain ⟨k2, rest, g1, g2, g3, g4⟩ := within_path h hd n i x r b hr hi (by omega) hb e
        exact ⟨k2, rest ++ [(k : Int)], by rw [h3, g1]; simp, g2, by rw [h4, g3], g4⟩
theorem may_has {L : Sk} {n a : Int} (hm : mayS L n a = true) : hasS L n = true := by
  unfold mayS at hm
  rw [Bool.and_eq_true, decide_eq_true_eq, decide_eq_true_eq] at hm
  cases hh : hasS L n with
  | true => rfl
  | false =>
    have : lengthS L n = -1 := by unfold lengthS; rw [hh]; rfl
    omega
theorem cmp_true {L : Sk} {n : Nat} {a b : Int × Int} : (cmpS L n a b).2 = true ↔ (mayS L a.1 a.2 = true ∧ mayS L b.1 b.2 = true ∧ rootS L n a.1 = rootS L n b.1) := by
  unfold cmpS
  split <;> simp_all
theorem cmp_val {L : Sk} {n : Nat} {a b : Int × Int} (hc : (cmpS L n a b).2 = true) : (cmpS L n a b).1 = lexZ (wayS L n a) (wayS L n b) := by
  have := cmp_true.1 hc
  unfold cmpS
  rw [if_pos this]
theorem cmp_off {L : Sk} {n : Nat} {a b : Int × Int} (hc : (cmpS L n a b).2 = false) : (cmpS L n a b).1 = 0 := by
  unfold cmpS at hc ⊢
  split at hc
  · cases hc
  · rename_i hh; rw [if_neg hh]
theorem cmp_sym (L : Sk) (n : Nat) (a b : Int × Int) : (cmpS L n b a).2 = (cmpS L n a b).2 ∧ (cmpS L n b a).1 = - (cmpS L n a b).1 := by
  have e2 : (cmpS L n b a).2 = (cmpS L n a b).2 := by
    rw [Bool.eq_iff_iff, cmp_true, cmp_true]
    exact ⟨fun ⟨x, y, z⟩ => ⟨y, x, z.symm⟩, fun ⟨x, y, z⟩ => ⟨y, x, z.symm⟩⟩
  refine ⟨e2, ?_⟩
  cases hc : (cmpS L n a b).2 with
  | false => rw [cmp_off hc, cmp_off (e2.trans hc)]; rfl
  | true => rw [cmp_val hc, cmp_val (e2.trans hc)]; exact lexZ_neg _ _
theorem cmp_range (L : Sk) (n : Nat) (a b : Int × Int) : -1 ≤ (cmpS L n a b).1 ∧ (cmpS L n a b).1 ≤ 1 := by
  cases hc : (cmpS L n a b).2 with
  | false => rw [cmp_off hc]; omega
  | true => rw [cmp_val hc]; exact lexZ_range _ _
theorem cmp_eq (h : Inv deep l) (hd : deep ≤ 40) {a b : Int × Int} (hc : (cmpS (sk l) 41 a b).2 = true) : (cmpS (sk l) 41 a b).1 = 0 ↔ a = b := by
  rw [cmp_val hc]
  obtain ⟨h1, h2, h3⟩ := cmp_true.1 hc
  constructor
  · intro hz
    have hw := lexZ_zero hz
    unfold wayS at hw
    obtain ⟨e1, e2⟩ := List.append_inj' hw rfl
    have e3 := node_one h hd (may_has h1) (may_has h2) h3 e1
    have e4 : a.2 = b.2 := by simpa using e2
    exact Prod.ext e3 e4
  · rintro rfl
    exact lexZ_refl _
theorem cmp_trans {L : Sk} {n : Nat} {a b c : Int × Int} (h1 : (cmpS L n a b).2 = true) (h2 : (cmpS L n b c).2 = true) : (cmpS L n a c).2 = true ∧ ((cmpS L n a b).1 ≤ 0 → (cmpS L n b c).1 ≤ 0 → (cmpS L n a c).1 ≤ 0) ∧ ((cmpS L n a b).1 < 0 → (cmpS L n b c).1 ≤ 0 → (cmpS L n a c).1 < 0) := by
  obtain ⟨a1, a2, a3⟩ := cmp_true.1 h1
  obtain ⟨b1, b2, b3⟩ := cmp_true.1 h2
  have h3 : (cmpS L n a c).2 = true := cmp_true.2 ⟨a1, b2, a3.trans b3⟩
  rw [cmp_val h1, cmp_val h2, cmp_val h3]
  exact ⟨h3, fun x y => (lexZ_trans _ _ _ x y).1, fun x y => (lexZ_trans _ _ _ (by omega) y).2 (.inl x)⟩
theorem cmp_within (h : Inv deep l) (hd : deep ≤ 40) {a b : Int × Int} (hm : mayS (sk l) a.1 a.2 = true) (hw : withinS (sk l) 41 a.1 b.1 = true) (hne : a.1 ≠ b.1) :
    cmpS (sk l) 41 (b.1, 0) a = (-1, true) ∧ cmpS (sk l) 41 (b.1, lengthS (sk l) b.1) a = (1, true) := by
  have ha := may_has hm
  rw [← sk_has] at ha
  obtain ⟨x, hx⟩ := Option.isSome_iff_exists.1 ha
  obtain ⟨j, e, hj⟩ := nd_id hx
  obtain ⟨r, hr⟩ := h.dep
  unfold withinS at hw
  rw [decide_eq_true_eq, e] at hw
  obtain ⟨k, rest, g1, g2, g3, g4⟩ := within_path h hd _ j x r b.1 hr hj rfl hw (fun e2 => hne (e.trans e2.symm))
  rw [← e] at g1 g3
  have hl : lengthS (sk l) b.1 = ((kidsS (sk l) b.1).length : Int) := by
    unfold lengthS
    rw [if_pos g4, if_neg]
    intro ht
    rw [← sk_has] at g4
    obtain ⟨y, hy⟩ := Option.isSome_iff_exists.1 g4
    obtain ⟨i, ei, hi⟩ := nd_id hy
    have e3 : tagS (sk l) b.1 = y.tag := by rw [← sk_tag]; unfold tagT; rw [hy]; rfl
    have e4 : kidsS (sk l) b.1 = y.kids := by rw [← sk_kids]; unfold kidsT; rw [hy]; rfl
    rw [e4, h.txt i y hi (by rw [← e3]; exact ht)] at g2
    simp at g2
  have m0 : mayS (sk l) b.1 0 = true := by unfold mayS; rw [Bool.and_eq_true, decide_eq_true_eq, decide_eq_true_eq, hl]; omega
  have m1 : mayS (sk l) b.1 (lengthS (sk l) b.1) = true := by unfold mayS; rw [Bool.and_eq_true, decide_eq_true_eq, decide_eq_true_eq, hl]; omega
  have w0 : wayS (sk l) 41 a = pathS (sk l) 41 b.1 ++ ((k : Int) :: (rest ++ [a.2])) := by unfold wayS; rw [g1]; simp
  refine ⟨?_, ?_⟩
  · unfold cmpS
    rw [if_pos ⟨m0, hm, g3.symm⟩, w0]
    unfold wayS
    rw [lexZ_append]
    show (lexZ [(0 : Int)] ((k : Int) :: (rest ++ [a.2])), true) = (-1, true)
    by_cases hk : k = 0
    · subst hk
      rw [lexZ, if_pos (show cmpZ 0 ((0 : Nat) : Int) = 0 from cmpZ_refl 0)]
      cases rest <;> rfl
    · have : cmpZ 0 (k : Int) = -1 := by unfold cmpZ; rw [if_pos (by omega)]
      rw [lexZ, this, if_neg (by omega)]
  · unfold cmpS
    rw [if_pos ⟨m1, hm, g3.symm⟩, w0]
    unfold wayS
    rw [lexZ_append]
    have : cmpZ (lengthS (sk l) b.1) (k : Int) = 1 := by unfold cmpZ; rw [hl, if_neg (by omega), if_pos (by omega)]
    show (lexZ [lengthS (sk l) b.1] _, true) = _
    rw [lexZ, this, if_neg (by omega)]
end

end Go.Proofs.YtggjoefhopoggaaDoor

namespace Go.Proofs.YtggjoefhopoggaaDoor
open Go.RowKit Go.Lib

/-- A tree of the law's stands there. -/
def TreeOk (w : World) (p : Nat) : Prop := ∃ (deep : Int) (l : List (Option Nd)), deep ≤ 40 ∧ Inv deep l ∧ Tv w (.pointer (some ⟨p, 0, none⟩)) (sk l) ∧ l.length ≤ 2000

set_option maxRecDepth 20000 in
set_option maxHeartbeats 8000000 in
theorem otree_any (w : World) (hT : OwnT w) (c d : Int) (v : Value) (l : List Cl) (hv : ClsAt w v l) :
    Calls Tryd.prog 21 #[.int .i64 c, .int .i64 d, v] w fun e w' => Below w.heap.size w w' ∧ (e = .returned (.pointer none) ∨ ∃ p, e = .returned (.pointer (some ⟨p, 0, none⟩)) ∧ Hid (TreeOk w' p)) := by
  have cH := heavy_any w v l hv
  cases hh : heavyP l with
  | true =>
    rw [hh] at cH
    obtain ⟨a0, c0, rfl⟩ := hv.len
    clear hh hv hT
    go_enter Tryd.func21, Tryd.ntmps21
    go_wp2_with (go_at_call 41; ((with_reducible refine (cH).mono ?_); rintro e w1 ⟨rfl, hb⟩))
    go_ret
    exact ⟨hb, .inl rfl⟩
  | false =>
    rw [hh] at cH
    have cP := fun (W : World) (hb : Below w.heap.size w W) => played_any W (hT.below hb) c d v l (hv.below hb) hh
    obtain ⟨a0, c0, rfl⟩ := hv.len
    clear hh hv hT
    go_enter Tryd.func21, Tryd.ntmps21
    go_upto_region 3 with (go_at_call 41; ((with_reducible refine (cH).mono ?_); rintro e w1 ⟨rfl, hb⟩))
    go_wp2_with (go_at_call 42; ((with_reducible refine (cP _ hb).mono ?_); rintro e w3 (⟨rfl, hb3⟩ | ⟨p, rfl, hS⟩)))
    · go_ret
      exact ⟨hb.trans (hb3.mono hb.size), .inl rfl⟩
    · go_ret
      obtain ⟨_, h2, h3, h4, h5, nb, l2, h6, h7, h8⟩ := hS
      exact ⟨hb.trans (h5.mono hb.size), .inr ⟨p, rfl, Lib.hid ⟨d, l2, h2, h7, full_tv h6, by omega⟩⟩⟩

variable {deep : Int} {l : List (Option Nd)}
theorem tot_cases (h : Inv deep l) (hd : deep ≤ 40) (a b c : Int × Int) :
    (cmpS (sk l) 41 a b = (0, false) ∧ cmpS (sk l) 41 b a = (0, false)) ∨
    (mayS (sk l) a.1 a.2 = true ∧ ∃ (bc ac : Int) (z y : Bool), cmpS (sk l) 41 b c = (bc, z) ∧ cmpS (sk l) 41 a c = (ac, y) ∧
      ((a = b ∧ cmpS (sk l) 41 a b = (0, true) ∧ cmpS (sk l) 41 b a = (0, true) ∧ (z = false ∨ (z = true ∧ y = true ∧ (¬ bc ≤ 0 ∨ (bc ≤ 0 ∧ ac ≤ 0))))) ∨
       (a ≠ b ∧ cmpS (sk l) 41 a b = (1, true) ∧ cmpS (sk l) 41 b a = (-1, true) ∧ (z = false ∨ (z = true ∧ y = true))) ∨
       (a ≠ b ∧ cmpS (sk l) 41 a b = (-1, true) ∧ cmpS (sk l) 41 b a = (1, true) ∧ (z = false ∨ (z = true ∧ y = true ∧ (¬ bc ≤ 0 ∨ (bc ≤ 0 ∧ ac < 0))))))) := by
  obtain ⟨s1, s2⟩ := cmp_sym (sk l) 41 a b
  obtain ⟨r1, r2⟩ := cmp_range (sk l) 41 a b
  cases hx : (cmpS (sk l) 41 a b).2 with
  | false =>
    left
    have e := cmp_off hx
    exact ⟨Prod.ext e hx, Prod.ext (by rw [s2, e]; rfl) (s1.trans hx)⟩
  | true =>
    right
    have hm := (cmp_true.1 hx).1
    have hq := cmp_eq h hd hx
    refine ⟨hm, (cmpS (sk l) 41 b c).1, (cmpS (sk l) 41 a c).1, (cmpS (sk l) 41 b c).2, (cmpS (sk l) 41 a c).2, rfl, rfl, ?_⟩
    have T : ∀ z, (cmpS (sk l) 41 b c).2 = z → z = true → (cmpS (sk l) 41 a c).2 = true ∧ ((cmpS (sk l) 41 a b).1 ≤ 0 → (cmpS (sk l) 41 b c).1 ≤ 0 → (cmpS (sk l) 41 a c).1 ≤ 0) ∧ ((cmpS (sk l) 41 a b).1 < 0 → (cmpS (sk l) 41 b c).1 ≤ 0 → (cmpS (sk l) 41 a c).1 < 0) := fun z e ez => cmp_trans hx (e.trans ez)
    have c3 : (cmpS (sk l) 41 a b).1 = 0 ∨ (cmpS (sk l) 41 a b).1 = 1 ∨ (cmpS (sk l) 41 a b).1 = -1 := by omega
    rcases c3 with e | e | e
    · left
      refine ⟨hq.1 e, Prod.ext e hx, Prod.ext (by rw [s2, e]; rfl) (s1.trans hx), ?_⟩
      cases hz : (cmpS (sk l) 41 b c).2 with
      | false => exact .inl rfl
      | true =>
        obtain ⟨t1, t2, t3⟩ := T _ hz rfl
        refine .inr ⟨rfl, t1, ?_⟩
        by_cases hle : (cmpS (sk l) 41 b c).1 ≤ 0
        · exact .inr ⟨hle, t2 (by omega) hle⟩
        · exact .inl hle
    · right; left
      refine ⟨fun e2 => by have := hq.2 e2; omega, Prod.ext e hx, Prod.ext (by rw [s2, e]) (s1.trans hx), ?_⟩
      cases hz : (cmpS (sk l) 41 b c).2 with
      | false => exact .inl rfl
      | true => exact .inr ⟨rfl, (T _ hz rfl).1⟩
    · right; right
      refine ⟨fun e2 => by have := hq.2 e2; omega, Prod.ext e hx, Prod.ext (by rw [s2, e]; rfl) (s1.trans hx), ?_⟩
      cases hz : (cmpS (sk l) 41 b c).2 with
      | false => exact .inl rfl
      | true =>
        obtain ⟨t1, t2, t3⟩ := T _ hz rfl
        refine .inr ⟨rfl, t1, ?_⟩
        by_cases hle : (cmpS (sk l) 41 b c).1 ≤ 0
        · exact .inr ⟨hle, t3 (by omega) hle⟩
        · exact .inl hle

theorem eqPlace (a b c d : Int) (W : World) : (binOp .eql 23 (.agg #[.int .i64 a, .int .i64 b]) (.agg #[.int .i64 c, .int .i64 d])).run Tryd.prog W = .ok (.bool (decide (a = c) && decide (b = d))) W := by
  have hS : Tryd.prog.underlying 23 = some (.struct (Tryd.prog.fieldsOf 23)) := by kernel_rfl
  have hp : Tryd.prog.stoodInHeld 23 = false := by kernel_rfl
  rw [run_eql_struct, show (10000 : Nat) = 9999 + 1 from rfl, run_equalIn_agg W 9999 23 _ _ hS hp]
  simp only [Program.fieldsOf, Tryd.underlying23]
  go_simp
  by_cases k1 : a = c <;> by_cases k2 : b = d <;> simp_all

end Go.Proofs.YtggjoefhopoggaaDoor

namespace Go.Proofs.YtggjoefhopoggaaDoor
open Go.RowKit Go.Lib

variable {deep : Int} {l : List (Option Nd)}
theorem sk_node {j : Nat} {y : Nd} (hj : l[j]? = some (some y)) : hasS (sk l) (j : Int) = true ∧ upS (sk l) (j : Int) = y.up ∧ kidsS (sk l) (j : Int) = y.kids := by
  refine ⟨by rw [← sk_has]; exact (nd_some hj).1, by rw [← sk_up]; exact (nd_some hj).2, ?_⟩
  rw [← sk_kids]; unfold kidsT; rw [ndAt_of hj]; rfl
theorem down_eq (n : Nat) {j : Nat} {y : Nd} (hj : l[j]? = some (some y)) : downS (sk l) (n + 1) (j : Int) = (j : Int) :: y.kids.flatMap (downS (sk l) n) := by
  obtain ⟨h1, _, h3⟩ := sk_node hj
  rw [downS, if_pos h1, h3]
theorem kid_ne (h : Inv deep l) {j : Nat} {y : Nd} (hj : l[j]? = some (some y)) {k : Int} (hk : k ∈ y.kids) : k ≠ (j : Int) := by
  intro e
  obtain ⟨r, hr⟩ := h.dep
  obtain ⟨i, x, e2, hi, hu⟩ := h.kid j y k hj hk
  have e3 : i = j := by omega
  subst e3
  rw [hj] at hi
  injection hi with hi; injection hi with hi
  subst hi
  have := hr.up i y i hj hu
  omega
theorem next_eq (h : Inv deep l) {j : Nat} {y : Nd} (hj : l[j]? = some (some y)) : nextS (sk l) 41 41 (j : Int) = y.kids.head?.getD (behindS (sk l) 41 (j : Int)) := by
  unfold nextS
  rw [down_eq 40 hj, List.find?_cons_of_neg (by simp)]
  cases hk : y.kids with
  | nil => rfl
  | cons k ks =>
    obtain ⟨i, x, e2, hi, _⟩ := h.kid j y k hj (by rw [hk]; exact List.mem_cons_self)
    have hne := kid_ne h hj (k := k) (by rw [hk]; exact List.mem_cons_self)
    rw [List.flatMap_cons, e2, down_eq 39 hi, List.cons_append, List.find?_cons_of_pos (by rw [← e2]; simpa using hne)]
    rfl
theorem ixZ_cut (z : Int) : ∀ (p s : List Int) (i : Nat), z ∉ p → ixZ (p ++ z :: s) z i = ((i + p.length : Nat) : Int)
  | [], s, i, _ => by simp [ixZ]
  | x :: p, s, i, h => by
    have hx : x ≠ z := fun e => h (by rw [e]; exact List.mem_cons_self)
    rw [List.cons_append, ixZ]
    rw [if_neg (fun e => hx e.symm), ixZ_cut z p s (i + 1) (fun hh => h (List.mem_cons_of_mem _ hh))]
    simp only [List.length_cons]; omega
theorem nxt_kid (h : Inv deep l) {i : Nat} {x : Nd} (hi : l[i]? = some (some x)) {p s : List Int} {k : Int} (e : x.kids = p ++ k :: s) : nxtS (sk l) k = s.head? := by
  obtain ⟨j, y, e2, hj, hu⟩ := h.kid i x k hi (by rw [e]; simp)
  have hn := h.nod i x hi
  rw [e] at hn
  have hkp : k ∉ p := fun hh => by
    have := (List.nodup_append.1 hn).2.2 k hh k List.mem_cons_self
    exact this rfl
  obtain ⟨_, hup, _⟩ := sk_node hj
  obtain ⟨_, _, hks⟩ := sk_node hi
  rw [← e2, hu] at hup
  have hix : indexS (sk l) k = (p.length : Int) := by
    unfold indexS
    rw [hup, sk_nd, ndAt_of hi]
    show ixZ x.kids k 0 = _
    rw [e, ixZ_cut k p s 0 hkp]; simp
  unfold nxtS
  rw [hix, hup, hks, e]
  cases s with
  | nil => rw [if_neg (by simp)]; rfl
  | cons z s => 
    rw [if_pos (by simp; omega)]
    have e9 : ((p.length : Int) + 1).toNat = p.length + 1 := by omega
    rw [e9]
    simp
theorem behind_kid (h : Inv deep l) (hd : deep ≤ 40) {i : Nat} {x : Nd} (hi : l[i]? = some (some x)) {p s : List Int} {k : Int} (e : x.kids = p ++ k :: s) : behindS (sk l) 41 k = s.head?.getD (behindS (sk l) 41 (i : Int)) := by
  have hn := nxt_kid h hi e
  obtain ⟨j, y, e2, hj, hu⟩ := h.kid i x k hi (by rw [e]; simp)
  unfold behindS
  rw [e2, ups_step h hd hj hu, List.findSome?_cons, ← e2, hn]
  cases s.head? <;> rfl
theorem behind_root {j : Nat} {y : Nd} (hj : l[j]? = some (some y)) (hu : y.up = -1) : behindS (sk l) 41 (j : Int) = -1 := by
  unfold behindS
  rw [ups_root hj hu, List.findSome?_cons]
  have h1 : nxtS (sk l) (j : Int) = none := by
    obtain ⟨_, hup, _⟩ := sk_node hj
    unfold nxtS
    rw [index_root hj hu, hup, hu, if_neg]
    rw [← sk_kids]; unfold kidsT; rw [nd_neg]; simp
  rw [h1]; rfl

/-- From each of a row next comes to the one behind it, from the last one to z. -/
def Flow (L : Sk) : List Int → Int → Prop
  | [], _ => True
  | x :: A, z => nextS L 41 41 x = A.head?.getD z ∧ Flow L A z
theorem flow_append (L : Sk) : ∀ (A B : List Int) (z : Int), Flow L A (B.head?.getD z) → Flow L B z → Flow L (A ++ B) z
  | [], _, _, _, h => h
  | [_], _, _, h1, h2 => ⟨h1.1, h2⟩
  | _ :: y :: A, B, z, h1, h2 => ⟨h1.1, flow_append L (y :: A) B z h1.2 h2⟩

theorem flow_kids (h : Inv deep l) (hd : deep ≤ 40) {i : Nat} {x : Nd} (hi : l[i]? = some (some x)) (n : Nat) (ih : ∀ (j : Nat) (y : Nd), l[j]? = some (some y) → (j : Int) ∈ x.kids → Flow (sk l) (downS (sk l) (n + 1) (j : Int)) (behindS (sk l) 41 (j : Int))) :
    ∀ (s p : List Int), x.kids = p ++ s → Flow (sk l) (s.flatMap (downS (sk l) (n + 1))) (behindS (sk l) 41 (i : Int)) ∧ (s.flatMap (downS (sk l) (n + 1))).head? = s.head?
  | [], _, _ => ⟨trivial, rfl⟩
  | k :: s, p, e => by
    have hm : k ∈ x.kids := by rw [e]; simp
    obtain ⟨j, y, e2, hj, hu⟩ := h.kid i x k hi hm
    obtain ⟨r1, r2⟩ := flow_kids h hd hi n ih s (p ++ [k]) (by rw [e]; simp)
    have hb := behind_kid h hd hi e
    rw [List.flatMap_cons]
    refine ⟨flow_append _ _ _ _ ?_ r1, ?_⟩
    · rw [r2, ← hb, e2]
      exact ih j y hj (by rw [← e2]; exact hm)
    · rw [e2, down_eq n hj]; rfl

theorem flow_down (h : Inv deep l) (hd : deep ≤ 40) {r : Nat → Nat} (hr : Rank deep l r) : ∀ (n j : Nat) (y : Nd), l[j]? = some (some y) → deep ≤ (r j : Int) + n → Flow (sk l) (downS (sk l) (n + 1) (j : Int)) (behindS (sk l) 41 (j : Int))
  | 0, j, y, hj, hn => by
    have hk : y.kids = [] := by
      cases hk : y.kids with
      | nil => rfl
      | cons k ks =>
        obtain ⟨i, x, _, hi, hu⟩ := h.kid j y k hj (by rw [hk]; exact List.mem_cons_self)
        have h1 := hr.up i x j hi hu
        have h2 := hr.le i x hi
        omega
    rw [down_eq 0 hj, hk]
    refine ⟨?_, trivial⟩
    rw [next_eq h hj, hk]; rfl
  | n + 1, j, y, hj, hn => by
    obtain ⟨f1, f2⟩ := flow_kids h hd hj n (fun i x hi hm => by
      refine flow_down h hd hr n i x hi ?_
      obtain ⟨i2, x2, e2, hi2, hu⟩ := h.kid j y i hj hm
      have e3 : i2 = i := by omega
      subst e3
      have h1 := hr.up i2 x2 j hi2 hu
      omega) y.kids [] rfl
    rw [down_eq (n + 1) hj]
    exact ⟨by rw [next_eq h hj, f2], f1⟩
/-- From a root next goes through all, to -1. -/
theorem flow_root (h : Inv deep l) (hd : deep ≤ 40) {j : Nat} {y : Nd} (hj : l[j]? = some (some y)) (hu : y.up = -1) : Flow (sk l) (downS (sk l) 41 (j : Int)) (-1) := by
  obtain ⟨r, hr⟩ := h.dep
  rw [← behind_root hj hu]
  exact flow_down h hd hr 40 j y hj (by omega)

theorem last_more (h : Inv deep l) {r : Nat → Nat} (hr : Rank deep l r) : ∀ (n j : Nat) (y : Nd), l[j]? = some (some y) → deep ≤ (r j : Int) + n → lastS (sk l) (n + 1) (j : Int) = lastS (sk l) n (j : Int)
  | 0, j, y, hj, hn => by
    have hk : y.kids = [] := by
      cases hk : y.kids with
      | nil => rfl
      | cons k ks =>
        obtain ⟨i, x, _, hi, hu⟩ := h.kid j y k hj (by rw [hk]; exact List.mem_cons_self)
        have h1 := hr.up i x j hi hu
        have h2 := hr.le i x hi
        omega
    show (match (kidsS (sk l) (j : Int)).getLast? with | none => (j : Int) | some k => lastS (sk l) 0 k) = (j : Int)
    rw [(sk_node hj).2.2, hk]; rfl
  | n + 1, j, y, hj, hn => by
    rw [lastS, lastS, (sk_node hj).2.2]
    cases hg : y.kids.getLast? with
    | none => rfl
    | some k =>
      obtain ⟨i, x, e, hi, hu⟩ := h.kid j y k hj (List.mem_of_getLast? hg)
      have h1 := hr.up i x j hi hu
      rw [e]
      exact last_more h hr n i x hi (by omega)
theorem last_step (h : Inv deep l) (hd : deep ≤ 40) {i : Nat} {x : Nd} (hi : l[i]? = some (some x)) {p : List Int} {k : Int} (e : x.kids = p ++ [k]) : lastS (sk l) 41 (i : Int) = lastS (sk l) 41 k := by
  obtain ⟨r, hr⟩ := h.dep
  obtain ⟨j, y, e2, hj, hu⟩ := h.kid i x k hi (by rw [e]; simp)
  have h1 := hr.up j y i hj hu
  rw [lastS, (sk_node hi).2.2, e, List.getLast?_concat]
  show lastS (sk l) 40 k = _
  rw [e2]
  exact (last_more h hr 40 j y hj (by omega)).symm

theorem index_kid (h : Inv deep l) {i : Nat} {x : Nd} (hi : l[i]? = some (some x)) {p s : List Int} {k : Int} (e : x.kids = p ++ k :: s) : indexS (sk l) k = (p.length : Int) ∧ upS (sk l) k = (i : Int) := by
  obtain ⟨j, y, e2, hj, hu⟩ := h.kid i x k hi (by rw [e]; simp)
  have hn := h.nod i x hi
  rw [e] at hn
  have hkp : k ∉ p := fun hh => (List.nodup_append.1 hn).2.2 k hh k List.mem_cons_self rfl
  obtain ⟨_, hup, _⟩ := sk_node hj
  rw [← e2, hu] at hup
  refine ⟨?_, hup⟩
  unfold indexS
  rw [hup, sk_nd, ndAt_of hi]
  show ixZ x.kids k 0 = _
  rw [e, ixZ_cut k p s 0 hkp]; simp
theorem prev_first (h : Inv deep l) {i : Nat} {x : Nd} (hi : l[i]? = some (some x)) {s : List Int} {k : Int} (e : x.kids = k :: s) : prevS (sk l) 41 k = (i : Int) := by
  obtain ⟨h1, h2⟩ := index_kid h hi (p := []) e
  unfold prevS
  rw [h1, if_pos (by simp), h2]
theorem prev_next (h : Inv deep l) {i : Nat} {x : Nd} (hi : l[i]? = some (some x)) {p s : List Int} {a k : Int} (e : x.kids = p ++ a :: k :: s) : prevS (sk l) 41 k = lastS (sk l) 41 a := by
  obtain ⟨h1, h2⟩ := index_kid h hi (p := p ++ [a]) (s := s) (k := k) (by rw [e]; simp)
  unfold prevS
  rw [h1, if_neg (by simp; omega), h2, (sk_node hi).2.2, e]
  have e9 : (((p ++ [a]).length : Int) - 1).toNat = p.length := by simp
  rw [e9]
  congr 1
  simp
/-- Behind a node: ahead of that is the last within the node. -/
theorem prev_behind (h : Inv deep l) (hd : deep ≤ 40) {r : Nat → Nat} (hr : Rank deep l r) : ∀ (n j : Nat) (y : Nd), l[j]? = some (some y) → r j = n → behindS (sk l) 41 (j : Int) ≠ -1 → prevS (sk l) 41 (behindS (sk l) 41 (j : Int)) = lastS (sk l) 41 (j : Int) := by
  intro n
  induction n with
  | zero =>
    intro j y hj hn hb
    rcases h.par j y hj with hu | ⟨i, x, hu, hi, _⟩
    · exact absurd (behind_root hj hu) hb
    · have := hr.up j y i hj hu; omega
  | succ n ih =>
    intro j y hj hn hb
    rcases h.par j y hj with hu | ⟨i, x, hu, hi, hm⟩
    · exact absurd (behind_root hj hu) hb
    · have h1 := hr.up j y i hj hu
      obtain ⟨p, s, e⟩ := List.append_of_mem hm
      have hk := behind_kid h hd hi e
      cases s with
      | nil =>
        have hk2 : behindS (sk l) 41 (j : Int) = behindS (sk l) 41 (i : Int) := hk
        rw [hk2] at hb ⊢
        rw [ih i x hi (by omega) hb]
        exact last_step h hd hi e
      | cons k s =>
        have hk2 : behindS (sk l) 41 (j : Int) = k := hk
        rw [hk2]
        exact prev_next h hi e
theorem last_leaf {j : Nat} {y : Nd} (hj : l[j]? = some (some y)) (hk : y.kids = []) : lastS (sk l) 41 (j : Int) = (j : Int) := by
  show (match (kidsS (sk l) (j : Int)).getLast? with | none => (j : Int) | some k => lastS (sk l) 40 k) = (j : Int)
  rw [(sk_node hj).2.2, hk]; rfl
/-- Prev comes back from where next has come to. -/
theorem prev_of_next (h : Inv deep l) (hd : deep ≤ 40) {j : Nat} {y : Nd} (hj : l[j]? = some (some y)) (hn : nextS (sk l) 41 41 (j : Int) ≠ -1) : prevS (sk l) 41 (nextS (sk l) 41 41 (j : Int)) = (j : Int) := by
  obtain ⟨r, hr⟩ := h.dep
  rw [next_eq h hj] at hn ⊢
  cases hk : y.kids with
  | nil =>
    rw [hk] at hn
    exact (prev_behind h hd hr _ j y hj rfl hn).trans (last_leaf hj hk)
  | cons k ks => exact prev_first h hj hk
theorem prev_root {j : Nat} {y : Nd} (hj : l[j]? = some (some y)) (hu : y.up = -1) : prevS (sk l) 41 (j : Int) = -1 := by
  unfold prevS
  rw [index_root hj hu, if_pos (by decide), (sk_node hj).2.1, hu]

end Go.Proofs.YtggjoefhopoggaaDoor
