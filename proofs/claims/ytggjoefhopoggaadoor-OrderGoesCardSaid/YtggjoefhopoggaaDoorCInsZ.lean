/-
  slices.Insert of one int, anywhere.
-/
import Derived.Test.YtggjoefhopoggaaDoorCRead
import Derived.Shelf.Spec.SlicesInsert
import Derived.Lib.AppendZerosOnto
import Derived.Maps.AppendAt

namespace Go.Proofs.YtggjoefhopoggaaDoor
open Go.RowKit Go.Lib

def insZ (K : List Int) (i : Nat) (z : Int) : List Int := K.take i ++ z :: K.drop i
theorem insZ_end (K : List Int) (z : Int) : insZ K K.length z = K ++ [z] := by unfold insZ; simp
theorem cellsZ_append (l m : List Int) : cellsZ (l ++ m) = cellsZ l ++ cellsZ m := by unfold cellsZ; rw [List.map_append]
theorem cellsZ_one (l : List Int) : ∀ u ∈ cellsZ l, u.oneCell' = true := by
  intro u hu
  unfold cellsZ at hu
  obtain ⟨z, _, rfl⟩ := List.mem_map.1 hu
  rfl
/-- Stores, one behind the other. -/
def setMany : List Value → Nat → List Value → List Value
  | xs, _, [] => xs
  | xs, o, v :: vs => setMany (xs.set o v) (o + 1) vs
theorem setMany_get : ∀ (vs xs : List Value) (o j : Nat), j < xs.length → (setMany xs o vs)[j]? = if o ≤ j ∧ j < o + vs.length then vs[j - o]? else xs[j]?
  | [], xs, o, j, h => by
    rw [if_neg (by simp only [List.length_nil]; omega)]; rfl
  | v :: vs, xs, o, j, h => by
    show (setMany (xs.set o v) (o + 1) vs)[j]? = _
    rw [setMany_get vs _ _ _ (by simpa using h)]
    by_cases h1 : o = j
    · subst h1
      rw [if_neg (by omega), if_pos (by simp), List.getElem?_set, if_pos rfl, if_pos h]
      simp
    · by_cases h2 : o + 1 ≤ j ∧ j < o + 1 + vs.length
      · rw [if_pos h2, if_pos (by simp only [List.length_cons]; omega)]
        have e : j - o = (j - (o + 1)) + 1 := by omega
        rw [e, List.getElem?_cons_succ]
      · rw [if_neg h2, if_neg (by simp only [List.length_cons]; omega), List.getElem?_set, if_neg h1]
theorem setMany_len : ∀ (vs xs : List Value) (o : Nat), (setMany xs o vs).length = xs.length
  | [], _, _ => rfl
  | v :: vs, xs, o => by
    show (setMany (xs.set o v) (o + 1) vs).length = _
    rw [setMany_len vs, List.length_set]
theorem grown_refl (w : World) (r : Option Nat) : w.grownBy w r := ⟨rfl, rfl, rfl, Nat.le_refl _, fun _ _ _ => rfl⟩
theorem own_setCells {B g cap n : Nat} {e : TypeId} : ∀ (vs : List Value) (o : Nat) (w : World) (xs : List Value), w.ownsRow B e 1 (.slice (some ⟨g, 0, none⟩) n cap) n xs → (w.setCells g o vs).ownsRow B e 1 (.slice (some ⟨g, 0, none⟩) n cap) n (setMany xs o vs) ∧ w.grownBy (w.setCells g o vs) (some g)
  | [], _, w, _, h => ⟨h, grown_refl _ _⟩
  | v :: vs, o, w, xs, h => by
    obtain ⟨h1, h2⟩ := h.stored o v
    obtain ⟨h3, h4⟩ := own_setCells vs (o + 1) _ _ h1
    exact ⟨h3, h2.trans h4⟩

set_option maxRecDepth 100000 in
set_option maxHeartbeats 4000000 in
theorem sins_shift (w : World) (g cap i n q : Nat) (cs : List Value) (z : Int) (hi : i < n) (hroom : n + 1 ≤ cap) (hc63 : cap ≤ maxLen) (hcl : cs.length = n) (hqg : q ≠ g)
    (hcs : ∀ j v, cs[j]? = some v → w.cell? ⟨g, j, none⟩ = some v) (hsp : ∀ j, j < cap → (w.cell? ⟨g, j, none⟩).isSome = true) (hfz : ∀ j, w.frozen? ⟨g, j, none⟩ = false) (h1c : ∀ v ∈ cs, v.oneCell' = true)
    (hq : w.heap[q]? = some (.cells #[.int .i64 z] 3)) (hsb : w.shape? g = some (3, cap)) :
    Calls Tryd.prog 84 #[.slice (some ⟨g, 0, none⟩) n cap, .int .i64 i, .slice (some ⟨q, 0, none⟩) 1 1] w fun e w' => e = .returned (.slice (some ⟨g, 0, none⟩) (n + 1) cap) ∧ w' = (w.drew.setCells g (i + 1) (cs.drop i)).setCells g i [.int .i64 z] := by
  have hm : cap ≤ 9223372036854775807 := by unfold maxLen at hc63; omega
  have hsz : (Tryd.prog.info? 3).map (·.size) = some 1 := by
    obtain ⟨i0, hi0, h0, h1, h2⟩ := info_parts infoIntD
    rw [hi0]; simp [h1]
  have hqc : w.cell? ⟨q, 0, none⟩ = some (.int .i64 z) := by simp [World.cell?, hq]
  have hsa : w.shape? q = some (3, 1) := by simp [World.shape?, hq]
  have hfa : w.frozen? ⟨q, 0, none⟩ = false := by simp [World.frozen?, hq]
  have hfe : w.frozen? ⟨q, 1, none⟩ = false := by simp [World.frozen?, hq]
  have hov : ∀ lb cb, (callFunc 89 #[.slice (some ⟨q, 0, none⟩) 1 1, .slice (some ⟨g, i + 1, none⟩) lb cb]).run Tryd.prog w = .ok (.value (.bool false)) w := fun lb cb => by
    rw [run_callFunc_extern Tryd.func89 (by kernel_rfl) (by kernel_rfl) (by kernel_rfl) (e := Extern.SlicesOverlaps.overlaps #[24, 24] #[4]) (by kernel_rfl),
      Lib.run_overlaps_apart w 24 4 3 Tryd.underlying24 1 Tryd.sizeOf3 ⟨q, 0, none⟩ ⟨g, i + 1, none⟩ 1 1 lb cb hqg 3 3 1 cap hsa hsb (by omega) hfa hfe]
    rfl
  have hdl : (cs.drop i).length = n - i := by rw [List.length_drop, hcl]
  have hz2 : ¬ ((i : Int) = (n : Int)) := by omega
  have hw1 : IntKind.i64.wrap ((i : Int) + 1) = (i : Int) + 1 := by rw [IntKind.wrap_i64]; omega
  have hw2 : IntKind.i64.wrap ((n : Int) + 1) = (n : Int) + 1 := by rw [IntKind.wrap_i64]; omega
  have hb0 : (n : Int) + 1 ≤ (cap : Int) := by omega
  have hb1 : (0 : Int) ≤ (i : Int) + 1 := by omega
  have hb5 : (0 : Int) ≤ (n : Int) + 1 := by omega
  have hin : i ≤ n := by omega
  have htn : ((i : Int) + 1).toNat = i + 1 := by omega
  have htn2 : ((n : Int) + 1).toNat = n + 1 := by omega
  have hb2 : ¬ (cap = i + 1) := by omega
  have hb3 : (i : Int) ≤ (n : Int) + 1 := by omega
  have hb6 : (i : Int) + 1 ≤ (n : Int) + 1 := by omega
  have hb4 : ¬ (cap = i) := by omega
  have hcp1 : ∀ ty dc sc, (Builtin.copy_ #[24, 24] ty #[.slice (some ⟨g, i + 1, none⟩) (n - i) dc, .slice (some ⟨g, i, none⟩) (n + 1 - i) sc]).run Tryd.prog w.drew = .ok (goInt (cs.drop i).length) (w.drew.setCells g (i + 1) (cs.drop i)) := fun ty dc sc =>
    run_copy_cells w.drew _ _ ty 3 g (i + 1) (n - i) dc ⟨g, i, none⟩ (n + 1 - i) sc (cs.drop i) Tryd.underlying24 hsz (by rw [hdl]; simp only [Nat.min_def]; split <;> omega)
      (fun j v hj => by rw [Addr.add_lit]; exact hcs (i + j) v (by rwa [List.getElem?_drop] at hj))
      (fun j hj => hsp _ (by omega)) (fun j hj => hfz _) (fun v hv => h1c v (List.mem_of_mem_drop hv))
  obtain ⟨W1, hW1⟩ : ∃ W1, W1 = w.drew.setCells g (i + 1) (cs.drop i) := ⟨_, rfl⟩
  have hsp1 : ∀ k, k < cap → (W1.cell? ⟨g, k, none⟩).isSome = true := fun k hk => by
    rw [hW1]
    exact isSome_setCells g (cs.drop i) (i + 1) w.drew (fun j hj => by rw [hdl] at hj; exact hsp _ (by omega)) k (hsp k hk)
  have hcp2 : ∀ ty dc, (Builtin.copy_ #[24, 24] ty #[.slice (some ⟨g, i, none⟩) (n + 1 - i) dc, .slice (some ⟨q, 0, none⟩) 1 1]).run Tryd.prog W1 = .ok (goInt [Value.int .i64 z].length) (W1.setCells g i [.int .i64 z]) := fun ty dc =>
    run_copy_cells W1 _ _ ty 3 g i (n + 1 - i) dc ⟨q, 0, none⟩ 1 1 [.int .i64 z] Tryd.underlying24 hsz (by simp only [List.length_singleton, Nat.min_def]; split <;> omega)
      (fun j v hj => by
        have hj0 : j = 0 := by
          have := (List.getElem?_eq_some_iff.1 hj).1
          simpa using this
        subst hj0
        obtain rfl : Value.int .i64 z = v := by simpa using hj
        rw [Addr.add_lit, hW1, World.cell?_setCells_out g _ _ _ _ (fun h _ => absurd h hqg)]
        exact hqc)
      (fun j hj => hsp1 _ (by simp at hj; omega)) (fun j hj => by rw [hW1, World.frozen?_setCells]; exact hfz _) (fun v hv => by simp at hv; rw [hv]; rfl)
  have mixed : Tryd.prog.follows Departure.mixedOrders = true := by kernel_rfl
  rw [← hW1] at hcp1
  rw [← hW1]
  clear hsp1 hsp hcs h1c hq hqc hsa hfa hfe hsb hW1 hfz
  go_enter Tryd.func84, Tryd.ntmps84
  go_wp2_with (simp only [hov])
  go_region_law_o (refine step_copy_runI rfl _ _ 24 24 rfl _ _ (by simp [Act.eval, Act.put]) (by simp [Act.eval, Act.put]) (hcp1 _ _ _) ?_)
  go_wp2_with (at_builtin; refine wpList_copy_runI _ rfl _ _ 24 24 rfl _ _ rfl rfl (hcp2 _ _) ?_)
  go_ret
  exact ⟨rfl, rfl⟩

theorem insV_get (cs : List Value) (i : Nat) (z : Value) (hi : i ≤ cs.length) (j : Nat) : (cs.take i ++ z :: cs.drop i)[j]? = if j < i then cs[j]? else if j = i then some z else cs[j - 1]? := by
  have hl : (cs.take i).length = i := by rw [List.length_take]; omega
  by_cases h1 : j < i
  · rw [if_pos h1, List.getElem?_append_left (by omega), List.getElem?_take, if_pos h1]
  · rw [if_neg h1, List.getElem?_append_right (by omega), hl]
    by_cases h2 : j = i
    · subst h2
      rw [if_pos rfl, Nat.sub_self]; rfl
    · rw [if_neg h2]
      have e : j - i = (j - 1 - i) + 1 := by omega
      rw [e, List.getElem?_cons_succ, List.getElem?_drop]
      congr 1; omega
theorem many_shift (cs xs : List Value) (i : Nat) (z : Value) (hi : i ≤ cs.length) (hx : xs.length = cs.length + 1) (ht : ∀ j, j < i → xs[j]? = cs[j]?) : setMany (setMany xs (i + 1) (cs.drop i)) i [z] = cs.take i ++ z :: cs.drop i := by
  apply List.ext_getElem?
  intro j
  rw [insV_get cs i z hi j]
  by_cases hj : j < cs.length + 1
  · rw [setMany_get _ _ _ _ (by rw [setMany_len]; omega)]
    by_cases h1 : j < i
    · rw [if_neg (by omega), if_pos h1, setMany_get _ _ _ _ (by omega), if_neg (by omega), ht j h1]
    · rw [if_neg h1]
      by_cases h2 : j = i
      · subst h2
        rw [if_pos (by simp), if_pos rfl, Nat.sub_self]; rfl
      · rw [if_neg (by simp only [List.length_singleton]; omega), if_neg h2, setMany_get _ _ _ _ (by omega), if_pos (by rw [List.length_drop]; omega), List.getElem?_drop]
        congr 1; omega
  · rw [List.getElem?_eq_none (by rw [setMany_len, setMany_len]; omega), if_neg (by omega), if_neg (by omega), List.getElem?_eq_none (by omega)]
theorem many_move (cs xs : List Value) (i : Nat) (z : Value) (hi : i ≤ cs.length) (hx : xs.length = cs.length + 1) (ht : ∀ j, j < i → xs[j]? = cs[j]?) : setMany (setMany xs i [z]) (i + 1) (cs.drop i) = cs.take i ++ z :: cs.drop i := by
  apply List.ext_getElem?
  intro j
  rw [insV_get cs i z hi j]
  by_cases hj : j < cs.length + 1
  · rw [setMany_get _ _ _ _ (by rw [setMany_len]; omega)]
    by_cases h1 : j < i
    · rw [if_neg (by omega), if_pos h1, setMany_get _ _ _ _ (by omega), if_neg (by omega), ht j h1]
    · rw [if_neg h1]
      by_cases h2 : j = i
      · subst h2
        rw [if_neg (by omega), if_pos rfl, setMany_get _ _ _ _ (by omega), if_pos (by simp), Nat.sub_self]; rfl
      · rw [if_pos (by rw [List.length_drop]; omega), if_neg h2, List.getElem?_drop]
        congr 1; omega
  · rw [List.getElem?_eq_none (by rw [setMany_len, setMany_len]; omega), if_neg (by omega), if_neg (by omega), List.getElem?_eq_none (by omega)]

set_option maxRecDepth 100000 in
set_option maxHeartbeats 4000000 in
theorem sins_move (w : World) (g i n q : Nat) (cs : List Value) (z : Int) (hi : i < n) (hn : n ≤ 1000000) (hcl : cs.length = n) (hgl : g < w.heap.size) (hql : q < w.heap.size)
    (hcs : ∀ j v, cs[j]? = some v → w.cell? ⟨g, j, none⟩ = some v) (h1c : ∀ v ∈ cs, v.oneCell' = true) (hqc : w.cell? ⟨q, 0, none⟩ = some (.int .i64 z)) :
    Calls Tryd.prog 84 #[.slice (some ⟨g, 0, none⟩) n n, .int .i64 i, .slice (some ⟨q, 0, none⟩) 1 1] w fun e w' => ∃ cp, e = .returned (.slice (some ⟨w.heap.size, 0, none⟩) (n + 1) cp) ∧ w'.ownsRow w.heap.size 3 1 (.slice (some ⟨w.heap.size, 0, none⟩) (n + 1) cp) (n + 1) (cs.take i ++ Value.int .i64 z :: cs.drop i) ∧ Below w.heap.size w w' := by
  obtain ⟨i0, hi0, hz0, hz1, hzb⟩ := info_parts infoIntD
  have hsz : (Tryd.prog.info? 3).map (·.size) = some 1 := by rw [hi0]; simp [hz1]
  have hold : (Builtin.firstCells i0.size i (.slice (some ⟨g, 0, none⟩) i n)).run Tryd.prog w.drew = .ok (cs.take i).toArray w.drew := by
    rw [hz1]
    exact run_firstCells_some w.drew 1 i ⟨g, 0, none⟩ i n (cs.take i) (by rw [List.length_take, Nat.mul_one]; omega) (fun j v hj => by
      rw [Addr.add_lit, Nat.zero_add]
      rw [List.getElem?_take] at hj
      split at hj
      · exact hcs j v hj
      · cases hj)
  obtain ⟨cp, hcp⟩ : ∃ cp, grownCap w (n + 1) n 3 = cp := ⟨_, rfl⟩
  have hcp0 := grownCap_ge w (n + 1) n 3
  have hcpm := grownCap_le_maxLen w (n + 1) n 3 (by unfold maxLen; omega)
  rw [hcp] at hcp0 hcpm
  obtain ⟨O, hO⟩ : ∃ O : Array Value, (cs.take i).toArray ++ Builtin.zeroCells (Value.int .i64 0).cells (n + 1 - i) ++ Builtin.zeroCells (Value.int .i64 0).cells (cp - (n + 1)) = O := ⟨_, rfl⟩
  have hrz : ∀ ty, (Builtin.append_ #[24, 3] ty #[.slice (some ⟨g, 0, none⟩) i n, .int .i64 ((n : Int) + 1 - (i : Int))]).run Tryd.prog w = .ok (.slice (some ⟨w.heap.size, 0, none⟩) (n + 1) cp) (w.drew.alloc (.cells O 3)) := fun ty => by
    have h := Lib.run_append_grow_zeros w 24 3 ty 3 i0 (.int .i64 0) .i64 .i64 Tryd.underlying24 Tryd.underlying3 hi0 hz0 (some ⟨g, 0, none⟩) i n (cs.take i) hold (n + 1 - i) (by omega) (by rw [hz1]; decide) (by omega) (by omega) (by rw [hzb]; omega)
      (by
        have h1 := nextslicecap_le (need := i + (n + 1 - i)) (old := n) (by omega)
        rw [hzb]; omega)
    have e1 : i + (n + 1 - i) = n + 1 := by omega
    rw [e1, hcp, hO] at h
    rw [show (n : Int) + 1 - (i : Int) = ((n + 1 - i : Nat) : Int) by omega]
    exact h
  have hOs : O.size = cp := by
    rw [← hO, Array.size_append, Array.size_append, size_zeroCells, size_zeroCells]
    have : (Value.int .i64 0).cells.size = 1 := rfl
    rw [this]
    simp only [List.size_toArray, List.length_take]
    omega
  have hOt : ∀ j, j < i → (O.toList.take (n + 1))[j]? = cs[j]? := fun j hj => by
    rw [List.getElem?_take, if_pos (by omega), ← hO, Array.getElem?_toList, Array.append_assoc, Array.getElem?_append_left (by simp; omega)]
    simp [hj]
  have own1 : (w.drew.alloc (.cells O 3)).ownsRow w.heap.size 3 1 (.slice (some ⟨w.heap.size, 0, none⟩) (n + 1) cp) (n + 1) (O.toList.take (n + 1)) :=
    ⟨by rw [List.length_take, Array.length_toList, hOs]; omega, .inr ⟨w.heap.size, cp, O, rfl, Nat.le_refl _, heap_alloc_new w.drew _, hcp0, hcpm, by rw [hOs]; omega, by rw [Nat.mul_one]⟩⟩
  have hxl : (O.toList.take (n + 1)).length = n + 1 := by rw [List.length_take, Array.length_toList, hOs]; omega
  have hbW : Below w.heap.size w (w.drew.alloc (.cells O 3)) := (Below.refl _ w).drew.alloc (Nat.le_refl _) _
  have hcell : ∀ j, j < cp → ((w.drew.alloc (.cells O 3)).cell? ⟨w.heap.size, j, none⟩).isSome = true := fun j hj => by
    have := World.cell?_alloc_mark w.drew O 3 (0, 0) j
    rw [show (w.drew.alloc (.cells O 3)).cell? ⟨w.heap.size, j, none⟩ = O[j]? from this]
    rw [Array.getElem?_eq_getElem (by omega)]; rfl
  have hfro : ∀ j, (w.drew.alloc (.cells O 3)).frozen? ⟨w.heap.size, j, none⟩ = false := fun j => by
    refine Eq.trans (World.frozen?_alloc_mark w.drew O 3 0 0 j) ?_
    simp
  obtain ⟨W1, hW1⟩ : ∃ W1, w.drew.alloc (.cells O 3) = W1 := ⟨_, rfl⟩
  rw [hW1] at hrz own1 hbW hcell hfro
  have hdl : (cs.drop i).length = n - i := by rw [List.length_drop, hcl]
  have hcp1 : ∀ ty dc, (Builtin.copy_ #[24, 24] ty #[.slice (some ⟨w.heap.size, i, none⟩) (n + 1 - i) dc, .slice (some ⟨q, 0, none⟩) 1 1]).run Tryd.prog W1 = .ok (goInt [Value.int .i64 z].length) (W1.setCells w.heap.size i [.int .i64 z]) := fun ty dc =>
    run_copy_cells W1 _ _ ty 3 w.heap.size i (n + 1 - i) dc ⟨q, 0, none⟩ 1 1 [.int .i64 z] Tryd.underlying24 hsz (by simp only [List.length_singleton, Nat.min_def]; split <;> omega)
      (fun j v hj => by
        have hj0 : j = 0 := by
          have := (List.getElem?_eq_some_iff.1 hj).1
          simpa using this
        subst hj0
        obtain rfl : Value.int .i64 z = v := by simpa using hj
        rw [Addr.add_lit]
        exact (hbW.cell (p := ⟨q, 0, none⟩) hql).trans hqc)
      (fun j hj => hcell _ (by simp at hj; omega)) (fun j hj => hfro _) (fun v hv => by simp at hv; rw [hv]; rfl)
  obtain ⟨own2, _⟩ := own_setCells [Value.int .i64 z] i W1 _ own1
  have hb2 : Below w.heap.size w (W1.setCells w.heap.size i [.int .i64 z]) := hbW.setCell (p := ⟨w.heap.size, i, none⟩) (Nat.le_refl _) _
  have hcell2 : ∀ j, j < cp → ((W1.setCells w.heap.size i [.int .i64 z]).cell? ⟨w.heap.size, j, none⟩).isSome = true := fun j hj =>
    isSome_setCells w.heap.size [.int .i64 z] i W1 (fun k hk => hcell _ (by simp at hk; omega)) j (hcell j hj)
  have hfro2 : ∀ j, (W1.setCells w.heap.size i [.int .i64 z]).frozen? ⟨w.heap.size, j, none⟩ = false := fun j => by rw [World.frozen?_setCells]; exact hfro j
  obtain ⟨W2, hW2⟩ : ∃ W2, W1.setCells w.heap.size i [.int .i64 z] = W2 := ⟨_, rfl⟩
  rw [hW2] at hcp1 own2 hb2 hcell2 hfro2
  have hcp2 : ∀ ty dc sc, (Builtin.copy_ #[24, 24] ty #[.slice (some ⟨w.heap.size, i + 1, none⟩) (n - i) dc, .slice (some ⟨g, i, none⟩) (n - i) sc]).run Tryd.prog W2.drew = .ok (goInt (cs.drop i).length) (W2.drew.setCells w.heap.size (i + 1) (cs.drop i)) := fun ty dc sc =>
    run_copy_cells W2.drew _ _ ty 3 w.heap.size (i + 1) (n - i) dc ⟨g, i, none⟩ (n - i) sc (cs.drop i) Tryd.underlying24 hsz (by rw [hdl]; simp only [Nat.min_def]; split <;> omega)
      (fun j v hj => by
        rw [Addr.add_lit]
        rw [List.getElem?_drop] at hj
        exact (hb2.cell (p := ⟨g, i + j, none⟩) hgl).trans (hcs _ _ hj))
      (fun j hj => hcell2 _ (by rw [hdl] at hj; omega)) (fun j hj => hfro2 _) (fun v hv => h1c v (List.mem_of_mem_drop hv))
  obtain ⟨own3, hg3⟩ := own_setCells (cs.drop i) (i + 1) W2.drew _ (show W2.drew.ownsRow w.heap.size 3 1 (.slice (some ⟨w.heap.size, 0, none⟩) (n + 1) cp) (n + 1) (setMany (O.toList.take (n + 1)) i [Value.int .i64 z]) from own2)
  rw [many_move cs _ i _ (by omega) (by rw [hxl, hcl]) hOt] at own3
  have hb3 : Below w.heap.size w (W2.drew.setCells w.heap.size (i + 1) (cs.drop i)) := hb2.drew.grown hg3 hb2.size (fun k e => by cases e; exact Nat.le_refl _)
  obtain ⟨W3, hW3⟩ : ∃ W3, W2.drew.setCells w.heap.size (i + 1) (cs.drop i) = W3 := ⟨_, rfl⟩
  rw [hW3] at hcp2 own3 hb3
  have hz2 : ¬ ((i : Int) = (n : Int)) := by omega
  have hw1 : IntKind.i64.wrap ((i : Int) + 1) = (i : Int) + 1 := by rw [IntKind.wrap_i64]; omega
  have hw2 : IntKind.i64.wrap ((n : Int) + 1) = (n : Int) + 1 := by rw [IntKind.wrap_i64]; omega
  have hw3 : IntKind.i64.wrap ((n : Int) + 1 - (i : Int)) = (n : Int) + 1 - (i : Int) := by rw [IntKind.wrap_i64]; omega
  have hb0 : (n : Int) < (n : Int) + 1 := by omega
  have hb1 : (0 : Int) ≤ (i : Int) + 1 := by omega
  have hin : i ≤ n := by omega
  have hin2 : i ≤ cp := by omega
  have htn : ((i : Int) + 1).toNat = i + 1 := by omega
  have hb6 : (i : Int) + 1 ≤ (n : Int) + 1 := by omega
  have hb7 : (i : Int) ≤ (n : Int) + 1 := by omega
  have hb8 : (i : Int) ≤ (n : Int) := by omega
  have hb2' : ¬ (cp = i + 1) := by omega
  have hb4 : ¬ (cp = i) := by omega
  have hb9 : ¬ (n = i) := by omega
  have OW := Lib.hid own3
  have HB3 := Lib.hid hb3
  have mixed : Tryd.prog.follows Departure.mixedOrders = true := by kernel_rfl
  clear hcell hcell2 hfro hfro2 own1 own2 own3 hb3 hg3 hbW hb2 hW1 hW2 hW3 hOt hOs hO hcp hold hcs h1c hqc hxl hi0 hz0 hz1 hzb
  go_enter Tryd.func84, Tryd.ntmps84
  go_wp2_with (first
    | (at_builtin; refine Lib.wpList_append_run _ rfl _ _ _ _ rfl _ _ rfl rfl _ _ (hrz _) ?_)
    | (at_builtin; refine wpList_copy_runI _ rfl _ _ 24 24 rfl _ _ rfl rfl (hcp1 _ _) ?_))
  go_region_law_o (refine step_copy_runI rfl _ _ 24 24 rfl _ _ (by simp [Act.eval, Act.put]) (by simp [Act.eval, Act.put]) (hcp2 _ _ _) ?_)
  go_wp2
  go_ret
  exact ⟨cp, rfl, OW.out, HB3.out⟩

theorem own_mono {w : World} {B B' n : Nat} {e : TypeId} {v : Value} {xs : List Value} (h : w.ownsRow B e 1 v n xs) (hB : B' ≤ B) : w.ownsRow B' e 1 v n xs := by
  refine ⟨h.1, ?_⟩
  rcases h.2 with h2 | ⟨g, cap, cur, h0, h1, h2⟩
  · exact .inl h2
  · exact .inr ⟨g, cap, cur, h0, Nat.le_trans hB h1, h2⟩
theorem grown_below {w w' : World} {r : Option Nat} (h : Below w.heap.size w w') : w.grownBy w' r := ⟨h.os, h.tape, h.output, h.size, fun k hk _ => h.block k hk⟩
/-- A slice of ints of one's own, and of one block: the same, or a new one. -/
def InsPost (B : Nat) (v : Value) (K : List Int) (w : World) (e : Ending) (w' : World) : Prop :=
  ∃ v', e = .returned v' ∧ w'.ownsRow B 3 1 v' K.length (cellsZ K) ∧ w.grownBy w' v.ownBlock ∧ (v'.ownBlock = v.ownBlock ∨ v'.ownBlock = some w.heap.size)
set_option maxRecDepth 100000 in
set_option maxHeartbeats 4000000 in
theorem sins_any (B : Nat) (w : World) (v : Value) (K : List Int) (i q : Nat) (z : Int) (hown : w.ownsRow B 3 1 v K.length (cellsZ K)) (hB : B ≤ w.heap.size) (hi : i ≤ K.length) (hl : K.length ≤ 2000)
    (hq : w.heap[q]? = some (.cells #[.int .i64 z] 3)) (hqv : v.ownBlock ≠ some q) :
    Calls Tryd.prog 84 #[v, .int .i64 i, .slice (some ⟨q, 0, none⟩) 1 1] w (InsPost B v (insZ K i z) w) := by
  have hqc : w.cell? ⟨q, 0, none⟩ = some (.int .i64 z) := by simp [World.cell?, hq]
  have hql : q < w.heap.size := (Array.getElem?_eq_some_iff.1 hq).1
  have hil : (insZ K i z).length = K.length + 1 := by unfold insZ; simp; omega
  have hcI : cellsZ (insZ K i z) = (cellsZ K).take i ++ Value.int .i64 z :: (cellsZ K).drop i := by unfold insZ cellsZ; simp
  unfold InsPost
  rw [hil, hcI]
  have hcl := cellsZ_length K
  have hone := cellsZ_one K
  obtain ⟨cs, hcs⟩ : ∃ cs, cellsZ K = cs := ⟨_, rfl⟩
  rw [hcs] at hown hcl hone ⊢
  obtain ⟨n, hn⟩ : ∃ n, K.length = n := ⟨_, rfl⟩
  rw [hn] at hown hcl hi hl ⊢
  clear hil hcI hcs hn
  by_cases hin : i = n
  · subst hin
    have e1 : cs.take i ++ Value.int .i64 z :: cs.drop i = cs ++ [Value.int .i64 z] := by rw [List.take_of_length_le (by omega), List.drop_of_length_le (by omega)]
    rw [e1]
    obtain ⟨i0, hi0, hz0, hz1, hz2⟩ := info_parts infoIntD
    obtain ⟨a, cp, rfl, hcp⟩ : ∃ a cp, v = .slice a i cp ∧ i ≤ cp := by
      rcases hown.2 with ⟨e, h0⟩ | ⟨g, cap, cur, e, _, _, hnc, _⟩
      · exact ⟨none, 0, by rw [e, h0], by omega⟩
      · exact ⟨_, cap, e, hnc⟩
    have HQ := Lib.hid hqc
    have HO := Lib.hid hown
    have hob : ∀ c, (Value.slice a i c).ownBlock = (Value.slice a i cp).ownBlock := fun c => by cases a <;> rfl
    clear hown hq hqc hone e1
    go_enter Tryd.func84, Tryd.ntmps84
    go_wp2_with (at_builtin; refine wpList_append_own_at _ rfl _ _ 24 rfl B 3 i0 _ 1 8 Tryd.underlying24 hi0 hz0 hz1 hz2 rfl (by decide) _ _ _ rfl HO.out ⟨q, 0, none⟩ 1 1 [.int .i64 z] rfl (by simp) (by
      intro j u hu
      have hj : j = 0 := by
        have := (List.getElem?_eq_some_iff.1 hu).1
        simpa using this
      subst hj
      obtain rfl : Value.int .i64 z = u := by simpa using hu
      exact HQ.out) (by simp [Value.oneCell']) (by unfold maxLen; omega) (by omega) hB ?_; intro v' w1 hown' hgrow _ hat; have hgrow2 : w.grownBy w1 (Value.slice a i cp).ownBlock := hgrow; have hat2 : v'.ownBlock = (Value.slice a i cp).ownBlock ∨ v'.ownBlock = some w.heap.size := hat; clear hgrow hat)
    all_goals go_ret
    all_goals first | exact ⟨v', rfl, hown', hgrow2, hat2⟩ | (rw [hob i]; exact ⟨v', rfl, hown', hgrow2, hat2⟩)
  · have hlt : i < n := by omega
    rcases hown.2 with ⟨_, h0⟩ | ⟨g, cap, cur, rfl, hBg, hg, hnc, hcm, hcz, ht⟩
    · omega
    · have hgl : g < w.heap.size := (Array.getElem?_eq_some_iff.1 hg).1
      have hqg : q ≠ g := fun e => hqv (by rw [e]; rfl)
      have hcells : ∀ j u, cs[j]? = some u → w.cell? ⟨g, j, none⟩ = some u := fun j u hj => by
        rw [← ht, List.getElem?_take] at hj
        split at hj
        · simp only [World.cell?, hg]
          rw [Array.getElem?_toList] at hj
          simpa using hj
        · cases hj
      by_cases hroom : n + 1 ≤ cap
      · have hsp : ∀ j, j < cap → (w.cell? ⟨g, j, none⟩).isSome = true := fun j hj => by
          simp only [World.cell?, hg]
          rw [show cur[j]? = some cur[j] from Array.getElem?_eq_getElem (by omega)]
          rfl
        have hfz : ∀ j, w.frozen? ⟨g, j, none⟩ = false := fun j => by simp [World.frozen?, hg]
        have hsb : w.shape? g = some (3, cap) := by simp [World.shape?, hg]; omega
        refine (sins_shift w g cap i n q cs z hlt hroom hcm hcl hqg hcells hsp hfz hone hq hsb).mono ?_
        rintro e w' ⟨rfl, rfl⟩
        have hxl : (cur.toList.take (n + 1)).length = n + 1 := by rw [List.length_take, Array.length_toList]; omega
        have own1 : w.drew.ownsRow B 3 1 (.slice (some ⟨g, 0, none⟩) (n + 1) cap) (n + 1) (cur.toList.take (n + 1)) :=
          ⟨by rw [hxl, Nat.mul_one], .inr ⟨g, cap, cur, rfl, hBg, hg, hroom, hcm, hcz, by rw [Nat.mul_one]⟩⟩
        obtain ⟨own2, gr2⟩ := own_setCells (cs.drop i) (i + 1) w.drew _ own1
        obtain ⟨own3, gr3⟩ := own_setCells [Value.int .i64 z] i _ _ own2
        rw [many_shift cs _ i _ (by omega) (by rw [hxl, hcl]) (fun j hj => by
          rw [List.getElem?_take, if_pos (by omega), ← ht, List.getElem?_take, if_pos (by omega)])] at own3
        have gr1 : w.grownBy w.drew (some g) := ⟨rfl, rfl, rfl, Nat.le_refl _, fun _ _ _ => rfl⟩
        exact ⟨_, rfl, own3, (gr1.trans gr2).trans gr3, .inl rfl⟩
      · obtain rfl : cap = n := by omega
        refine (sins_move w g i cap q cs z hlt (by omega) hcl hgl hql hcells hone hqc).mono ?_
        rintro e w' ⟨cp, rfl, own, hb⟩
        exact ⟨_, rfl, own_mono own hB, grown_below hb, .inr rfl⟩

end Go.Proofs.YtggjoefhopoggaaDoor
