/-
  A new tree: bare, New; a node is put.
-/
import Derived.Test.YtggjoefhopoggaaDoorCUp
import Derived.Laws.MakeOwn
import Derived.Deep.RegionHeld3

namespace Go.Proofs.YtggjoefhopoggaaDoor
open Go.RowKit Go.Lib

theorem made_nil (n j : Nat) (h : j < n) : (madeCells #[Value.pointer none] n)[j]? = some (.pointer none) := by
  unfold madeCells
  rw [Array.getElem?_map, Array.getElem?_range, if_pos h]
  simp [Nat.mod_one]
theorem infoPtr : (Tryd.prog.info? 62).map (fun i => (i.zero, i.size, i.bytes)) = some (some (.pointer none), 1, 8) := by kernel_rfl
/-- A tree that has no node. -/
theorem bare_tree (w : World) (c : Nat) (deep : Int) (hc : c ≤ 2000) : TreeAt ((w.alloc (.cells (madeCells #[Value.pointer none] c) 62)).alloc (.cells #[.pointer (some ⟨w.heap.size + 1, 0, none⟩), .slice (some ⟨w.heap.size, 0, none⟩) c c, .int .i64 deep] 77)) (w.heap.size + 1) w.heap.size deep (List.replicate c none) := by
  have hs : (w.alloc (.cells (madeCells #[Value.pointer none] c) 62)).heap.size = w.heap.size + 1 := by simp
  refine ⟨?_, ?_, ?_, by simpa using hc, fun i hi => ?_, fun i x hi => ?_, fun i => ?_⟩
  · simp [go_sem]
  · simp [go_sem]
  · simp [go_sem]
  · have hi2 : i < c := by
      have := (List.getElem?_eq_some_iff.1 hi).1
      simpa using this
    have hb : Below (w.heap.size + 1) (w.alloc (.cells (madeCells #[Value.pointer none] c) 62)) ((w.alloc (.cells (madeCells #[Value.pointer none] c) 62)).alloc (.cells #[.pointer (some ⟨w.heap.size + 1, 0, none⟩), .slice (some ⟨w.heap.size, 0, none⟩) c c, .int .i64 deep] 77)) := (Below.refl _ _).alloc (by rw [hs]; exact Nat.le_refl _) _
    rw [World.cell?_of_block (hb.block w.heap.size (Nat.lt_succ_self _))]
    refine Eq.trans (World.cell?_alloc_mark w (madeCells #[Value.pointer none] c) 62 (0, 0) i) ?_
    exact made_nil c i hi2
  · have := List.getElem?_replicate (a := (none : Option Nd)) (n := c) (i := i)
    rw [hi] at this
    split at this <;> simp at this
  · have hb : Below (w.heap.size + 1) (w.alloc (.cells (madeCells #[Value.pointer none] c) 62)) ((w.alloc (.cells (madeCells #[Value.pointer none] c) 62)).alloc (.cells #[.pointer (some ⟨w.heap.size + 1, 0, none⟩), .slice (some ⟨w.heap.size, 0, none⟩) c c, .int .i64 deep] 77)) := (Below.refl _ _).alloc (by rw [hs]; exact Nat.le_refl _) _
    rw [World.frozen?_of_block (hb.block w.heap.size (Nat.lt_succ_self _))]
    refine Eq.trans (World.frozen?_alloc_mark w (madeCells #[Value.pointer none] c) 62 0 0 i) ?_
    simp

set_option maxRecDepth 20000 in
theorem bare_any (w : World) (c : Nat) (deep : Int) (hc : c ≤ 2000) :
    Calls Tryd.prog 63 #[.int .i64 c, .int .i64 deep] w fun e w' => e = .returned (.pointer (some ⟨w.heap.size + 1, 0, none⟩)) ∧ w'.heap.size = w.heap.size + 2 ∧ Below w.heap.size w w' ∧ TreeAt w' (w.heap.size + 1) w.heap.size deep (List.replicate c none) := by
  have HT := Lib.hid (bare_tree w c deep hc)
  obtain ⟨i, hi, hz0, hz1, hz2⟩ := info_parts infoPtr
  have hm := run_make (P := Tryd.prog) w 75 62 i _ Tryd.underlying75 hi hz0 .i64 .i64 c c (by omega) (Int.le_refl _) (by rw [hz2]; omega) (by omega)
  have e1 : (Value.pointer none).cells = #[Value.pointer none] := rfl
  rw [hz1, Nat.mul_one, Int.toNat_natCast, e1] at hm
  clear hi hz0 hz1 hz2 e1
  go_enter Tryd.func63, Tryd.ntmps63
  go_wp2
  trace_state
  go_ret
  exact ⟨rfl, by simp, ((Below.refl _ w).alloc (Nat.le_refl _) _).alloc (by simp) _, HT.out⟩

/-! ### a node is put -/
theorem NodeAt.set {w : World} {x : Nd} (h : NodeAt w x) {q : Addr} (h1 : q.block ≠ x.ab) (h2 : ∀ b o, x.ka = some ⟨b, o, none⟩ → x.kids ≠ [] → b ≠ q.block) (u : Value) : NodeAt (w.setCell q u) x := by
  have hc : ∀ j, (w.setCell q u).cell? ⟨x.ab, j, none⟩ = w.cell? ⟨x.ab, j, none⟩ := fun j => World.cell?_setCell_far w q _ u h1
  refine ⟨(hc 0).trans h.c0, (hc 1).trans h.c1, (hc 2).trans h.c2, (hc 3).trans h.c3, (hc 4).trans h.c4, (hc 5).trans h.c5, fun j => by rw [World.frozen?_setCell]; exact h.f j, ?_, h.kl⟩
  rcases h.ks with hk | ⟨b, o, e, hk⟩
  · exact .inl hk
  · by_cases h0 : x.kids = []
    · exact .inl h0
    · have hb := h2 b o e h0
      exact .inr ⟨b, o, e, fun j hj => (World.cell?_setCell_far w q _ u (fun e => hb e.symm)).trans (hk j hj)⟩
theorem TreeAt.put {w : World} {p nb : Nat} {deep : Int} {l : List (Option Nd)} (h : TreeAt w p nb deep l) (ha : Apart p nb l) {k : Nat} (hk : k < l.length) (x : Nd) (hx : NodeAt w x) (h1 : nb ≠ x.ab) (h2 : ∀ b o, x.ka = some ⟨b, o, none⟩ → x.kids ≠ [] → b ≠ nb) :
    TreeAt (w.setCell ⟨nb, k, none⟩ (.pointer (some ⟨x.ab, 0, none⟩))) p nb deep (l.set k (some x)) := by
  have hp : ∀ j, (w.setCell ⟨nb, k, none⟩ (.pointer (some ⟨x.ab, 0, none⟩))).cell? ⟨p, j, none⟩ = w.cell? ⟨p, j, none⟩ := fun j => World.cell?_setCell_far w _ _ _ (fun e => ha.pn e.symm)
  have hsome : ∃ v, w.cell? ⟨nb, k, none⟩ = some v := by
    cases hy : l[k] with
    | none => exact ⟨_, h.no k (by rw [List.getElem?_eq_getElem hk, hy])⟩
    | some y => exact ⟨_, (h.yes k y (by rw [List.getElem?_eq_getElem hk, hy])).1⟩
  obtain ⟨v, hv⟩ := hsome
  have hn : ∀ i, i ≠ k → (w.setCell ⟨nb, k, none⟩ (.pointer (some ⟨x.ab, 0, none⟩))).cell? ⟨nb, i, none⟩ = w.cell? ⟨nb, i, none⟩ := fun i hi => World.cell?_setCell_other _ _ _ _ (fun e => hi (congrArg Addr.off e).symm)
  refine ⟨(hp 0).trans h.c0, ?_, (hp 2).trans h.c2, by rw [List.length_set]; exact h.le, fun i hi => ?_, fun i y hi => ?_, fun i => by rw [World.frozen?_setCell]; exact h.f i⟩
  · rw [List.length_set]; exact (hp 1).trans h.c1
  · rw [List.getElem?_set] at hi
    split at hi
    · rename_i e
      subst e
      cases hi
    · rename_i e
      rw [hn i (fun e2 => e e2.symm)]
      exact h.no i hi
  · rw [List.getElem?_set] at hi
    split at hi
    · rename_i e
      subst e
      obtain rfl : x = y := by simpa using hi
      exact ⟨World.cell?_setCell_same _ _ _ hv, hx.set h1 h2 _⟩
    · rename_i e
      rw [hn i (fun e2 => e e2.symm)]
      obtain ⟨y1, y2⟩ := h.yes i y hi
      exact ⟨y1, y2.set (fun e => (ha.pa i y hi).2 e.symm) (fun b o e1 e2 => (ha.ka i y b o hi e1 e2).2.1) _⟩

/-- The host's node. -/
def nd0 (b : Nat) : Nd := ⟨b, 1, none, 0, 0, ⟨#[]⟩, -1, none, 0, [], []⟩
theorem apart_none (p nb c : Nat) (h : p ≠ nb) : Apart p nb (List.replicate c none) := by
  have hn : ∀ (i : Nat) (x : Nd), (List.replicate c (none : Option Nd))[i]? ≠ some (some x) := fun i x hi => by
    rw [List.getElem?_replicate] at hi
    split at hi <;> simp at hi
  exact ⟨h, fun i x hi => absurd hi (hn i x), fun i j x y hi => absurd hi (hn i x), fun i x b o hi => absurd hi (hn i x)⟩
set_option maxRecDepth 20000 in
set_option maxHeartbeats 4000000 in
theorem new_any (w : World) (c : Nat) (deep : Int) (hc0 : 1 ≤ c) (hc : c ≤ 2000) (hd0 : 0 ≤ deep) (hd : deep ≤ 40) :
    Calls Tryd.prog 45 #[.int .i64 c, .int .i64 deep] w fun e w' => e = .returned (.tuple #[.pointer (some ⟨w.heap.size + 1, 0, none⟩), .int .i64 0]) ∧ w'.heap.size = w.heap.size + 3 ∧ Below w.heap.size w w' ∧ TreeAt w' (w.heap.size + 1) w.heap.size deep ((List.replicate c none).set 0 (some (nd0 (w.heap.size + 2)))) := by
  have cB := bare_any w c deep hc
  have hcI : (1 : Int) ≤ (c : Int) := by omega
  have hcJ : (c : Int) ≤ 2000 := by omega
  go_enter Tryd.func45, Tryd.ntmps45
  go_upto_region 4 with (go_at_call 63; ((with_reducible refine (cB).mono ?_); rintro e w1 ⟨rfl, hs, hb, HT⟩))
  have c1 := HT.c1
  have c0 := HT.no 0 (by rw [List.getElem?_replicate, if_pos (by omega)])
  have hf := HT.f 0
  rw [List.length_replicate] at c1
  have HP : Hid (∀ o, NodeAt (w1.alloc o) (nd0 (w.heap.size + 2)) → TreeAt ((w1.setCell ⟨w.heap.size, 0, none⟩ (.pointer (some ⟨w.heap.size + 2, 0, none⟩))).alloc o) (w.heap.size + 1) w.heap.size deep ((List.replicate c none).set 0 (some (nd0 (w.heap.size + 2))))) := Lib.hid (fun o hN => by rw [← World.setCell_alloc_past o w.heap.size 0 _ (by rw [hs]; omega)]; exact TreeAt.put (HT.below (by rw [hs]; omega) ((Below.refl _ _).alloc (Nat.le_refl _) o)) (apart_none _ _ _ (by omega)) (by rw [List.length_replicate]; omega) (nd0 (w.heap.size + 2)) hN (by show w.heap.size ≠ w.heap.size + 2; omega) (fun b o e => by cases e))
  have HB := Lib.hid hb
  clear HT hb cB
  go_wp2
  go_ret2
  exact ⟨rfl, by simp [hs], ((HB.out.setCell (p := ⟨w.heap.size, 0, none⟩) (Nat.le_refl _) _).alloc (by simp [hs]) _), HP.out _ ⟨by simp [go_sem, nd0, hs], by simp [go_sem, nd0, hs], by simp [go_sem, nd0, hs], by simp [go_sem, nd0, hs], by simp [go_sem, nd0, hs], by simp [go_sem, nd0, hs], fun j => by simp [go_sem, nd0, hs], .inl rfl, by simp [nd0]⟩⟩

end Go.Proofs.YtggjoefhopoggaaDoor
