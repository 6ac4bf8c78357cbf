/-
  A new tree: bare, New; a node is put.
  A node more: add, Element, Text.
-/
import Derived.Test.YtggjoefhopoggaaDoorCUp
import Derived.Laws.MakeOwn
import Derived.Deep.RegionHeld3

namespace Go.Proofs.YtggjoefhopoggaaDoor
open Go.RowKit Go.Lib

theorem made_nil (n j : Nat) (h : j < n) : (madeCells #[Value.pointer none] n)[j]? = some (.pointer none) := by
  unfold madeCells
  rw [Array.getElem?_map, Array.getElem?_range, if_pos h]
  simp [Nat.mod_one]
theorem infoPtr : (Tryd.prog.info? 62).map (fun i => (i.zero, i.size, i.bytes)) = some (some (.pointer none), 1, 8) := by kernel_rfl
/-- A tree that has no node. -/
theorem bare_tree (w : World) (c : Nat) (deep : Int) (hc : c ≤ 2000) : TreeAt ((w.alloc (.cells (madeCells #[Value.pointer none] c) 62)).alloc (.cells #[.pointer (some ⟨w.heap.size + 1, 0, none⟩), .slice (some ⟨w.heap.size, 0, none⟩) c c, .int .i64 deep] 77)) (w.heap.size + 1) w.heap.size deep (List.replicate c none) := by
  have hs : (w.alloc (.cells (madeCells #[Value.pointer none] c) 62)).heap.size = w.heap.size + 1 := by simp
  refine ⟨?_, ?_, ?_, by simpa using hc, fun i hi => ?_, fun i x hi => ?_, fun i => ?_⟩
  · simp [go_sem]
  · simp [go_sem]
  · simp [go_sem]
  · have hi2 : i < c := by
      have := (List.getElem?_eq_some_iff.1 hi).1
      simpa using this
    have hb : Below (w.heap.size + 1) (w.alloc (.cells (madeCells #[Value.pointer none] c) 62)) ((w.alloc (.cells (madeCells #[Value.pointer none] c) 62)).alloc (.cells #[.pointer (some ⟨w.heap.size + 1, 0, none⟩), .slice (some ⟨w.heap.size, 0, none⟩) c c, .int .i64 deep] 77)) := (Below.refl _ _).alloc (by rw [hs]; exact Nat.le_refl _) _
    rw [World.cell?_of_block (hb.block w.heap.size (Nat.lt_succ_self _))]
    refine Eq.trans (World.cell?_alloc_mark w (madeCells #[Value.pointer none] c) 62 (0, 0) i) ?_
    exact made_nil c i hi2
  · have := List.getElem?_replicate (a := (none : Option Nd)) (n := c) (i := i)
    rw [hi] at this
    split at this <;> simp at this
  · have hb : Below (w.heap.size + 1) (w.alloc (.cells (madeCells #[Value.pointer none] c) 62)) ((w.alloc (.cells (madeCells #[Value.pointer none] c) 62)).alloc (.cells #[.pointer (some ⟨w.heap.size + 1, 0, none⟩), .slice (some ⟨w.heap.size, 0, none⟩) c c, .int .i64 deep] 77)) := (Below.refl _ _).alloc (by rw [hs]; exact Nat.le_refl _) _
    rw [World.frozen?_of_block (hb.block w.heap.size (Nat.lt_succ_self _))]
    refine Eq.trans (World.frozen?_alloc_mark w (madeCells #[Value.pointer none] c) 62 0 0 i) ?_
    simp

set_option maxRecDepth 20000 in
theorem bare_any (w : World) (c : Nat) (deep : Int) (hc : c ≤ 2000) :
    Calls Tryd.prog 63 #[.int .i64 c, .int .i64 deep] w fun e w' => e = .returned (.pointer (some ⟨w.heap.size + 1, 0, none⟩)) ∧ w'.heap.size = w.heap.size + 2 ∧ Below w.heap.size w w' ∧ TreeAt w' (w.heap.size + 1) w.heap.size deep (List.replicate c none) := by
  have HT := Lib.hid (bare_tree w c deep hc)
  obtain ⟨i, hi, hz0, hz1, hz2⟩ := info_parts infoPtr
  have hm := run_make (P := Tryd.prog) w 75 62 i _ Tryd.underlying75 hi hz0 .i64 .i64 c c (by omega) (Int.le_refl _) (by rw [hz2]; omega) (by omega)
  have e1 : (Value.pointer none).cells = #[Value.pointer none] := rfl
  rw [hz1, Nat.mul_one, Int.toNat_natCast, e1] at hm
  clear hi hz0 hz1 hz2 e1
  go_enter Tryd.func63, Tryd.ntmps63
  go_wp2
  trace_state
  go_ret
  exact ⟨rfl, by simp, ((Below.refl _ w).alloc (Nat.le_refl _) _).alloc (by simp) _, HT.out⟩

/-! ### a node is put -/
theorem NodeAt.set {w : World} {x : Nd} (h : NodeAt w x) {q : Addr} (h1 : q.block ≠ x.ab) (h2 : ∀ b o, x.ka = some ⟨b, o, none⟩ → x.kids ≠ [] → b ≠ q.block) (u : Value) : NodeAt (w.setCell q u) x := by
  have hc : ∀ j, (w.setCell q u).cell? ⟨x.ab, j, none⟩ = w.cell? ⟨x.ab, j, none⟩ := fun j => World.cell?_setCell_far w q _ u h1
  refine ⟨(hc 0).trans h.c0, (hc 1).trans h.c1, (hc 2).trans h.c2, (hc 3).trans h.c3, (hc 4).trans h.c4, (hc 5).trans h.c5, fun j => by rw [World.frozen?_setCell]; exact h.f j, ?_, h.kl⟩
  rcases h.ks with hk | ⟨b, o, e, hk⟩
  · exact .inl hk
  · by_cases h0 : x.kids = []
    · exact .inl h0
    · have hb := h2 b o e h0
      exact .inr ⟨b, o, e, fun j hj => (World.cell?_setCell_far w q _ u (fun e => hb e.symm)).trans (hk j hj)⟩
theorem TreeAt.put {w : World} {p nb : Nat} {deep : Int} {l : List (Option Nd)} (h : TreeAt w p nb deep l) (ha : Apart p nb l) {k : Nat} (hk : k < l.length) (x : Nd) (hx : NodeAt w x) (h1 : nb ≠ x.ab) (h2 : ∀ b o, x.ka = some ⟨b, o, none⟩ → x.kids ≠ [] → b ≠ nb) :
    TreeAt (w.setCell ⟨nb, k, none⟩ (.pointer (some ⟨x.ab, 0, none⟩))) p nb deep (l.set k (some x)) := by
  have hp : ∀ j, (w.setCell ⟨nb, k, none⟩ (.pointer (some ⟨x.ab, 0, none⟩))).cell? ⟨p, j, none⟩ = w.cell? ⟨p, j, none⟩ := fun j => World.cell?_setCell_far w _ _ _ (fun e => ha.pn e.symm)
  have hsome : ∃ v, w.cell? ⟨nb, k, none⟩ = some v := by
    cases hy : l[k] with
    | none => exact ⟨_, h.no k (by rw [List.getElem?_eq_getElem hk, hy])⟩
    | some y => exact ⟨_, (h.yes k y (by rw [List.getElem?_eq_getElem hk, hy])).1⟩
  obtain ⟨v, hv⟩ := hsome
  have hn : ∀ i, i ≠ k → (w.setCell ⟨nb, k, none⟩ (.pointer (some ⟨x.ab, 0, none⟩))).cell? ⟨nb, i, none⟩ = w.cell? ⟨nb, i, none⟩ := fun i hi => World.cell?_setCell_other _ _ _ _ (fun e => hi (congrArg Addr.off e).symm)
  refine ⟨(hp 0).trans h.c0, ?_, (hp 2).trans h.c2, by rw [List.length_set]; exact h.le, fun i hi => ?_, fun i y hi => ?_, fun i => by rw [World.frozen?_setCell]; exact h.f i⟩
  · rw [List.length_set]; exact (hp 1).trans h.c1
  · rw [List.getElem?_set] at hi
    split at hi
    · rename_i e
      subst e
      cases hi
    · rename_i e
      rw [hn i (fun e2 => e e2.symm)]
      exact h.no i hi
  · rw [List.getElem?_set] at hi
    split at hi
    · rename_i e
      subst e
      obtain rfl : x = y := by simpa using hi
      exact ⟨World.cell?_setCell_same _ _ _ hv, hx.set h1 h2 _⟩
    · rename_i e
      rw [hn i (fun e2 => e e2.symm)]
      obtain ⟨y1, y2⟩ := h.yes i y hi
      exact ⟨y1, y2.set (fun e => (ha.pa i y hi).2 e.symm) (fun b o e1 e2 => (ha.ka i y b o hi e1 e2).2.1) _⟩

/-- The host's node. -/
def nd0 (b : Nat) : Nd := ⟨b, 1, none, 0, 0, ⟨#[]⟩, -1, none, 0, [], []⟩
theorem apart_none (p nb c : Nat) (h : p ≠ nb) : Apart p nb (List.replicate c none) := by
  have hn : ∀ (i : Nat) (x : Nd), (List.replicate c (none : Option Nd))[i]? ≠ some (some x) := fun i x hi => by
    rw [List.getElem?_replicate] at hi
    split at hi <;> simp at hi
  exact ⟨h, fun i x hi => absurd hi (hn i x), fun i j x y hi => absurd hi (hn i x), fun i x b o hi => absurd hi (hn i x)⟩
set_option maxRecDepth 20000 in
set_option maxHeartbeats 4000000 in
theorem new_any (w : World) (c : Nat) (deep : Int) (hc0 : 1 ≤ c) (hc : c ≤ 2000) (hd0 : 0 ≤ deep) (hd : deep ≤ 40) :
    Calls Tryd.prog 45 #[.int .i64 c, .int .i64 deep] w fun e w' => e = .returned (.tuple #[.pointer (some ⟨w.heap.size + 1, 0, none⟩), .int .i64 0]) ∧ w'.heap.size = w.heap.size + 3 ∧ Below w.heap.size w w' ∧ TreeAt w' (w.heap.size + 1) w.heap.size deep ((List.replicate c none).set 0 (some (nd0 (w.heap.size + 2)))) := by
  have cB := bare_any w c deep hc
  have hcI : (1 : Int) ≤ (c : Int) := by omega
  have hcJ : (c : Int) ≤ 2000 := by omega
  go_enter Tryd.func45, Tryd.ntmps45
  go_upto_region 4 with (go_at_call 63; ((with_reducible refine (cB).mono ?_); rintro e w1 ⟨rfl, hs, hb, HT⟩))
  have c1 := HT.c1
  have c0 := HT.no 0 (by rw [List.getElem?_replicate, if_pos (by omega)])
  have hf := HT.f 0
  rw [List.length_replicate] at c1
  have HP : Hid (∀ o, NodeAt (w1.alloc o) (nd0 (w.heap.size + 2)) → TreeAt ((w1.setCell ⟨w.heap.size, 0, none⟩ (.pointer (some ⟨w.heap.size + 2, 0, none⟩))).alloc o) (w.heap.size + 1) w.heap.size deep ((List.replicate c none).set 0 (some (nd0 (w.heap.size + 2))))) := Lib.hid (fun o hN => by rw [← World.setCell_alloc_past o w.heap.size 0 _ (by rw [hs]; omega)]; exact TreeAt.put (HT.below (by rw [hs]; omega) ((Below.refl _ _).alloc (Nat.le_refl _) o)) (apart_none _ _ _ (by omega)) (by rw [List.length_replicate]; omega) (nd0 (w.heap.size + 2)) hN (by show w.heap.size ≠ w.heap.size + 2; omega) (fun b o e => by cases e))
  have HB := Lib.hid hb
  clear HT hb cB
  go_wp2
  go_ret2
  exact ⟨rfl, by simp [hs], ((HB.out.setCell (p := ⟨w.heap.size, 0, none⟩) (Nat.le_refl _) _).alloc (by simp [hs]) _), HP.out _ ⟨by simp [go_sem, nd0, hs], by simp [go_sem, nd0, hs], by simp [go_sem, nd0, hs], by simp [go_sem, nd0, hs], by simp [go_sem, nd0, hs], by simp [go_sem, nd0, hs], fun j => by simp [go_sem, nd0, hs], .inl rfl, by simp [nd0]⟩⟩

end Go.Proofs.YtggjoefhopoggaaDoor

namespace Go.Proofs.YtggjoefhopoggaaDoor
open Go.RowKit Go.Lib

theorem ixN_at : ∀ (l : List (Option Nd)) (i k : Nat), ixN l i = (k : Int) → i ≤ k ∧ l[k - i]? = some none
  | [], i, k, h => by unfold ixN at h; omega
  | none :: l, i, k, h => by
    have h2 : (i : Int) = k := h
    obtain rfl : i = k := by omega
    exact ⟨Nat.le_refl _, by simp⟩
  | some _ :: l, i, k, h => by
    obtain ⟨h1, h2⟩ := ixN_at l (i + 1) k h
    refine ⟨by omega, ?_⟩
    have e : k - i = (k - (i + 1)) + 1 := by omega
    rw [e, List.getElem?_cons_succ]
    exact h2
theorem ka_lt {w : World} {x : Nd} {b o : Nat} (h : NodeAt w x) (e : x.ka = some ⟨b, o, none⟩) (hk : x.kids ≠ []) : b < w.heap.size := by
  rcases h.ks with h0 | ⟨b2, o2, e2, h2⟩
  · exact absurd h0 hk
  · rw [e] at e2
    simp only [Option.some.injEq, Addr.mk.injEq, and_true] at e2
    have := lt_of_cell' (h2 0 (List.length_pos_iff.2 hk))
    show b < _
    rw [e2.1]
    exact this
theorem Apart.put {w : World} {p nb : Nat} {deep : Int} {l : List (Option Nd)} (h : TreeAt w p nb deep l) (ha : Apart p nb l) (hnb : nb < w.heap.size) (k : Nat) (x : Nd) (hb : w.heap.size ≤ x.ab) (hx : x.kids = []) : Apart p nb (l.set k (some x)) := by
  have hp : p < w.heap.size := lt_of_cell' h.c0
  have hl : ∀ (i : Nat) (y : Nd), (l.set k (some x))[i]? = some (some y) → (i = k ∧ y = x) ∨ (i ≠ k ∧ l[i]? = some (some y)) := fun i y hi => by
    rw [List.getElem?_set] at hi
    split at hi
    · rename_i e
      split at hi
      · exact .inl ⟨e.symm, by simpa using hi.symm⟩
      · cases hi
    · rename_i e
      exact .inr ⟨fun e2 => e e2.symm, hi⟩
  have hn : ∀ (i : Nat) (y : Nd), l[i]? = some (some y) → y.ab < w.heap.size := fun i y hi => lt_of_cell' (h.yes i y hi).2.c0
  refine ⟨ha.pn, fun i y hi => ?_, fun i j y z hi hj hij => ?_, fun i y b o hi e1 e2 => ?_⟩
  · rcases hl i y hi with ⟨_, rfl⟩ | ⟨_, h1⟩
    · exact ⟨by omega, by omega⟩
    · exact ha.pa i y h1
  · rcases hl i y hi with ⟨i1, rfl⟩ | ⟨i1, h1⟩ <;> rcases hl j z hj with ⟨j1, e⟩ | ⟨j1, h2⟩
    · omega
    · have := hn j z h2
      omega
    · have := hn i y h1
      rw [e]
      omega
    · exact ha.aa i j y z h1 h2 hij
  · rcases hl i y hi with ⟨_, rfl⟩ | ⟨_, h1⟩
    · exact absurd hx e2
    · obtain ⟨a1, a2, a3⟩ := ha.ka i y b o h1 e1 e2
      refine ⟨a1, a2, fun j z hj => ?_⟩
      rcases hl j z hj with ⟨_, rfl⟩ | ⟨_, h3⟩
      · have := ka_lt (h.yes i y h1).2 e1 e2
        omega
      · exact a3 j z h3

/-- Nothing but one block has turned. -/
structure But (nb : Nat) (a w : World) : Prop where
  size : a.heap.size ≤ w.heap.size
  block : ∀ b, b < a.heap.size → b ≠ nb → w.heap[b]? = a.heap[b]?
theorem But.refl (nb : Nat) (w : World) : But nb w w := ⟨Nat.le_refl _, fun _ _ _ => rfl⟩
theorem But.drew {nb : Nat} {a w : World} (h : But nb a w) : But nb a w.drew := ⟨h.size, h.block⟩
theorem But.alloc {nb : Nat} {a w : World} (h : But nb a w) (o : Obj) : But nb a (w.alloc o) :=
  ⟨Nat.le_trans h.size (by simp), fun b hb hn => (Below.heap_alloc w o b (Nat.lt_of_lt_of_le hb h.size)).trans (h.block b hb hn)⟩
theorem But.setCell {nb : Nat} {a w : World} (h : But nb a w) (k : Nat) (u : Value) : But nb a (w.setCell ⟨nb, k, none⟩ u) :=
  ⟨by simpa [World.setCell] using h.size, fun b hb hn => (Below.heap_setCell w ⟨nb, k, none⟩ u b hn).trans (h.block b hb hn)⟩
theorem But.cell {nb : Nat} {a w : World} (h : But nb a w) {b : Nat} (hb : b < a.heap.size) (hn : b ≠ nb) (j : Nat) : w.cell? ⟨b, j, none⟩ = a.cell? ⟨b, j, none⟩ := World.cell?_of_block (w := a) (h.block b hb hn)

/-- A node that has no kids yet, and no parent. -/
def ndF (b : Nat) (tag : Int) (aa : Option Addr) (an ac : Nat) (tx : ByteArray) (ats : List (ByteArray × ByteArray)) : Nd := ⟨b, tag, aa, an, ac, tx, -1, none, 0, [], ats⟩
set_option maxRecDepth 20000 in
set_option maxHeartbeats 4000000 in
theorem add_but (B : Nat) (w : World) (p nb : Nat) (deep : Int) (l : List (Option Nd)) (h : TreeAt w p nb deep l) (ha : Apart p nb l) (hnb : nb < w.heap.size) (hB : B ≤ nb) (k : Nat) (hk : ixN l 0 = (k : Int)) (tag : Int) (aa : Option Addr) (an ac : Nat) (tx : ByteArray) (ats : List (ByteArray × ByteArray)) :
    Calls Tryd.prog 72 #[.pointer (some ⟨p, 0, none⟩), .agg #[.int .i64 tag, .slice aa an ac, .string tx, .slice none 0 0]] w fun e w' => e = .returned (.tuple #[.int .i64 k, .int .i64 0]) ∧ Below B w w' ∧ TreeAt w' p nb deep (l.set k (some (ndF (w.heap.size + 1) tag aa an ac tx ats))) ∧ But nb w w' := by
  obtain ⟨_, hkn⟩ := ixN_at l 0 k hk
  rw [Nat.sub_zero] at hkn
  have hkl : k < l.length := (List.getElem?_eq_some_iff.1 hkn).1
  have hb := (Below.refl _ w).alloc (Nat.le_refl _) (.cells #[.int .i64 tag, .slice aa an ac, .string tx, .slice none 0 0] 67)
  have hT := h.below hnb hb
  have cI := ix_any _ p nb deep l hT
  rw [hk] at cI
  have c1 := hT.c1
  have cN := hT.no k hkn
  have fN := hT.f k
  have hle := h.le
  have hsz : (w.alloc (.cells #[.int .i64 tag, .slice aa an ac, .string tx, .slice none 0 0] 67)).heap.size = w.heap.size + 1 := by simp
  obtain ⟨n, hn⟩ : ∃ n, l.length = n := ⟨_, rfl⟩
  rw [hn] at cI c1 hkl hle
  have hkI : (k : Int) < (n : Int) := by omega
  have HT := Lib.hid h
  have HA := Lib.hid ha
  have HN := Lib.hid hn
  clear h ha hkn hk hb hT hn
  go_enter Tryd.func72, Tryd.ntmps72
  go_upto_region 4 with (go_at_call 85; ((with_reducible refine (cI).mono ?_); rintro e w1 ⟨rfl, rfl⟩))
  obtain ⟨WR, hWR⟩ : ∃ WR, w.alloc (.cells #[.int .i64 tag, .slice aa an ac, .string tx, .slice none 0 0] 67) = WR := ⟨_, rfl⟩
  have hS : (WR.cell? ⟨p, 1, none⟩ = some (.slice (some ⟨nb, 0, none⟩) n n) ∧ WR.cell? ⟨w.heap.size, 0, none⟩ = some (.int .i64 tag) ∧ WR.cell? ⟨w.heap.size, 1, none⟩ = some (.slice aa an ac) ∧ WR.cell? ⟨w.heap.size, 2, none⟩ = some (.string tx) ∧ WR.cell? ⟨w.heap.size, 3, none⟩ = some (.slice none 0 0)) := by rw [hWR] at c1; rw [← hWR] at c1 ⊢; refine ⟨c1, ?_, ?_, ?_, ?_⟩ <;> simp [go_sem]
  have hpl : p < WR.heap.size := lt_of_cell' hS.1
  rw [hWR] at cN fN hsz c1 ⊢
  have KS : Hid (∀ w', But nb WR w' → (w'.cell? ⟨p, 1, none⟩ = some (.slice (some ⟨nb, 0, none⟩) n n) ∧ w'.cell? ⟨w.heap.size, 0, none⟩ = some (.int .i64 tag) ∧ w'.cell? ⟨w.heap.size, 1, none⟩ = some (.slice aa an ac) ∧ w'.cell? ⟨w.heap.size, 2, none⟩ = some (.string tx) ∧ w'.cell? ⟨w.heap.size, 3, none⟩ = some (.slice none 0 0))) := Lib.hid (fun w' h => by
    obtain ⟨a0, a1, a2, a3, a4⟩ := hS
    exact ⟨(h.cell hpl HA.out.pn 1).trans a0, (h.cell (by omega) (by omega) 0).trans a1, (h.cell (by omega) (by omega) 1).trans a2, (h.cell (by omega) (by omega) 2).trans a3, (h.cell (by omega) (by omega) 3).trans a4⟩)
  have hb : Hid (Below WR.heap.size WR WR) := Lib.hid (Below.refl _ _)
  have HP : Hid (∀ o, NodeAt (WR.alloc o) (ndF (w.heap.size + 1) tag aa an ac tx ats) → TreeAt (((WR.setCell ⟨nb, k, none⟩ (.pointer (some ⟨w.heap.size + 1, 0, none⟩))).alloc o).drew) p nb deep (l.set k (some (ndF (w.heap.size + 1) tag aa an ac tx ats)))) := Lib.hid (fun o hN => by
    have h1 : TreeAt (WR.alloc o) p nb deep l := (HT.out.below hnb (by rw [← hWR]; exact (Below.refl _ _).alloc (Nat.le_refl _) _)).below (by rw [hsz]; omega) ((Below.refl _ _).alloc (Nat.le_refl _) o)
    have h2 := TreeAt.put h1 HA.out (k := k) (by rw [HN.out]; exact hkl) (ndF (w.heap.size + 1) tag aa an ac tx ats) hN (by show nb ≠ w.heap.size + 1; omega) (fun b o e => by cases e)
    have e : (WR.alloc o).setCell ⟨nb, k, none⟩ (.pointer (some ⟨w.heap.size + 1, 0, none⟩)) = (WR.setCell ⟨nb, k, none⟩ (.pointer (some ⟨w.heap.size + 1, 0, none⟩))).alloc o := World.setCell_alloc_past o nb k _ (by rw [hsz]; omega)
    have h3 : TreeAt ((WR.setCell ⟨nb, k, none⟩ (.pointer (some ⟨w.heap.size + 1, 0, none⟩))).alloc o) p nb deep (l.set k (some (ndF (w.heap.size + 1) tag aa an ac tx ats))) := by rw [← e]; exact h2
    exact h3.below (by simp [hsz, World.setCell]; omega) (Below.refl _ _).drew)
  have HBW : Hid (Below B w WR) := Lib.hid (by rw [← hWR]; exact (Below.refl _ _).alloc (by omega) _)
  have HW := Lib.hid hWR
  clear hWR cI c1
  go_region_held3 (fun w' => (w'.cell? ⟨p, 1, none⟩ = some (.slice (some ⟨nb, 0, none⟩) n n) ∧ w'.cell? ⟨w.heap.size, 0, none⟩ = some (.int .i64 tag) ∧ w'.cell? ⟨w.heap.size, 1, none⟩ = some (.slice aa an ac) ∧ w'.cell? ⟨w.heap.size, 2, none⟩ = some (.string tx) ∧ w'.cell? ⟨w.heap.size, 3, none⟩ = some (.slice none 0 0))) (first | (with_reducible exact hS) | (refine KS.out _ ?_; (repeat (first | (with_reducible exact But.refl _ _) | (with_reducible refine But.drew ?_) | (with_reducible refine But.alloc ?_ _) | (with_reducible refine But.setCell ?_ _ _))); done)) (fail)
  all_goals go_wp2_with fail
  all_goals go_ret2
  all_goals exact ⟨rfl, (((HBW.out.setCell (p := ⟨nb, k, none⟩) hB _).alloc (by simp [hsz, World.setCell]; omega) _).drew), HP.out _ ⟨by simp [go_sem, ndF, hsz], by simp [go_sem, ndF, hsz], by simp [go_sem, ndF, hsz], by simp [go_sem, ndF, hsz], by simp [go_sem, ndF, hsz], by simp [go_sem, ndF, hsz], fun j => by simp [go_sem, ndF, hsz], .inl rfl, by simp [ndF]⟩, by rw [← HW.out]; exact (((((But.refl nb w).alloc _).setCell k _).alloc _).drew)⟩

theorem add_any (B : Nat) (w : World) (p nb : Nat) (deep : Int) (l : List (Option Nd)) (h : TreeAt w p nb deep l) (ha : Apart p nb l) (hnb : nb < w.heap.size) (hB : B ≤ nb) (k : Nat) (hk : ixN l 0 = (k : Int)) (tag : Int) (aa : Option Addr) (an ac : Nat) (tx : ByteArray) (ats : List (ByteArray × ByteArray)) :
    Calls Tryd.prog 72 #[.pointer (some ⟨p, 0, none⟩), .agg #[.int .i64 tag, .slice aa an ac, .string tx, .slice none 0 0]] w fun e w' => e = .returned (.tuple #[.int .i64 k, .int .i64 0]) ∧ Below B w w' ∧ TreeAt w' p nb deep (l.set k (some (ndF (w.heap.size + 1) tag aa an ac tx ats))) :=
  (add_but B w p nb deep l h ha hnb hB k hk tag aa an ac tx ats).mono (by rintro e w' ⟨h1, h2, h3, _⟩; exact ⟨h1, h2, h3⟩)

end Go.Proofs.YtggjoefhopoggaaDoor
