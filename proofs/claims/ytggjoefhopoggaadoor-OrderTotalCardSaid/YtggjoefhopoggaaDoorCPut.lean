/-
  A node more: add, Element, Text.
-/
import Derived.Test.YtggjoefhopoggaaDoorCNew

namespace Go.Proofs.YtggjoefhopoggaaDoor
open Go.RowKit Go.Lib

theorem ixN_at : ∀ (l : List (Option Nd)) (i k : Nat), ixN l i = (k : Int) → i ≤ k ∧ l[k - i]? = some none
  | [], i, k, h => by unfold ixN at h; omega
  | none :: l, i, k, h => by
    have h2 : (i : Int) = k := h
    obtain rfl : i = k := by omega
    exact ⟨Nat.le_refl _, by simp⟩
  | some _ :: l, i, k, h => by
    obtain ⟨h1, h2⟩ := ixN_at l (i + 1) k h
    refine ⟨by omega, ?_⟩
    have e : k - i = (k - (i + 1)) + 1 := by omega
    rw [e, List.getElem?_cons_succ]
    exact h2
theorem ka_lt {w : World} {x : Nd} {b o : Nat} (h : NodeAt w x) (e : x.ka = some ⟨b, o, none⟩) (hk : x.kids ≠ []) : b < w.heap.size := by
  rcases h.ks with h0 | ⟨b2, o2, e2, h2⟩
  · exact absurd h0 hk
  · rw [e] at e2
    simp only [Option.some.injEq, Addr.mk.injEq, and_true] at e2
    have := lt_of_cell' (h2 0 (List.length_pos_iff.2 hk))
    show b < _
    rw [e2.1]
    exact this
theorem Apart.put {w : World} {p nb : Nat} {deep : Int} {l : List (Option Nd)} (h : TreeAt w p nb deep l) (ha : Apart p nb l) (hnb : nb < w.heap.size) (k : Nat) (x : Nd) (hb : w.heap.size ≤ x.ab) (hx : x.kids = []) : Apart p nb (l.set k (some x)) := by
  have hp : p < w.heap.size := lt_of_cell' h.c0
  have hl : ∀ (i : Nat) (y : Nd), (l.set k (some x))[i]? = some (some y) → (i = k ∧ y = x) ∨ (i ≠ k ∧ l[i]? = some (some y)) := fun i y hi => by
    rw [List.getElem?_set] at hi
    split at hi
    · rename_i e
      split at hi
      · exact .inl ⟨e.symm, by simpa using hi.symm⟩
      · cases hi
    · rename_i e
      exact .inr ⟨fun e2 => e e2.symm, hi⟩
  have hn : ∀ (i : Nat) (y : Nd), l[i]? = some (some y) → y.ab < w.heap.size := fun i y hi => lt_of_cell' (h.yes i y hi).2.c0
  refine ⟨ha.pn, fun i y hi => ?_, fun i j y z hi hj hij => ?_, fun i y b o hi e1 e2 => ?_⟩
  · rcases hl i y hi with ⟨_, rfl⟩ | ⟨_, h1⟩
    · exact ⟨by omega, by omega⟩
    · exact ha.pa i y h1
  · rcases hl i y hi with ⟨i1, rfl⟩ | ⟨i1, h1⟩ <;> rcases hl j z hj with ⟨j1, e⟩ | ⟨j1, h2⟩
    · omega
    · have := hn j z h2
      omega
    · have := hn i y h1
      rw [e]
      omega
    · exact ha.aa i j y z h1 h2 hij
  · rcases hl i y hi with ⟨_, rfl⟩ | ⟨_, h1⟩
    · exact absurd hx e2
    · obtain ⟨a1, a2, a3⟩ := ha.ka i y b o h1 e1 e2
      refine ⟨a1, a2, fun j z hj => ?_⟩
      rcases hl j z hj with ⟨_, rfl⟩ | ⟨_, h3⟩
      · have := ka_lt (h.yes i y h1).2 e1 e2
        omega
      · exact a3 j z h3

/-- Nothing but one block has turned. -/
structure But (nb : Nat) (a w : World) : Prop where
  size : a.heap.size ≤ w.heap.size
  block : ∀ b, b < a.heap.size → b ≠ nb → w.heap[b]? = a.heap[b]?
theorem But.refl (nb : Nat) (w : World) : But nb w w := ⟨Nat.le_refl _, fun _ _ _ => rfl⟩
theorem But.drew {nb : Nat} {a w : World} (h : But nb a w) : But nb a w.drew := ⟨h.size, h.block⟩
theorem But.alloc {nb : Nat} {a w : World} (h : But nb a w) (o : Obj) : But nb a (w.alloc o) :=
  ⟨Nat.le_trans h.size (by simp), fun b hb hn => (Below.heap_alloc w o b (Nat.lt_of_lt_of_le hb h.size)).trans (h.block b hb hn)⟩
theorem But.setCell {nb : Nat} {a w : World} (h : But nb a w) (k : Nat) (u : Value) : But nb a (w.setCell ⟨nb, k, none⟩ u) :=
  ⟨by simpa [World.setCell] using h.size, fun b hb hn => (Below.heap_setCell w ⟨nb, k, none⟩ u b hn).trans (h.block b hb hn)⟩
theorem But.cell {nb : Nat} {a w : World} (h : But nb a w) {b : Nat} (hb : b < a.heap.size) (hn : b ≠ nb) (j : Nat) : w.cell? ⟨b, j, none⟩ = a.cell? ⟨b, j, none⟩ := World.cell?_of_block (w := a) (h.block b hb hn)

/-- A node that has no kids yet, and no parent. -/
def ndF (b : Nat) (tag : Int) (aa : Option Addr) (an ac : Nat) (tx : ByteArray) (ats : List (ByteArray × ByteArray)) : Nd := ⟨b, tag, aa, an, ac, tx, -1, none, 0, [], ats⟩
set_option maxRecDepth 20000 in
set_option maxHeartbeats 4000000 in
theorem add_but (B : Nat) (w : World) (p nb : Nat) (deep : Int) (l : List (Option Nd)) (h : TreeAt w p nb deep l) (ha : Apart p nb l) (hnb : nb < w.heap.size) (hB : B ≤ nb) (k : Nat) (hk : ixN l 0 = (k : Int)) (tag : Int) (aa : Option Addr) (an ac : Nat) (tx : ByteArray) (ats : List (ByteArray × ByteArray)) :
    Calls Tryd.prog 72 #[.pointer (some ⟨p, 0, none⟩), .agg #[.int .i64 tag, .slice aa an ac, .string tx, .slice none 0 0]] w fun e w' => e = .returned (.tuple #[.int .i64 k, .int .i64 0]) ∧ Below B w w' ∧ TreeAt w' p nb deep (l.set k (some (ndF (w.heap.size + 1) tag aa an ac tx ats))) ∧ But nb w w' := by
  obtain ⟨_, hkn⟩ := ixN_at l 0 k hk
  rw [Nat.sub_zero] at hkn
  have hkl : k < l.length := (List.getElem?_eq_some_iff.1 hkn).1
  have hb := (Below.refl _ w).alloc (Nat.le_refl _) (.cells #[.int .i64 tag, .slice aa an ac, .string tx, .slice none 0 0] 67)
  have hT := h.below hnb hb
  have cI := ix_any _ p nb deep l hT
  rw [hk] at cI
  have c1 := hT.c1
  have cN := hT.no k hkn
  have fN := hT.f k
  have hle := h.le
  have hsz : (w.alloc (.cells #[.int .i64 tag, .slice aa an ac, .string tx, .slice none 0 0] 67)).heap.size = w.heap.size + 1 := by simp
  obtain ⟨n, hn⟩ : ∃ n, l.length = n := ⟨_, rfl⟩
  rw [hn] at cI c1 hkl hle
  have hkI : (k : Int) < (n : Int) := by omega
  have HT := Lib.hid h
  have HA := Lib.hid ha
  have HN := Lib.hid hn
  clear h ha hkn hk hb hT hn
  go_enter Tryd.func72, Tryd.ntmps72
  go_upto_region 4 with (go_at_call 85; ((with_reducible refine (cI).mono ?_); rintro e w1 ⟨rfl, rfl⟩))
  obtain ⟨WR, hWR⟩ : ∃ WR, w.alloc (.cells #[.int .i64 tag, .slice aa an ac, .string tx, .slice none 0 0] 67) = WR := ⟨_, rfl⟩
  have hS : (WR.cell? ⟨p, 1, none⟩ = some (.slice (some ⟨nb, 0, none⟩) n n) ∧ WR.cell? ⟨w.heap.size, 0, none⟩ = some (.int .i64 tag) ∧ WR.cell? ⟨w.heap.size, 1, none⟩ = some (.slice aa an ac) ∧ WR.cell? ⟨w.heap.size, 2, none⟩ = some (.string tx) ∧ WR.cell? ⟨w.heap.size, 3, none⟩ = some (.slice none 0 0)) := by rw [hWR] at c1; rw [← hWR] at c1 ⊢; refine ⟨c1, ?_, ?_, ?_, ?_⟩ <;> simp [go_sem]
  have hpl : p < WR.heap.size := lt_of_cell' hS.1
  rw [hWR] at cN fN hsz c1 ⊢
  have KS : Hid (∀ w', But nb WR w' → (w'.cell? ⟨p, 1, none⟩ = some (.slice (some ⟨nb, 0, none⟩) n n) ∧ w'.cell? ⟨w.heap.size, 0, none⟩ = some (.int .i64 tag) ∧ w'.cell? ⟨w.heap.size, 1, none⟩ = some (.slice aa an ac) ∧ w'.cell? ⟨w.heap.size, 2, none⟩ = some (.string tx) ∧ w'.cell? ⟨w.heap.size, 3, none⟩ = some (.slice none 0 0))) := Lib.hid (fun w' h => by
    obtain ⟨a0, a1, a2, a3, a4⟩ := hS
    exact ⟨(h.cell hpl HA.out.pn 1).trans a0, (h.cell (by omega) (by omega) 0).trans a1, (h.cell (by omega) (by omega) 1).trans a2, (h.cell (by omega) (by omega) 2).trans a3, (h.cell (by omega) (by omega) 3).trans a4⟩)
  have hb : Hid (Below WR.heap.size WR WR) := Lib.hid (Below.refl _ _)
  have HP : Hid (∀ o, NodeAt (WR.alloc o) (ndF (w.heap.size + 1) tag aa an ac tx ats) → TreeAt (((WR.setCell ⟨nb, k, none⟩ (.pointer (some ⟨w.heap.size + 1, 0, none⟩))).alloc o).drew) p nb deep (l.set k (some (ndF (w.heap.size + 1) tag aa an ac tx ats)))) := Lib.hid (fun o hN => by
    have h1 : TreeAt (WR.alloc o) p nb deep l := (HT.out.below hnb (by rw [← hWR]; exact (Below.refl _ _).alloc (Nat.le_refl _) _)).below (by rw [hsz]; omega) ((Below.refl _ _).alloc (Nat.le_refl _) o)
    have h2 := TreeAt.put h1 HA.out (k := k) (by rw [HN.out]; exact hkl) (ndF (w.heap.size + 1) tag aa an ac tx ats) hN (by show nb ≠ w.heap.size + 1; omega) (fun b o e => by cases e)
    have e : (WR.alloc o).setCell ⟨nb, k, none⟩ (.pointer (some ⟨w.heap.size + 1, 0, none⟩)) = (WR.setCell ⟨nb, k, none⟩ (.pointer (some ⟨w.heap.size + 1, 0, none⟩))).alloc o := World.setCell_alloc_past o nb k _ (by rw [hsz]; omega)
    have h3 : TreeAt ((WR.setCell ⟨nb, k, none⟩ (.pointer (some ⟨w.heap.size + 1, 0, none⟩))).alloc o) p nb deep (l.set k (some (ndF (w.heap.size + 1) tag aa an ac tx ats))) := by rw [← e]; exact h2
    exact h3.below (by simp [hsz, World.setCell]; omega) (Below.refl _ _).drew)
  have HBW : Hid (Below B w WR) := Lib.hid (by rw [← hWR]; exact (Below.refl _ _).alloc (by omega) _)
  have HW := Lib.hid hWR
  clear hWR cI c1
  go_region_held3 (fun w' => (w'.cell? ⟨p, 1, none⟩ = some (.slice (some ⟨nb, 0, none⟩) n n) ∧ w'.cell? ⟨w.heap.size, 0, none⟩ = some (.int .i64 tag) ∧ w'.cell? ⟨w.heap.size, 1, none⟩ = some (.slice aa an ac) ∧ w'.cell? ⟨w.heap.size, 2, none⟩ = some (.string tx) ∧ w'.cell? ⟨w.heap.size, 3, none⟩ = some (.slice none 0 0))) (first | (with_reducible exact hS) | (refine KS.out _ ?_; (repeat (first | (with_reducible exact But.refl _ _) | (with_reducible refine But.drew ?_) | (with_reducible refine But.alloc ?_ _) | (with_reducible refine But.setCell ?_ _ _))); done)) (fail)
  all_goals go_wp2_with fail
  all_goals go_ret2
  all_goals exact ⟨rfl, (((HBW.out.setCell (p := ⟨nb, k, none⟩) hB _).alloc (by simp [hsz, World.setCell]; omega) _).drew), HP.out _ ⟨by simp [go_sem, ndF, hsz], by simp [go_sem, ndF, hsz], by simp [go_sem, ndF, hsz], by simp [go_sem, ndF, hsz], by simp [go_sem, ndF, hsz], by simp [go_sem, ndF, hsz], fun j => by simp [go_sem, ndF, hsz], .inl rfl, by simp [ndF]⟩, by rw [← HW.out]; exact (((((But.refl nb w).alloc _).setCell k _).alloc _).drew)⟩

theorem add_any (B : Nat) (w : World) (p nb : Nat) (deep : Int) (l : List (Option Nd)) (h : TreeAt w p nb deep l) (ha : Apart p nb l) (hnb : nb < w.heap.size) (hB : B ≤ nb) (k : Nat) (hk : ixN l 0 = (k : Int)) (tag : Int) (aa : Option Addr) (an ac : Nat) (tx : ByteArray) (ats : List (ByteArray × ByteArray)) :
    Calls Tryd.prog 72 #[.pointer (some ⟨p, 0, none⟩), .agg #[.int .i64 tag, .slice aa an ac, .string tx, .slice none 0 0]] w fun e w' => e = .returned (.tuple #[.int .i64 k, .int .i64 0]) ∧ Below B w w' ∧ TreeAt w' p nb deep (l.set k (some (ndF (w.heap.size + 1) tag aa an ac tx ats))) :=
  (add_but B w p nb deep l h ha hnb hB k hk tag aa an ac tx ats).mono (by rintro e w' ⟨h1, h2, h3, _⟩; exact ⟨h1, h2, h3⟩)

end Go.Proofs.YtggjoefhopoggaaDoor
