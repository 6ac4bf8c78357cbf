/-
  The document's Span, Own; an answer written over.
-/
import Derived.Test.YtiaoflagjaclmaaDoorFit
import Derived.Test.YtiaoflagjaclmaaDoorOf
namespace Go.Proofs.YtiaoflagjaclmaaDoor
open Go.RowKit Go.Lib

set_option maxHeartbeats 1000000 in
theorem rspan_any (v : Value) (l : Row) (f t : Int) (w : World) (hv : RowAt w v l) :
    Calls Tryd.prog 36 #[v, .int .i64 f, .int .i64 t] w fun e w' => e = .returned (.bool (fitB l.length f t)) ∧ w = w' := by
  obtain ⟨a, c, rfl⟩ := hv.len
  obtain ⟨n, hn⟩ : ∃ n, l.length = n := ⟨_, rfl⟩
  rw [hn]
  clear hv hn
  go_enter Tryd.func36, Tryd.ntmps36
  go_wp2
  all_goals go_ret
  all_goals (refine ⟨ret_bool ?_, rfl⟩; unfold fitB; rw [Bool.eq_iff_iff]; first | (simp_all; done) | (simp_all; omega))

set_option maxHeartbeats 4000000 in
theorem rown_any (v : Value) (l : Row) (w : World) (hv : RowAt w v l) (hl : l.length ≤ 100000) :
    Calls Tryd.prog 14 #[v] w (OwnPost l w) := by
  have V := Lib.hid hv
  have ba : ∀ o, Below w.heap.size w (w.alloc o) := fun o => (Below.refl _ w).alloc (Nat.le_refl _) _
  clear hv
  go_enter Tryd.func14, Tryd.ntmps14
  go_wp2_with (at_builtin; refine wpList_append_row rfl _ _ rfl w.heap.size _ [] rfl (World.ownsRow_made w #[] 0 (Nat.le_refl _) (Nat.zero_le _) (by simp)) _ l rfl (V.out.below (ba _)) (by simp; omega) (by simp) ?_; intro v3 w3 own3 grow3)
  go_ret
  exact ⟨v3, rfl, own3, (ba _).grown grow3 (by simp) (fun k e => by cases e; exact Nat.le_refl _)⟩

/-! ### an answer written over -/
theorem cellsR_put {xs : List Value} {k : Nat} : (((xs.set (k * 3) (.int .i32 122)).set (k * 3 + 1) (.int .i64 77)).set (k * 3 + 2) (.string ⟨#[]⟩)).length = xs.length := by simp

set_option maxHeartbeats 4000000 in
theorem spoil_any (v : Value) (n : Nat) (xs : List Value) (B : Nat) (w : World) (own : w.ownsRow B 37 3 v n xs) :
    Calls Tryd.prog 19 #[v] w fun e w' => (∃ r, e = .returned r) ∧ w.grownBy w' v.ownBlock := by
  obtain ⟨a, c, rfl⟩ := own_len own
  have O := Lib.hid own
  have G0 : Hid (w.grownBy w (Value.slice a n c).ownBlock) := Lib.hid (grownBy_refl _ _)
  clear own
  go_enter Tryd.func19, Tryd.ntmps19
  go_wp2
  go_loopw [2] (fun i wr => ∃ (k : Nat) (ys : List Value), k ≤ n ∧ i = .int .i64 k ∧ Hid (wr.ownsRow B 37 3 (.slice a n c) n ys) ∧ Hid (w.grownBy wr (Value.slice a n c).ownBlock)) (fun i _ => n - (RowKit.intOf i).toNat)
  case atStart => exact ⟨0, xs, Nat.zero_le _, rfl, O, G0⟩
  case round =>
    obtain ⟨k, ys, hk, rfl, O2, G2⟩ := hrel
    by_cases hlt : k < n
    · obtain ⟨g, rfl⟩ : ∃ g, a = some ⟨g, 0, none⟩ := by
        rcases O2.out.2 with ⟨e, _⟩ | ⟨g, cap, cur, e, _⟩
        · simp only [Value.slice.injEq] at e; omega
        · simp only [Value.slice.injEq] at e; exact ⟨g, e.1⟩
      have hnc : n ≤ c ∧ c ≤ maxLen := by
        rcases O2.out.2 with ⟨e, _⟩ | ⟨g, cap, cur, e, _, _, h5, h6, _⟩
        · simp at e
        · simp only [Value.slice.injEq, true_and] at e; obtain ⟨_, rfl⟩ := e; exact ⟨h5, h6⟩
      unfold maxLen at hnc
      obtain ⟨hnc1, hnc2⟩ := hnc
      have hkI : (k : Int) < (n : Int) := by omega
      have s0 := O2.out.stored (k * 3) (.int .i32 122)
      have s1 := s0.1.stored (k * 3 + 1) (.int .i64 77)
      have s2 := s1.1.stored (k * 3 + 2) (.string ⟨#[]⟩)
      have S2 := Lib.hid s2.1
      have hyl : ys.length = n * 3 := O2.out.1
      have c0 : wr.cell? ⟨g, k * 3, none⟩ = some ys[k * 3]! := (O2.out.cellAt _ (by omega)).trans (by rw [List.getElem!_eq_getElem?_getD, List.getElem?_eq_getElem (by omega)]; rfl)
      have c1 := (s0.1.cellAt (k * 3 + 1) (by omega)).trans (show _ = some ys[k * 3 + 1]! by rw [List.getElem?_set_ne (by omega), List.getElem!_eq_getElem?_getD, List.getElem?_eq_getElem (by omega)]; rfl)
      have c2 := (s1.1.cellAt (k * 3 + 2) (by omega)).trans (show _ = some ys[k * 3 + 2]! by rw [List.getElem?_set_ne (by omega), List.getElem?_set_ne (by omega), List.getElem!_eq_getElem?_getD, List.getElem?_eq_getElem (by omega)]; rfl)
      have G3 := Lib.hid (((G2.out.trans s0.2).trans s1.2).trans s2.2)
      have f0 := O2.out.frozenAt (k * 3)
      have f1 := s0.1.frozenAt (k * 3 + 1)
      have f2 := s1.1.frozenAt (k * 3 + 2)
      clear s0 s1 s2 hyl
      go_wp2
      go_roundw
      case rel => exact ⟨k + 1, _, hlt, by go_num, S2, G3⟩
      case measure => simp [RowKit.intOf]; omega
    · go_wp2
      go_end0
      exact ⟨⟨_, rfl⟩, G2.out⟩

end Go.Proofs.YtiaoflagjaclmaaDoor
