/-
  Of no tree at all: each function of order; the law OrderNobody, walked.
-/
import Derived.Test.YtggjoefhopoggaaDoorCAwk
import Derived.BigGuardPart
import Derived.Laws.ResultCell
import Derived.Laws.Rows

namespace Go.Proofs.YtggjoefhopoggaaDoor
open Go.RowKit Go.Lib

theorem results_row_tmp {P : Program} {fn : Func} {p u : Tmp} {ty : TypeId} (h : fn.results = #[.cell p ty, .tmp u]) (tmps : Array Value) (w : World) (g : Nat) (t : TypeId) (cs : Array Value) (fr : Nat × Nat) (d : TypeDesc) (x : Value)
    (hp : tmps.getD p undef = .pointer (some ⟨g, 0, none⟩)) (hx : tmps.getD u undef = x) (hg : w.heap[g]? = some (.cells cs t fr))
    (hu : P.underlying ty = some d) (hd : (match d with | .struct _ | .array _ _ => true | _ => false) = true) (hi : (P.info? ty).map (·.size) = some cs.size) :
    (results fn tmps).run P w = .ok (.tuple #[.agg cs, x]) w := by
  rw [results_cell_tmp h, hp, hx]
  have e1 : (asAddr (.pointer (some ⟨g, 0, none⟩))).run P w = .ok ⟨g, 0, none⟩ w := rfl
  rw [e1, Result.andThen_ok, run_loadVar_row w g t ty cs fr d hg hu hd hi, Result.andThen_ok]
theorem two_heap (w : World) (o o' : Obj) : ((w.alloc o).alloc o').heap[w.heap.size + 1]? = some o' := by
  have := World.alloc_heap_new (w.alloc o) o'
  rwa [World.size_alloc] at this
theorem two_below (w : World) (o o' : Obj) : Below w.heap.size w ((w.alloc o).alloc o') := ((Below.refl w.heap.size w).alloc (Nat.le_refl _) _).alloc (by simp) _
theorem tv_nil (w : World) : Tv w (.pointer none) [] := .inl ⟨rfl, rfl⟩
section
variable (w : World)
theorem nob_next (id : Int) : Calls Tryd.prog 12 #[.pointer none, .int .i64 id] w fun e w' => e = .returned (.int .i64 (-1)) ∧ Below w.heap.size w w' := by
  have h := next_v (tv_nil w) id 0 (endsK_nil id) 0 (endsU_nil id)
  have e : nextS [] 0 0 id = -1 := rfl
  rw [e] at h; exact h
theorem nob_prev (id : Int) : Calls Tryd.prog 13 #[.pointer none, .int .i64 id] w fun e w' => e = .returned (.int .i64 (-1)) ∧ Below w.heap.size w w' := by
  have h := prev_v (tv_nil w) id 0 (fun k hk => by rw [kidsS_nil] at hk; cases hk)
  have e : prevS [] 0 id = -1 := by unfold prevS; rw [indexS_nil, if_pos (by decide), upS_nil]
  rw [e] at h; exact h
theorem nob_behind (id : Int) : Calls Tryd.prog 14 #[.pointer none, .int .i64 id] w fun e w' => e = .returned (.int .i64 (-1)) ∧ Below w.heap.size w w' := behind_v (tv_nil w) id 0 (endsU_nil id)
theorem nob_all (id : Int) : Calls Tryd.prog 15 #[.pointer none, .int .i64 id] w fun e w' => ∃ ka kc, e = .returned (.slice ka 0 kc) ∧ Below w.heap.size w w' :=
  (all_v (tv_nil w) id 0 (endsK_nil id) (Nat.zero_le _)).mono (fun e w' hO => by obtain ⟨ka, kc, h1, _, _, h4⟩ := hO.open; exact ⟨ka, kc, h1, h4⟩)
theorem nob_length (id : Int) : Calls Tryd.prog 16 #[.pointer none, .int .i64 id] w fun e w' => e = .returned (.int .i64 (-1)) ∧ Below w.heap.size w w' := by
  have h := length_v (tv_nil w) shortS_nil id
  rw [lengthS_nil] at h; exact h
theorem nob_may (n a : Int) : Calls Tryd.prog 17 #[.pointer none, .agg #[.int .i64 n, .int .i64 a]] w fun e w' => e = .returned (.bool false) ∧ Below w.heap.size w w' := by
  have h := omay_v (tv_nil w) shortS_nil n a
  have e : mayS [] n a = false := by unfold mayS; rw [lengthS_nil, Bool.and_eq_false_iff, decide_eq_false_iff_not, decide_eq_false_iff_not]; omega
  rw [e] at h; exact h
theorem nob_cmp (p q r s : Int) : Calls Tryd.prog 8 #[.pointer none, .agg #[.int .i64 p, .int .i64 q], .agg #[.int .i64 r, .int .i64 s]] w fun e w' => e = .returned (.tuple #[.int .i64 0, .bool false]) ∧ Below w.heap.size w w' := by
  have h := cmp_v (tv_nil w) shortS_nil p q r s 0 (by decide) endsU_nil
  have e0 : mayS [] p q = false := by unfold mayS; rw [lengthS_nil, Bool.and_eq_false_iff, decide_eq_false_iff_not, decide_eq_false_iff_not]; omega
  have e : cmpS [] 0 (p, q) (r, s) = (0, false) := by unfold cmpS; rw [e0, if_neg (by simp)]
  rw [e] at h; exact h
set_option maxRecDepth 20000 in
theorem nob_find (id : Int) (v : Value) : Calls Tryd.prog 9 #[.pointer none, .int .i64 id, v] w fun e w' => e = .returned (.tuple #[.int .i64 0, .bool false]) ∧ w = w' := by
  have cH := nil_has w id
  go_enter Tryd.func9, Tryd.ntmps9
  go_wp2_with (go_at_call 22; ((with_reducible refine (cH).mono ?_); rintro e w1 ⟨rfl, rfl⟩))
  go_ret2
  exact ⟨rfl, rfl⟩
theorem nob_within (id o : Int) : Calls Tryd.prog 19 #[.pointer none, .int .i64 id, .int .i64 o] w fun e w' => e = .returned (.bool false) ∧ Below w.heap.size w w' := within_v (tv_nil w) id o 0 (endsU_nil id)
theorem nob_path (id : Int) : Calls Tryd.prog 20 #[.pointer none, .int .i64 id] w fun e w' => ∃ ka kc, e = .returned (.slice ka 0 kc) ∧ Below w.heap.size w w' :=
  (path_v (tv_nil w) id 0 (by decide) (endsU_nil id)).mono (fun e w' hO => by obtain ⟨ka, kc, h1, _, _, h4⟩ := hO.open; exact ⟨ka, kc, h1, h4⟩)
set_option maxRecDepth 20000 in
set_option maxHeartbeats 4000000 in
theorem nob_clamp (n a : Int) : Calls Tryd.prog 18 #[.pointer none, .agg #[.int .i64 n, .int .i64 a]] w fun e w' => e = .returned (.agg #[.int .i64 0, .int .i64 0]) ∧ Below w.heap.size w w' := by
  have cH := fun w => nil_has w n
  go_enter Tryd.func18, Tryd.ntmps18
  go_wp2_with (go_at_call 22; ((with_reducible refine (cH _).mono ?_); rintro e w1 ⟨rfl, rfl⟩))
  exact bodyPost_ret (results_cell_row rfl _ _ (w.heap.size + 1) _ #[.int .i64 0, .int .i64 0] _ _ rfl (two_heap w _ _) Tryd.underlying23 rfl (by kernel_rfl)) rfl ⟨rfl, two_below w _ _⟩
set_option maxRecDepth 20000 in
set_option maxHeartbeats 4000000 in
theorem nob_point (n a : Int) : Calls Tryd.prog 10 #[.pointer none, .agg #[.int .i64 n, .int .i64 a]] w fun e w' => e = .returned (.tuple #[.agg #[.slice none 0 0, .int .i64 0], .bool false]) ∧ Below w.heap.size w w' := by
  have cH := fun w => nil_live w n
  go_enter Tryd.func10, Tryd.ntmps10
  go_wp2_with (go_at_call 25; ((with_reducible refine (cH _).mono ?_); rintro e w1 ⟨rfl, rfl⟩))
  exact bodyPost_ret (results_row_tmp rfl _ _ (w.heap.size + 1) _ #[.slice none 0 0, .int .i64 0] _ _ _ rfl rfl (two_heap w _ _) Tryd.underlying31 rfl (by kernel_rfl)) rfl ⟨rfl, two_below w _ _⟩
set_option maxRecDepth 20000 in
set_option maxHeartbeats 4000000 in
theorem nob_at (pa : Option Addr) (m pc : Nat) (a : Int) : Calls Tryd.prog 11 #[.pointer none, .agg #[.slice pa m pc, .int .i64 a]] w fun e w' => e = .returned (.tuple #[.agg #[.int .i64 0, .int .i64 0], .bool false]) ∧ Below w.heap.size w w' := by
  have cF := fun W => nob_find W 0 (.slice pa m pc)
  have HB := Lib.hid (two_below w (.cells #[.slice pa m pc, .int .i64 a] 31) (.cells #[.int .i64 0, .int .i64 0] 23))
  go_enter Tryd.func11, Tryd.ntmps11
  go_wp2_with (go_at_call 9; ((with_reducible refine (cF _).mono ?_); rintro e w1 ⟨rfl, rfl⟩))
  have h3 : ∀ o3 : Obj, (((w.alloc (.cells #[.slice pa m pc, .int .i64 a] 31)).alloc (.cells #[.int .i64 0, .int .i64 0] 23)).alloc o3).heap[w.heap.size + 1]? = some (.cells #[.int .i64 0, .int .i64 0] 23) := fun o3 => (Below.heap_alloc _ _ _ (by simp)).trans (two_heap w _ _)
  exact bodyPost_ret (results_row_tmp rfl _ _ (w.heap.size + 1) _ #[.int .i64 0, .int .i64 0] _ _ _ rfl rfl (h3 _) Tryd.underlying23 rfl (by kernel_rfl)) rfl ⟨rfl, HB.out.alloc (by simp; omega) _⟩
end

set_option maxRecDepth 100000 in
set_option maxHeartbeats 16000000 in
theorem lawNob_walk (w : World) (hT : OwnT w) (id n a : Int) (pa : Option Addr) (m pc : Nat) : Calls Tryd.prog 3 #[.int .i64 id, .agg #[.int .i64 n, .int .i64 a], .slice pa m pc] w fun e w' => e = .returned (.bool true) ∧ Below w.heap.size w w' := by
  have HT := Lib.hid hT
  obtain ⟨W, hW⟩ : ∃ W, w.alloc (.cells #[.int .i64 n, .int .i64 a] 23) = W := ⟨_, rfl⟩
  have hb1 : Below w.heap.size w W := by rw [← hW]; exact (Below.refl _ _).alloc (Nat.le_refl _) _
  have hsz : W.heap.size = w.heap.size + 1 := by rw [← hW]; simp
  have x0 : W.cell? ⟨w.heap.size, 0, none⟩ = some (.int .i64 n) := by rw [← hW]; simp [go_sem]
  have x1 : W.cell? ⟨w.heap.size, 1, none⟩ = some (.int .i64 a) := by rw [← hW]; simp [go_sem]
  have KS : Hid (∀ w', Below W.heap.size W w' → (w'.cell? ⟨w.heap.size, 0, none⟩ = some (.int .i64 n) ∧ w'.cell? ⟨w.heap.size, 1, none⟩ = some (.int .i64 a))) := Lib.hid (fun w' h => ⟨(h.cell (lt_of_cell' x0)).trans x0, (h.cell (lt_of_cell' x1)).trans x1⟩)
  have HB1 := Lib.hid hb1
  have HSZ := Lib.hid hsz
  have hb := Lib.hid (Below.refl W.heap.size W)
  obtain ⟨k1, k2⟩ := KS.out W (Below.refl _ _)
  have cA := fun W' (hb : Below W.heap.size W W') => oawake_any W' ((HT.out.below hb1).below hb)
  clear hT hb1 hsz x0 x1
  by_cases hm : 100 < m
  · have hmI : (100 : Int) < (m : Int) := by omega
    go_enter Tryd.func3, Tryd.ntmps3
    go_wp2_with (go_at_call 7; ((with_reducible refine (cA _ (show Below W.heap.size W _ by (repeat (first | (with_reducible exact hb.out) | (with_reducible exact hb.out.size) | (with_reducible exact Below.refl _ _) | (with_reducible refine Below.drew ?_) | (with_reducible refine Below.alloc ?_ ?_ _) | (with_reducible refine Below.setCell ?_ ?_ _) | omega | (simp <;> omega))))).mono ?_); rintro e w5 ⟨rfl, hb5⟩; have hd2 := Lib.hid ((show Below W.heap.size W _ by (repeat (first | (with_reducible exact hb.out) | (with_reducible exact hb.out.size) | (with_reducible exact Below.refl _ _) | (with_reducible refine Below.drew ?_) | (with_reducible refine Below.alloc ?_ ?_ _) | (with_reducible refine Below.setCell ?_ ?_ _) | omega | (simp <;> omega)))).trans (hb5.mono (by first | exact hb.out.size | (simp; exact hb.out.size) | (have hq9 := hb.out.size; simp; omega)))); clear hb hb5; have hb := hd2; clear hd2; obtain ⟨k1, k2⟩ := KS.out _ hb.out))
    go_ret
    exact ⟨rfl, HB1.out.trans (hb.out.mono (by have := HSZ.out; omega))⟩
  · have hmI : ¬ (100 : Int) < (m : Int) := by omega
    go_enter Tryd.func3, Tryd.ntmps3
    go_wp2_with (first
      | (go_at_call 8; ((with_reducible refine (nob_cmp _ _ _ _ _).mono ?_); rintro e w5 ⟨rfl, hb5⟩; have hd2 := Lib.hid ((show Below W.heap.size W _ by (repeat (first | (with_reducible exact hb.out) | (with_reducible exact hb.out.size) | (with_reducible exact Below.refl _ _) | (with_reducible refine Below.drew ?_) | (with_reducible refine Below.alloc ?_ ?_ _) | (with_reducible refine Below.setCell ?_ ?_ _) | omega | (simp <;> omega)))).trans (hb5.mono (by first | exact hb.out.size | (simp; exact hb.out.size) | (have hq9 := hb.out.size; simp; omega)))); clear hb hb5; have hb := hd2; clear hd2; obtain ⟨k1, k2⟩ := KS.out _ hb.out))
      | (go_at_call 9; ((with_reducible refine (nob_find _ _ _).mono ?_); rintro e w5 ⟨rfl, rfl⟩))
      | (go_at_call 10; ((with_reducible refine (nob_point _ _ _).mono ?_); rintro e w5 ⟨rfl, hb5⟩; have hd2 := Lib.hid ((show Below W.heap.size W _ by (repeat (first | (with_reducible exact hb.out) | (with_reducible exact hb.out.size) | (with_reducible exact Below.refl _ _) | (with_reducible refine Below.drew ?_) | (with_reducible refine Below.alloc ?_ ?_ _) | (with_reducible refine Below.setCell ?_ ?_ _) | omega | (simp <;> omega)))).trans (hb5.mono (by first | exact hb.out.size | (simp; exact hb.out.size) | (have hq9 := hb.out.size; simp; omega)))); clear hb hb5; have hb := hd2; clear hd2; obtain ⟨k1, k2⟩ := KS.out _ hb.out))
      | (go_at_call 11; ((with_reducible refine (nob_at _ _ _ _ _).mono ?_); rintro e w5 ⟨rfl, hb5⟩; have hd2 := Lib.hid ((show Below W.heap.size W _ by (repeat (first | (with_reducible exact hb.out) | (with_reducible exact hb.out.size) | (with_reducible exact Below.refl _ _) | (with_reducible refine Below.drew ?_) | (with_reducible refine Below.alloc ?_ ?_ _) | (with_reducible refine Below.setCell ?_ ?_ _) | omega | (simp <;> omega)))).trans (hb5.mono (by first | exact hb.out.size | (simp; exact hb.out.size) | (have hq9 := hb.out.size; simp; omega)))); clear hb hb5; have hb := hd2; clear hd2; obtain ⟨k1, k2⟩ := KS.out _ hb.out))
      | (go_at_call 12; ((with_reducible refine (nob_next _ _).mono ?_); rintro e w5 ⟨rfl, hb5⟩; have hd2 := Lib.hid ((show Below W.heap.size W _ by (repeat (first | (with_reducible exact hb.out) | (with_reducible exact hb.out.size) | (with_reducible exact Below.refl _ _) | (with_reducible refine Below.drew ?_) | (with_reducible refine Below.alloc ?_ ?_ _) | (with_reducible refine Below.setCell ?_ ?_ _) | omega | (simp <;> omega)))).trans (hb5.mono (by first | exact hb.out.size | (simp; exact hb.out.size) | (have hq9 := hb.out.size; simp; omega)))); clear hb hb5; have hb := hd2; clear hd2; obtain ⟨k1, k2⟩ := KS.out _ hb.out))
      | (go_at_call 13; ((with_reducible refine (nob_prev _ _).mono ?_); rintro e w5 ⟨rfl, hb5⟩; have hd2 := Lib.hid ((show Below W.heap.size W _ by (repeat (first | (with_reducible exact hb.out) | (with_reducible exact hb.out.size) | (with_reducible exact Below.refl _ _) | (with_reducible refine Below.drew ?_) | (with_reducible refine Below.alloc ?_ ?_ _) | (with_reducible refine Below.setCell ?_ ?_ _) | omega | (simp <;> omega)))).trans (hb5.mono (by first | exact hb.out.size | (simp; exact hb.out.size) | (have hq9 := hb.out.size; simp; omega)))); clear hb hb5; have hb := hd2; clear hd2; obtain ⟨k1, k2⟩ := KS.out _ hb.out))
      | (go_at_call 14; ((with_reducible refine (nob_behind _ _).mono ?_); rintro e w5 ⟨rfl, hb5⟩; have hd2 := Lib.hid ((show Below W.heap.size W _ by (repeat (first | (with_reducible exact hb.out) | (with_reducible exact hb.out.size) | (with_reducible exact Below.refl _ _) | (with_reducible refine Below.drew ?_) | (with_reducible refine Below.alloc ?_ ?_ _) | (with_reducible refine Below.setCell ?_ ?_ _) | omega | (simp <;> omega)))).trans (hb5.mono (by first | exact hb.out.size | (simp; exact hb.out.size) | (have hq9 := hb.out.size; simp; omega)))); clear hb hb5; have hb := hd2; clear hd2; obtain ⟨k1, k2⟩ := KS.out _ hb.out))
      | (go_at_call 15; ((with_reducible refine (nob_all _ _).mono ?_); rintro e w5 ⟨ka, kc, rfl, hb5⟩; have hd2 := Lib.hid ((show Below W.heap.size W _ by (repeat (first | (with_reducible exact hb.out) | (with_reducible exact hb.out.size) | (with_reducible exact Below.refl _ _) | (with_reducible refine Below.drew ?_) | (with_reducible refine Below.alloc ?_ ?_ _) | (with_reducible refine Below.setCell ?_ ?_ _) | omega | (simp <;> omega)))).trans (hb5.mono (by first | exact hb.out.size | (simp; exact hb.out.size) | (have hq9 := hb.out.size; simp; omega)))); clear hb hb5; have hb := hd2; clear hd2; obtain ⟨k1, k2⟩ := KS.out _ hb.out))
      | (go_at_call 16; ((with_reducible refine (nob_length _ _).mono ?_); rintro e w5 ⟨rfl, hb5⟩; have hd2 := Lib.hid ((show Below W.heap.size W _ by (repeat (first | (with_reducible exact hb.out) | (with_reducible exact hb.out.size) | (with_reducible exact Below.refl _ _) | (with_reducible refine Below.drew ?_) | (with_reducible refine Below.alloc ?_ ?_ _) | (with_reducible refine Below.setCell ?_ ?_ _) | omega | (simp <;> omega)))).trans (hb5.mono (by first | exact hb.out.size | (simp; exact hb.out.size) | (have hq9 := hb.out.size; simp; omega)))); clear hb hb5; have hb := hd2; clear hd2; obtain ⟨k1, k2⟩ := KS.out _ hb.out))
      | (go_at_call 17; ((with_reducible refine (nob_may _ _ _).mono ?_); rintro e w5 ⟨rfl, hb5⟩; have hd2 := Lib.hid ((show Below W.heap.size W _ by (repeat (first | (with_reducible exact hb.out) | (with_reducible exact hb.out.size) | (with_reducible exact Below.refl _ _) | (with_reducible refine Below.drew ?_) | (with_reducible refine Below.alloc ?_ ?_ _) | (with_reducible refine Below.setCell ?_ ?_ _) | omega | (simp <;> omega)))).trans (hb5.mono (by first | exact hb.out.size | (simp; exact hb.out.size) | (have hq9 := hb.out.size; simp; omega)))); clear hb hb5; have hb := hd2; clear hd2; obtain ⟨k1, k2⟩ := KS.out _ hb.out))
      | (go_at_call 18; ((with_reducible refine (nob_clamp _ _ _).mono ?_); rintro e w5 ⟨rfl, hb5⟩; have hd2 := Lib.hid ((show Below W.heap.size W _ by (repeat (first | (with_reducible exact hb.out) | (with_reducible exact hb.out.size) | (with_reducible exact Below.refl _ _) | (with_reducible refine Below.drew ?_) | (with_reducible refine Below.alloc ?_ ?_ _) | (with_reducible refine Below.setCell ?_ ?_ _) | omega | (simp <;> omega)))).trans (hb5.mono (by first | exact hb.out.size | (simp; exact hb.out.size) | (have hq9 := hb.out.size; simp; omega)))); clear hb hb5; have hb := hd2; clear hd2; obtain ⟨k1, k2⟩ := KS.out _ hb.out))
      | (go_at_call 19; ((with_reducible refine (nob_within _ _ _).mono ?_); rintro e w5 ⟨rfl, hb5⟩; have hd2 := Lib.hid ((show Below W.heap.size W _ by (repeat (first | (with_reducible exact hb.out) | (with_reducible exact hb.out.size) | (with_reducible exact Below.refl _ _) | (with_reducible refine Below.drew ?_) | (with_reducible refine Below.alloc ?_ ?_ _) | (with_reducible refine Below.setCell ?_ ?_ _) | omega | (simp <;> omega)))).trans (hb5.mono (by first | exact hb.out.size | (simp; exact hb.out.size) | (have hq9 := hb.out.size; simp; omega)))); clear hb hb5; have hb := hd2; clear hd2; obtain ⟨k1, k2⟩ := KS.out _ hb.out))
      | (go_at_call 20; ((with_reducible refine (nob_path _ _).mono ?_); rintro e w5 ⟨ka, kc, rfl, hb5⟩; have hd2 := Lib.hid ((show Below W.heap.size W _ by (repeat (first | (with_reducible exact hb.out) | (with_reducible exact hb.out.size) | (with_reducible exact Below.refl _ _) | (with_reducible refine Below.drew ?_) | (with_reducible refine Below.alloc ?_ ?_ _) | (with_reducible refine Below.setCell ?_ ?_ _) | omega | (simp <;> omega)))).trans (hb5.mono (by first | exact hb.out.size | (simp; exact hb.out.size) | (have hq9 := hb.out.size; simp; omega)))); clear hb hb5; have hb := hd2; clear hd2; obtain ⟨k1, k2⟩ := KS.out _ hb.out))
      | (go_at_call 7; ((with_reducible refine (cA _ (show Below W.heap.size W _ by (repeat (first | (with_reducible exact hb.out) | (with_reducible exact hb.out.size) | (with_reducible exact Below.refl _ _) | (with_reducible refine Below.drew ?_) | (with_reducible refine Below.alloc ?_ ?_ _) | (with_reducible refine Below.setCell ?_ ?_ _) | omega | (simp <;> omega))))).mono ?_); rintro e w5 ⟨rfl, hb5⟩; have hd2 := Lib.hid ((show Below W.heap.size W _ by (repeat (first | (with_reducible exact hb.out) | (with_reducible exact hb.out.size) | (with_reducible exact Below.refl _ _) | (with_reducible refine Below.drew ?_) | (with_reducible refine Below.alloc ?_ ?_ _) | (with_reducible refine Below.setCell ?_ ?_ _) | omega | (simp <;> omega)))).trans (hb5.mono (by first | exact hb.out.size | (simp; exact hb.out.size) | (have hq9 := hb.out.size; simp; omega)))); clear hb hb5; have hb := hd2; clear hd2; obtain ⟨k1, k2⟩ := KS.out _ hb.out)))
    go_ret
    exact ⟨rfl, HB1.out.trans (hb.out.mono (by have := HSZ.out; omega))⟩

end Go.Proofs.YtggjoefhopoggaaDoor
