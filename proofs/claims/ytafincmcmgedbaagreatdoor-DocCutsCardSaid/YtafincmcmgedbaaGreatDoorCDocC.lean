/-
  The program's Cmp, Offset, Step.
-/
import Derived.Test.YtafincmcmgedbaaGreatDoorCDocA
import Derived.Deep.RegionWith
import Derived.IntWalk

namespace Go.Proofs.YtafincmcmgedbaaGreatDoor
open Go.RowKit Go.Lib

set_option maxHeartbeats 1000000 in
theorem isNaN_any (a : Int) (w : World) : Calls Tryz.prog 105 #[.int .i64 a] w fun e w' => e = .returned (.bool false) ∧ w = w' := by
  go_enter Tryz.func105, Tryz.ntmps105
  go_wp2
  go_ret
  exact ⟨ret_bool (by simp), rfl⟩
set_option maxHeartbeats 1000000 in
theorem compare_any (a b : Int) (w : World) : Calls Tryz.prog 65 #[.int .i64 a, .int .i64 b] w fun e w' => e = .returned (.int .i64 (cmpI a b)) ∧ w = w' := by
  have cN := isNaN_any
  unfold cmpI
  by_cases h1 : a < b
  · rw [if_pos h1]
    go_enter Tryz.func65, Tryz.ntmps65
    go_wp2_with (go_at_call 105; ((with_reducible refine (cN _ _).mono ?_); rintro e w1 ⟨rfl, rfl⟩))
    go_ret
    exact ⟨rfl, rfl⟩
  · rw [if_neg h1]
    by_cases h2 : a = b
    · subst h2
      rw [if_pos rfl]
      go_enter Tryz.func65, Tryz.ntmps65
      go_wp2_with (go_at_call 105; ((with_reducible refine (cN _ _).mono ?_); rintro e w1 ⟨rfl, rfl⟩))
      go_ret
      exact ⟨rfl, rfl⟩
    · rw [if_neg h2]
      have h3 : b < a := by omega
      go_enter Tryz.func65, Tryz.ntmps65
      go_wp2_with (go_at_call 105; ((with_reducible refine (cN _ _).mono ?_); rintro e w1 ⟨rfl, rfl⟩))
      go_ret
      exact ⟨rfl, rfl⟩
set_option maxHeartbeats 2000000 in
theorem or_any (x y : Int) (g : Nat) (w : World) (h0 : w.cell? ⟨g, 0, none⟩ = some (.int .i64 x)) (h1 : w.cell? ⟨g, 1, none⟩ = some (.int .i64 y)) :
    Calls Tryz.prog 64 #[.slice (some ⟨g, 0, none⟩) 2 2] w fun e w' => e = .returned (.int .i64 (if x ≠ 0 then x else y)) ∧ w = w' := by
  obtain ⟨R, hR⟩ : ∃ R, (if x ≠ 0 then x else y) = R := ⟨_, rfl⟩
  rw [hR]
  have HR := Lib.hid hR
  clear hR
  go_enter Tryz.func64, Tryz.ntmps64
  go_wp2
  go_loop [5, 8] (fun _ i => ∃ k : Nat, k ≤ 2 ∧ i = .int .i64 k ∧ Hid (1 ≤ k → x = 0) ∧ Hid (2 ≤ k → y = 0)) (fun _ i => 2 - (RowKit.intOf i).toNat)
  case atStart => exact ⟨0, by omega, rfl, Lib.hid (by omega), Lib.hid (by omega)⟩
  case round =>
    obtain ⟨k, hk, rfl, H1, H2⟩ := hrel
    match k, hk with
    | 0, _ =>
      by_cases hx : x = 0
      · subst hx
        go_wp2
        go_round
        case rel => exact ⟨1, by omega, by go_num, Lib.hid (by simp), Lib.hid (by omega)⟩
        case measure => simp [RowKit.intOf]
      · have hxb : (x != 0) = true := by simpa using hx
        go_wp2
        go_ret
        exact ⟨ret_int (by rw [← HR.out, if_pos hx]), rfl⟩
    | 1, _ =>
      have hx0 := H1.out (by omega)
      subst hx0
      by_cases hy : y = 0
      · subst hy
        go_wp2
        go_round
        case rel => exact ⟨2, by omega, by go_num, Lib.hid (by simp), Lib.hid (by simp)⟩
        case measure => simp [RowKit.intOf]
      · have hyb : (y != 0) = true := by simpa using hy
        go_wp2
        go_ret
        exact ⟨ret_int (by rw [← HR.out, if_neg (by simp)]), rfl⟩
    | 2, _ =>
      have hx0 := H1.out (by omega)
      have hy0 := H2.out (by omega)
      subst hx0 hy0
      go_wp2
      go_ret
      exact ⟨ret_int (by rw [← HR.out]; simp), rfl⟩

set_option maxRecDepth 20000 in
set_option maxHeartbeats 4000000 in
theorem dcmp_any (p1 p2 q1 q2 : Int) (w : World) :
    Calls Tryz.prog 23 #[psV (p1, p2), psV (q1, q2)] w fun e w' => e = .returned (.int .i64 (cmpP (p1, p2) (q1, q2))) ∧ Below w.heap.size w w' := by
  have cC := compare_any
  have cO := fun x y g w h0 h1 => or_any x y g w h0 h1
  unfold cmpP psV
  dsimp only
  have P0 := Lib.hid ((ps_new w p1 p2).below (below_alloc1 _ (.cells #[.int .i64 q1, .int .i64 q2] 24)))
  have P1 := Lib.hid (ps_new (w.alloc (.cells #[.int .i64 p1, .int .i64 p2] 24)) q1 q2)
  rw [show (w.alloc (.cells #[.int .i64 p1, .int .i64 p2] 24)).heap.size = w.heap.size + 1 by simp] at P1
  have hX := Lib.hid (two_allocs w (.cells #[.int .i64 p1, .int .i64 p2] 24) (.cells #[.int .i64 q1, .int .i64 q2] 24))
  obtain ⟨A, hA⟩ : ∃ A, cmpI p1 q1 = A := ⟨_, rfl⟩
  obtain ⟨C, hC⟩ : ∃ C, cmpI p2 q2 = C := ⟨_, rfl⟩
  have cA := cC p1 q1
  have cB := cC p2 q2
  obtain ⟨R, hR⟩ : ∃ R, (if A ≠ 0 then A else C) = R := ⟨_, rfl⟩
  have cR := fun g w h0 h1 => cO A C g w h0 h1
  rw [hR] at cR
  rw [hA] at cA ⊢
  rw [hC] at cB ⊢
  rw [hR]
  clear hA hC hR cC cO
  go_enter Tryz.func23, Tryz.ntmps23
  go_wp2
  obtain ⟨W, hW⟩ : ∃ W, (w.alloc (.cells #[.int .i64 p1, .int .i64 p2] 24)).alloc (.cells #[.int .i64 q1, .int .i64 q2] 24) = W := ⟨_, rfl⟩
  rw [hW] at P0 P1 hX ⊢
  obtain ⟨_, x0, x1, _, _⟩ := P0.out
  obtain ⟨_, y0, y1, _, _⟩ := P1.out
  clear hW P0 P1
  have cA' : ∀ w, Calls Tryz.prog 65 #[.int .i64 p1, .int .i64 q1] w fun e w' => e = .returned (.int .i64 A) ∧ w' = w := fun w => (cA w).mono fun _ _ h => ⟨h.1, h.2.symm⟩
  have cB' : ∀ w, Calls Tryz.prog 65 #[.int .i64 p2, .int .i64 q2] w fun e w' => e = .returned (.int .i64 C) ∧ w' = w := fun w => (cB w).mono fun _ _ h => ⟨h.1, h.2.symm⟩
  go_still_tail 10, (by kernel_rfl)
  still_call (cA' _)
  repeat still_step
  still_call (cB' _)
  refine wpStill_nil ?_
  change wpList _ _ _ _ _ W.drew
  go_wp2_with (go_at_call 64; ((with_reducible refine (cR _ _ ?h0 ?h1).mono ?_); (case h0 => simp [go_sem]); (case h1 => simp [go_sem]); rintro e w1 ⟨rfl, rfl⟩))
  go_ret
  exact ⟨ret_int rfl, by repeat (first | (with_reducible exact hX.out) | (with_reducible refine Below.drew ?_) | (with_reducible refine Below.alloc ?_ ?_ _) | exact hX.out.size | omega | (simp; done))⟩

set_option maxRecDepth 20000 in
set_option maxHeartbeats 4000000 in
theorem doffset_any (v : Value) (l : List Lw) (p1 p2 : Int) (w : World) (h : SliceAt w v l) (hl : l.length ≤ 1000) (hz : sizeD (pl l) ≤ 1000000) :
    Calls Tryz.prog 25 #[v, psV (p1, p2)] w fun e w' => e = .returned (.tuple #[.int .i64 (offsetD (pl l) (p1, p2)).1, .int .i64 (offsetD (pl l) (p1, p2)).2]) ∧ Below w.heap.size w w' := by
  obtain ⟨a, c, rfl⟩ := h.len
  have hc : ∀ k, k < l.length → cnt (pl l) k ≤ 1000000 := fun k hk => by have := cnt_le (d := pl l) (i := k) (by rw [pl_length]; exact hk); omega
  have cI : ∀ w1, Below w.heap.size w w1 → Calls Tryz.prog 19 #[.slice a l.length c, psV (p1, p2)] w1 fun e w' => e = .returned (.bool (isD (pl l) (p1, p2))) ∧ Below w1.heap.size w1 w' := fun w1 h1 => dis_any _ l p1 p2 w1 (h.below h1) hl hc
  have ba : ∀ o, Below w.heap.size w (w.alloc o) := fun o => below_alloc1 _ _
  unfold psV at cI ⊢
  dsimp only at cI ⊢
  cases hI : isD (pl l) (p1, p2) with
  | false =>
    have e : offsetD (pl l) (p1, p2) = (0, 1) := by unfold offsetD; rw [hI]; rfl
    rw [e]
    rw [hI] at cI
    obtain ⟨n, hn⟩ : ∃ n, l.length = n := ⟨_, rfl⟩
    rw [hn] at cI ⊢
    clear e hI hc hz h hl hn
    go_enter Tryz.func25, Tryz.ntmps25
    go_wp2_with (go_at_call 19; ((with_reducible refine (cI _ (ba _)).mono ?_); rintro e w2 ⟨rfl, hb⟩))
    go_ret2
    exact ⟨rfl, (ba _).trans (hb.mono (by simp))⟩
  | true =>
    obtain ⟨i, k, hp, hi, hk⟩ := isD_nat hI
    simp only [Prod.mk.injEq] at hp
    obtain ⟨rfl, rfl⟩ := hp
    rw [offsetD_mk hi hk]
    rw [hI] at cI
    rw [pl_length] at hi
    obtain ⟨v', s', r'⟩ := cut_h h i (Nat.le_of_lt hi)
    obtain ⟨a2, c2, e2⟩ := s'.len
    have hzz : sizeD (pl (l.take i)) ≤ 1000000 := by rw [pl_take]; have := sizeD_take_le (pl l) i; omega
    have cS : ∀ w1, Below w.heap.size w w1 → Calls Tryz.prog 15 #[v'] w1 fun e w' => e = .returned (.int .i64 ((sizeD ((pl l).take i) : Nat) : Int)) ∧ Below w1.heap.size w1 w' := fun w1 h1 => by
      have := dsize_any v' (l.take i) w1 (s'.below h1) (by rw [List.length_take]; omega) hzz
      rwa [pl_take] at this
    have hck := hc i hi
    unfold offN
    rw [pl_take] at hzz
    obtain ⟨S, hS⟩ : ∃ S, sizeD ((pl l).take i) = S := ⟨_, rfl⟩
    rw [hS] at cS hzz ⊢
    obtain ⟨m, hm⟩ : ∃ m, (l.take i).length = m := ⟨_, rfl⟩
    rw [hm] at e2
    subst e2
    obtain ⟨n, hn⟩ : ∃ n, l.length = n := ⟨_, rfl⟩
    rw [hn] at cI r' hl hi ⊢
    clear hI hc hz h hn hS hm s'
    dsimp only
    rw [Int.natCast_add, Int.natCast_add]
    have W1 := Lib.hid (IntWalk.i64_in ((S : Int) + i) (by omega))
    have W2 := Lib.hid (IntWalk.i64_in ((S : Int) + i + k) (by omega))
    go_enter Tryz.func25, Tryz.ntmps25
    go_wp2_with (go_at_call 19; ((with_reducible refine (cI _ (ba _)).mono ?_); rintro e w2 ⟨rfl, hb⟩; have y0 : w2.cell? ⟨w.heap.size, 0, none⟩ = some (.int .i64 (i : Int)) := (hb.cell (by simp)).trans (by simp [go_sem]); have y1 : w2.cell? ⟨w.heap.size, 1, none⟩ = some (.int .i64 (k : Int)) := (hb.cell (by simp)).trans (by simp [go_sem]); have hb2 : Below w.heap.size w w2 := (ba _).trans (hb.mono (by simp)); have hw2 : w.heap.size < w2.heap.size := Nat.lt_of_lt_of_le (by simp) hb.size; clear hb))
    go_region_with (go_at_call 15; ((with_reducible refine (cS _ ?hb).mono ?_); (case hb => (repeat (first | (with_reducible exact hb2) | (with_reducible refine Below.drew ?_)))); rintro e w3 ⟨rfl, hb3⟩; replace y0 := (hb3.cell (p := ⟨w.heap.size, 0, none⟩) (by first | exact hw2 | (simp; exact hw2))).trans y0; replace y1 := (hb3.cell (p := ⟨w.heap.size, 1, none⟩) (by first | exact hw2 | (simp; exact hw2))).trans y1; replace hb2 := (show Below w.heap.size w _ by (repeat (first | (with_reducible exact hb2) | (with_reducible refine Below.drew ?_)))).trans (hb3.mono (by have := hb2.size; first | exact this | (simp; exact this))); clear hb3))
    all_goals (try rw [W1.out])
    all_goals go_wp2
    all_goals (try rw [W2.out])
    all_goals go_ret2
    all_goals exact ⟨rfl, by repeat (first | (with_reducible exact hb2) | (with_reducible refine Below.drew ?_))⟩

end Go.Proofs.YtafincmcmgedbaaGreatDoor
