/-
  The law DocSteps.
-/
import Derived.Test.YtehjfcefkiglaaaDoorCAppG
import Derived.Deep.RegionHeld3
import Derived.Deep.DeepCutAuto
import Derived.Test.YtehjfcefkiglaaaDoorCDocP
import Derived.Test.YtehjfcefkiglaaaDoorCDocD

namespace Go.Proofs.YtehjfcefkiglaaaDoor
open Go.RowKit Go.Lib

set_option maxRecDepth 40000 in
set_option maxHeartbeats 64000000 in
theorem lawSteps_walk (v : Value) (l : List Lw) (n m z : Int) (w : World) (hE : Tg.Env w) (h : DocAt w v l) (hs : SizedD l) (hz0 : -(2 ^ 63) ≤ z) (hz1 : z ≤ 2 ^ 63 - 1) :
    Calls Tryd.prog 3 #[v, .int .i64 n, .int .i64 m, .int .i64 z] w fun e w' => e = .returned (.bool true) ∧ Below w.heap.size w w' := by
  have hp : Tryd.prog.stoodInHeld 29 = false := by kernel_rfl
  have hS : Tryd.prog.underlying 29 = some (.struct (Tryd.prog.fieldsOf 29)) := by kernel_rfl
  have hq : ∀ (a b c d : Int) (W : World), (binOp .eql 29 (.agg #[.int .i64 a, .int .i64 b]) (.agg #[.int .i64 c, .int .i64 d])).run Tryd.prog W = .ok (.bool (decide (a = c) && decide (b = d))) W := fun a b c d W => by
    rw [run_eql_struct, show (10000 : Nat) = 9999 + 1 from rfl, run_equalIn_agg W 9999 29 _ _ hS hp]
    simp only [Program.fieldsOf, Tryd.underlying29]
    go_simp
    by_cases k1 : a = c <;> by_cases k2 : b = d <;> simp_all
  have hq2 : ∀ (a b c d : Int) (W : World), (binOp .neq 29 (.agg #[.int .i64 a, .int .i64 b]) (.agg #[.int .i64 c, .int .i64 d])).run Tryd.prog W = .ok (.bool (!(decide (a = c) && decide (b = d)))) W := fun a b c d W => by
    rw [run_neq_struct, show (10000 : Nat) = 9999 + 1 from rfl, run_equalIn_agg W 9999 29 _ _ hS hp]
    simp only [Program.fieldsOf, Tryd.underlying29]
    go_simp
    by_cases k1 : a = c <;> by_cases k2 : b = d <;> simp_all
  have hm : Tryd.prog.eqGuardType Tryd.prog.depth 29 = false := by kernel_rfl
  clear hp hS
  obtain ⟨a, c, rfl⟩ := h.s.len
  have cW : ∀ w1, Below w.heap.size w w1 → _ := fun w1 h1 => awake_any w1 (hE.below h1)
  have cL : ∀ w1, Below w.heap.size w w1 → _ := fun w1 h1 => llong_any _ l w1 (h.below h1) hs
  have hb : Hid (Below w.heap.size w w) := Lib.hid (Below.refl _ _)
  by_cases hlg : longD (pl l) = true
  · rw [hlg] at cL
    clear h hs hE hlg hz0 hz1
    go_enter Tryd.func3, Tryd.ntmps3
    go_wp2_with (first
      | (go_at_call 4; ((with_reducible refine (cL _ ?hb).mono ?_); (case hb => (repeat (first | (with_reducible exact hb.out) | (with_reducible exact Below.refl _ _) | (with_reducible refine Below.drew ?_) | (with_reducible refine Below.alloc ?_ ?_ _) | omega | (simp <;> omega)))); rintro e w1 ⟨rfl, hk⟩; have hd := Lib.hid ((show Below w.heap.size w _ by (repeat (first | (with_reducible exact hb.out) | (with_reducible exact Below.refl _ _) | (with_reducible refine Below.drew ?_) | (with_reducible refine Below.alloc ?_ ?_ _) | omega | (simp <;> omega)))).trans (hk.mono (by (first | omega | (simp; done) | (simp; omega))))); clear hb; have hb := hd; (try clear hs); have hs := hb.out.size; clear hd hk))
      | (go_at_call 5; ((with_reducible refine (cW _ ?hb).mono ?_); (case hb => (repeat (first | (with_reducible exact hb.out) | (with_reducible exact Below.refl _ _) | (with_reducible refine Below.drew ?_) | (with_reducible refine Below.alloc ?_ ?_ _) | omega | (simp <;> omega)))); rintro e w14 ⟨rfl, hk⟩; have hd := Lib.hid ((show Below w.heap.size w _ by (repeat (first | (with_reducible exact hb.out) | (with_reducible exact Below.refl _ _) | (with_reducible refine Below.drew ?_) | (with_reducible refine Below.alloc ?_ ?_ _) | omega | (simp <;> omega)))).trans (hk.mono (by (first | omega | (simp; done) | (simp; omega))))); clear hb; have hb := hd; (try clear hs); have hs := hb.out.size; clear hd hk)))
    all_goals go_ret
    all_goals exact ⟨rfl, hb.out⟩
  have hlg' : longD (pl l) = false := by simpa using hlg
  rw [hlg'] at cL
  obtain ⟨hf, hsz, hlen⟩ := longD_false hlg'
  have hlen2 := hlen
  rw [pl_length] at hlen
  by_cases h0 : l.length = 0
  · rw [h0] at cL ⊢
    clear h hs hE hlg hlg' hf hsz hlen h0 hz0 hz1
    go_enter Tryd.func3, Tryd.ntmps3
    go_wp2_with (first
      | (go_at_call 4; ((with_reducible refine (cL _ ?hb).mono ?_); (case hb => (repeat (first | (with_reducible exact hb.out) | (with_reducible exact Below.refl _ _) | (with_reducible refine Below.drew ?_) | (with_reducible refine Below.alloc ?_ ?_ _) | omega | (simp <;> omega)))); rintro e w1 ⟨rfl, hk⟩; have hd := Lib.hid ((show Below w.heap.size w _ by (repeat (first | (with_reducible exact hb.out) | (with_reducible exact Below.refl _ _) | (with_reducible refine Below.drew ?_) | (with_reducible refine Below.alloc ?_ ?_ _) | omega | (simp <;> omega)))).trans (hk.mono (by (first | omega | (simp; done) | (simp; omega))))); clear hb; have hb := hd; (try clear hs); have hs := hb.out.size; clear hd hk))
      | (go_at_call 5; ((with_reducible refine (cW _ ?hb).mono ?_); (case hb => (repeat (first | (with_reducible exact hb.out) | (with_reducible exact Below.refl _ _) | (with_reducible refine Below.drew ?_) | (with_reducible refine Below.alloc ?_ ?_ _) | omega | (simp <;> omega)))); rintro e w14 ⟨rfl, hk⟩; have hd := Lib.hid ((show Below w.heap.size w _ by (repeat (first | (with_reducible exact hb.out) | (with_reducible exact Below.refl _ _) | (with_reducible refine Below.drew ?_) | (with_reducible refine Below.alloc ?_ ?_ _) | omega | (simp <;> omega)))).trans (hk.mono (by (first | omega | (simp; done) | (simp; omega))))); clear hb; have hb := hd; (try clear hs); have hs := hb.out.size; clear hd hk)))
    all_goals go_ret
    all_goals exact ⟨rfl, hb.out⟩
  have hl0 : 0 < (pl l).length := by rw [pl_length]; omega
  obtain ⟨T, hT⟩ : ∃ T, sizeD (pl l) + (pl l).length = T + 1 := ⟨sizeD (pl l) + (pl l).length - 1, by omega⟩
  obtain ⟨N0, hN0, hN1⟩ := and24 n
  obtain ⟨M0, hM0, hM1⟩ := and24 m
  obtain ⟨N, hN⟩ : ∃ N, N0 % (T + 1) = N := ⟨_, rfl⟩
  obtain ⟨M, hM⟩ : ∃ M, M0 % (T + 1) = M := ⟨_, rfl⟩
  have hNT : N ≤ T := by rw [← hN]; exact Nat.le_of_lt_succ (Nat.mod_lt _ (by omega))
  have hMT : M ≤ T := by rw [← hM]; exact Nat.le_of_lt_succ (Nat.mod_lt _ (by omega))
  obtain ⟨i, k, hi, hk, hNo, hpN⟩ := at_place (d := pl l) (a := N) (by omega)
  obtain ⟨i', k', hi', hk', hMo, hpM⟩ := at_place (d := pl l) (a := M) (by omega)
  have eEnd := offset_end hT hl0
  have eOff := offsetD_mk hi hk
  have eIs := isD_mk hi hk
  have eCl := clampD_self eIs
  have eCmp := cmp_off hi hk hi' hk'
  have eTo := step_to hT hi hk hi' hk' (z := (M : Int) - (N : Int)) (by rw [hNo, hMo]; omega)
  have eAny := step_any hT hi hk z
  rw [hNo] at eOff eCmp
  rw [hMo] at eCmp
  obtain ⟨eI, eK, hEnd⟩ : ∃ a b : Int, endD (pl l) = (a, b) := ⟨_, _, rfl⟩
  have cE : ∀ w1, Below w.heap.size w w1 → _ := fun w1 h1 => dend_any _ l w1 (h.s.below h1) hf.len
  have cO1 : ∀ w1, Below w.heap.size w w1 → _ := fun w1 h1 => doffset_any _ l eI eK w1 (h.s.below h1) hf.len hf.s
  have cO2 : ∀ w1, Below w.heap.size w w1 → _ := fun w1 h1 => doffset_any _ l (i : Int) (k : Int) w1 (h.s.below h1) hf.len hf.s
  have cZ : ∀ w1, Below w.heap.size w w1 → _ := fun w1 h1 => dsize_any _ l w1 (h.s.below h1) hf.len hf.s
  have cA1 : ∀ w1, Below w.heap.size w w1 → _ := fun w1 h1 => dat_any _ l (N : Int) w1 (h.s.below h1) hf.len hf.cnt (by omega)
  have cA2 : ∀ w1, Below w.heap.size w w1 → _ := fun w1 h1 => dat_any _ l (M : Int) w1 (h.s.below h1) hf.len hf.cnt (by omega)
  have cI : ∀ w1, Below w.heap.size w w1 → _ := fun w1 h1 => dis_any _ l (i : Int) (k : Int) w1 (h.s.below h1) hf.len hf.cnt
  have cC : ∀ w1, Below w.heap.size w w1 → _ := fun w1 h1 => dclamp_any _ l (i : Int) (k : Int) w1 (h.s.below h1) hf.len hf.cnt
  have cP : ∀ w1, Below w.heap.size w w1 → _ := fun w1 _ => dcmp_any (i : Int) (k : Int) (i' : Int) (k' : Int) w1
  have cS1 : ∀ w1, Below w.heap.size w w1 → _ := fun w1 h1 => dstep_any _ l (i : Int) (k : Int) ((M : Int) - (N : Int)) w1 (h.s.below h1) hf (by omega) (by omega)
  have cS2 : ∀ w1, Below w.heap.size w w1 → _ := fun w1 h1 => dstep_any _ l (i : Int) (k : Int) z w1 (h.s.below h1) hf hz0 hz1
  have cS3 : ∀ (x y : Int) w1, -(T : Int) ≤ z → z ≤ T → Below w.heap.size w w1 → _ := fun x y w1 a1 a2 h1 => dstep_any _ l x y (-z) w1 (h.s.below h1) hf (by omega) (by omega)
  rw [hEnd] at cE
  rw [← hEnd, eEnd] at cO1
  rw [eOff] at cO2
  rw [hpN] at cA1
  rw [hpM] at cA2
  rw [eIs] at cI
  rw [eCl] at cC
  rw [eCmp] at cP
  rw [eTo] at cS1
  unfold errZ at cA1 cA2
  unfold psV at cE cO1 cO2 cA1 cA2 cI cC cP cS1 cS2 cS3
  rw [hEnd] at cO1
  dsimp only at cE cO1 cO2 cA1 cA2 cI cC cP cS1 cS2 cS3
  obtain ⟨Sz, hSz⟩ : ∃ Sz, sizeD (pl l) = Sz := ⟨_, rfl⟩
  obtain ⟨ln, hln⟩ : ∃ ln, l.length = ln := ⟨_, rfl⟩
  rw [hSz] at cZ
  have hT2 : Sz + ln = T + 1 := by rw [← hSz, ← hln, ← pl_length]; exact hT
  rw [hln] at cL cE cO1 cO2 cZ cA1 cA2 cI cC cS1 cS2 cS3 hlen h0 ⊢
  have hTb : T ≤ 20300 := by omega
  have a1 : IntKind.i64.wrap ((Sz : Int) + (ln : Int)) = (Sz : Int) + (ln : Int) := IntWalk.i64_in _ (by omega)
  have a2 : IntKind.i64.wrap ((Sz : Int) + (ln : Int) - 1) = (T : Int) := by rw [IntWalk.i64_in _ (by omega)]; omega
  have a3 : IntKind.i64.wrap ((T : Int) + 1) = (T : Int) + 1 := IntWalk.i64_in _ (by omega)
  have a4 : IntKind.i64.wrap ((M : Int) - (N : Int)) = (M : Int) - (N : Int) := IntWalk.i64_in _ (by omega)
  have a5 : Int.tmod (N0 : Int) ((T : Int) + 1) = (N : Int) := by rw [← hN]; exact (Int.ofNat_tmod N0 (T + 1)).symm
  have a6 : Int.tmod (M0 : Int) ((T : Int) + 1) = (M : Int) := by rw [← hM]; exact (Int.ofNat_tmod M0 (T + 1)).symm
  have a7 : ¬ (T : Int) + 1 = 0 := by omega
  have a8 : ((T : Int) + 1 == 0) = false := by simpa using a7
  have a9 : ((ln : Int) == 0) = false := by simp; omega
  have HT := Lib.hid hTb
  have HA := Lib.hid eAny
  have HN := Lib.hid (And.intro hNT hMT)
  have HE := Lib.hid hEnd
  clear h hs hE hlg hlg' hf hsz hlen hlen2 h0 hl0 hT hN1 hM1 hN hM hi hk hi' hk' hNo hMo hpN hpM eEnd eOff eIs eCl eCmp eTo eAny hEnd hSz hln hT2 hTb hz0 hz1 hNT hMT
  go_enter Tryd.func3, Tryd.ntmps3
  go_upto_region 11 with (first
    | (go_at_call 4; ((with_reducible refine (cL _ ?hb).mono ?_); (case hb => (repeat (first | (with_reducible exact hb.out) | (with_reducible exact Below.refl _ _) | (with_reducible refine Below.drew ?_) | (with_reducible refine Below.alloc ?_ ?_ _) | omega | (simp <;> omega)))); rintro e w1 ⟨rfl, hk⟩; have hd := Lib.hid ((show Below w.heap.size w _ by (repeat (first | (with_reducible exact hb.out) | (with_reducible exact Below.refl _ _) | (with_reducible refine Below.drew ?_) | (with_reducible refine Below.alloc ?_ ?_ _) | omega | (simp <;> omega)))).trans (hk.mono (by (first | omega | (simp; done) | (simp; omega))))); clear hb; have hb := hd; (try clear hs); have hs := hb.out.size; clear hd hk))
    | (go_at_call 7; ((with_reducible refine (cE _ ?hb).mono ?_); (case hb => (repeat (first | (with_reducible exact hb.out) | (with_reducible exact Below.refl _ _) | (with_reducible refine Below.drew ?_) | (with_reducible refine Below.alloc ?_ ?_ _) | omega | (simp <;> omega)))); rintro e w2 ⟨rfl, hk⟩; have hd := Lib.hid ((show Below w.heap.size w _ by (repeat (first | (with_reducible exact hb.out) | (with_reducible exact Below.refl _ _) | (with_reducible refine Below.drew ?_) | (with_reducible refine Below.alloc ?_ ?_ _) | omega | (simp <;> omega)))).trans (hk.mono (by (first | omega | (simp; done) | (simp; omega))))); clear hb; have hb := hd; (try clear hs); have hs := hb.out.size; clear hd hk))
    | (go_at_call 6; ((with_reducible refine (cO1 _ ?hb).mono ?_); (case hb => (repeat (first | (with_reducible exact hb.out) | (with_reducible exact Below.refl _ _) | (with_reducible refine Below.drew ?_) | (with_reducible refine Below.alloc ?_ ?_ _) | omega | (simp <;> omega)))); rintro e w3 ⟨rfl, hk⟩; have hd := Lib.hid ((show Below w.heap.size w _ by (repeat (first | (with_reducible exact hb.out) | (with_reducible exact Below.refl _ _) | (with_reducible refine Below.drew ?_) | (with_reducible refine Below.alloc ?_ ?_ _) | omega | (simp <;> omega)))).trans (hk.mono (by (first | omega | (simp; done) | (simp; omega))))); clear hb; have hb := hd; (try clear hs); have hs := hb.out.size; clear hd hk))
    | (go_at_call 8; ((with_reducible refine (cZ _ ?hb).mono ?_); (case hb => (repeat (first | (with_reducible exact hb.out) | (with_reducible exact Below.refl _ _) | (with_reducible refine Below.drew ?_) | (with_reducible refine Below.alloc ?_ ?_ _) | omega | (simp <;> omega)))); rintro e w4 ⟨rfl, hk⟩; have hd := Lib.hid ((show Below w.heap.size w _ by (repeat (first | (with_reducible exact hb.out) | (with_reducible exact Below.refl _ _) | (with_reducible refine Below.drew ?_) | (with_reducible refine Below.alloc ?_ ?_ _) | omega | (simp <;> omega)))).trans (hk.mono (by (first | omega | (simp; done) | (simp; omega))))); clear hb; have hb := hd; (try clear hs); have hs := hb.out.size; clear hd hk))
    | (go_at_call 9; ((with_reducible refine (cA1 _ ?hb).mono ?_); (case hb => (repeat (first | (with_reducible exact hb.out) | (with_reducible exact Below.refl _ _) | (with_reducible refine Below.drew ?_) | (with_reducible refine Below.alloc ?_ ?_ _) | omega | (simp <;> omega)))); rintro e w5 ⟨rfl, hk⟩; have hd := Lib.hid ((show Below w.heap.size w _ by (repeat (first | (with_reducible exact hb.out) | (with_reducible exact Below.refl _ _) | (with_reducible refine Below.drew ?_) | (with_reducible refine Below.alloc ?_ ?_ _) | omega | (simp <;> omega)))).trans (hk.mono (by (first | omega | (simp; done) | (simp; omega))))); clear hb; have hb := hd; (try clear hs); have hs := hb.out.size; clear hd hk))
    | (go_at_call 9; ((with_reducible refine (cA2 _ ?hb).mono ?_); (case hb => (repeat (first | (with_reducible exact hb.out) | (with_reducible exact Below.refl _ _) | (with_reducible refine Below.drew ?_) | (with_reducible refine Below.alloc ?_ ?_ _) | omega | (simp <;> omega)))); rintro e w6 ⟨rfl, hk⟩; have hd := Lib.hid ((show Below w.heap.size w _ by (repeat (first | (with_reducible exact hb.out) | (with_reducible exact Below.refl _ _) | (with_reducible refine Below.drew ?_) | (with_reducible refine Below.alloc ?_ ?_ _) | omega | (simp <;> omega)))).trans (hk.mono (by (first | omega | (simp; done) | (simp; omega))))); have HP := Lib.hid ((ps_new w5 (i : Int) (k : Int)).below hk); obtain ⟨xl, x0, x1, _, _⟩ := HP.out; clear hb; have hb := hd; (try clear hs); have hs := hb.out.size; clear hd hk))
    | (go_at_call 6; ((with_reducible refine (cO2 _ ?hb).mono ?_); (case hb => (repeat (first | (with_reducible exact hb.out) | (with_reducible exact Below.refl _ _) | (with_reducible refine Below.drew ?_) | (with_reducible refine Below.alloc ?_ ?_ _) | omega | (simp <;> omega)))); rintro e w7 ⟨rfl, hk⟩; have hd := Lib.hid ((show Below w.heap.size w _ by (repeat (first | (with_reducible exact hb.out) | (with_reducible exact Below.refl _ _) | (with_reducible refine Below.drew ?_) | (with_reducible refine Below.alloc ?_ ?_ _) | omega | (simp <;> omega)))).trans (hk.mono (by (first | omega | (simp; done) | (simp; omega))))); have HQ := Lib.hid ((ps_new w6 (i' : Int) (k' : Int)).below hk); replace HP := Lib.hid (HP.out.below ((below_alloc1 w6 _).trans (hk.mono (by simp)))); clear x0 x1; clear hb; have hb := hd; (try clear hs); have hs := hb.out.size; clear hd hk)))
  have KS : Hid (∀ w', Below w7.heap.size w7 w' → (w'.cell? ⟨w5.heap.size, 0, none⟩ = some (.int .i64 (i : Int)) ∧ w'.cell? ⟨w5.heap.size, 1, none⟩ = some (.int .i64 (k : Int)))) := Lib.hid (fun w' h => ⟨(HP.out.below h).c0, (HP.out.below h).c1⟩)
  have hv : Hid (Below w7.heap.size w7 w7) := Lib.hid (Below.refl _ _)
  have hS : (w7.cell? ⟨w5.heap.size, 0, none⟩ = some (.int .i64 (i : Int)) ∧ w7.cell? ⟨w5.heap.size, 1, none⟩ = some (.int .i64 (k : Int))) := KS.out _ hv.out
  go_region_held3 (fun w' => (w'.cell? ⟨w5.heap.size, 0, none⟩ = some (.int .i64 (i : Int)) ∧ w'.cell? ⟨w5.heap.size, 1, none⟩ = some (.int .i64 (k : Int)))) (first | (with_reducible exact hS) | (refine KS.out _ ?_; (repeat (first | (with_reducible exact hv.out) | (with_reducible exact Below.refl _ _) | (with_reducible refine Below.drew ?_) | (with_reducible refine Below.alloc ?_ ?_ _) | omega | (simp <;> omega))); done)) (first
    | (go_at_call 10; ((with_reducible refine (cI _ ?hb).mono ?_); (case hb => (repeat (first | (with_reducible exact hb.out) | (with_reducible exact Below.refl _ _) | (with_reducible refine Below.drew ?_) | (with_reducible refine Below.alloc ?_ ?_ _) | omega | (simp <;> omega)))); rintro e w8 ⟨rfl, hk⟩; have hd := Lib.hid ((show Below w.heap.size w _ by (repeat (first | (with_reducible exact hb.out) | (with_reducible exact Below.refl _ _) | (with_reducible refine Below.drew ?_) | (with_reducible refine Below.alloc ?_ ?_ _) | omega | (simp <;> omega)))).trans (hk.mono (by (first | omega | (simp; done) | (simp; omega))))); have hg := Lib.hid ((show Below w7.heap.size w7 _ by (repeat (first | (with_reducible exact hv.out) | (with_reducible exact Below.refl _ _) | (with_reducible refine Below.drew ?_) | (with_reducible refine Below.alloc ?_ ?_ _) | omega | (simp <;> omega)))).trans (hk.mono (by (first | omega | (simp; done) | (simp; omega))))); replace hS := KS.out _ hg.out; clear hv; have hv := hg; (try clear hsv); have hsv := hv.out.size; clear hg; clear hb; have hb := hd; (try clear hs); have hs := hb.out.size; clear hd hk))
    | (go_at_call 11; ((with_reducible refine (cC _ ?hb).mono ?_); (case hb => (repeat (first | (with_reducible exact hb.out) | (with_reducible exact Below.refl _ _) | (with_reducible refine Below.drew ?_) | (with_reducible refine Below.alloc ?_ ?_ _) | omega | (simp <;> omega)))); rintro e w9 ⟨rfl, hk⟩; have hd := Lib.hid ((show Below w.heap.size w _ by (repeat (first | (with_reducible exact hb.out) | (with_reducible exact Below.refl _ _) | (with_reducible refine Below.drew ?_) | (with_reducible refine Below.alloc ?_ ?_ _) | omega | (simp <;> omega)))).trans (hk.mono (by (first | omega | (simp; done) | (simp; omega))))); have hg := Lib.hid ((show Below w7.heap.size w7 _ by (repeat (first | (with_reducible exact hv.out) | (with_reducible exact Below.refl _ _) | (with_reducible refine Below.drew ?_) | (with_reducible refine Below.alloc ?_ ?_ _) | omega | (simp <;> omega)))).trans (hk.mono (by (first | omega | (simp; done) | (simp; omega))))); replace hS := KS.out _ hg.out; clear hv; have hv := hg; (try clear hsv); have hsv := hv.out.size; clear hg; clear hb; have hb := hd; (try clear hs); have hs := hb.out.size; clear hd hk)))
  replace HP := Lib.hid (HP.out.below hv.out)
  replace HQ := Lib.hid (HQ.out.below hv.out)
  obtain ⟨xl, x0, x1, _, _⟩ := HP.out
  obtain ⟨yl, y0, y1, _, _⟩ := HQ.out
  clear cI cC cO1 cO2 cA1 cA2 cZ KS hS hv
  have hcase : (N < M ∧ cmpI (N : Int) (M : Int) = -1) ∨ (N = M ∧ cmpI (N : Int) (M : Int) = 0) ∨ (M < N ∧ cmpI (N : Int) (M : Int) = 1) := by
    rcases Nat.lt_trichotomy N M with hh | hh | hh
    · exact .inl ⟨hh, cmpI_lt (by omega)⟩
    · exact .inr (.inl ⟨hh, by rw [hh]; exact cmpI_self _⟩)
    · exact .inr (.inr ⟨hh, cmpI_gt (by omega)⟩)
  have HC := Lib.hid hcase
  obtain ⟨Cv, hCv⟩ : ∃ Cv, cmpI (N : Int) (M : Int) = Cv := ⟨_, rfl⟩
  rw [hCv] at cP hcase
  have HCv := Lib.hid hCv
  clear hCv hcase HC
  go_upto_region 14 with (first
    | (go_at_call 12; ((with_reducible refine (cP _ ?hb).mono ?_); (case hb => (repeat (first | (with_reducible exact hb.out) | (with_reducible exact Below.refl _ _) | (with_reducible refine Below.drew ?_) | (with_reducible refine Below.alloc ?_ ?_ _) | omega | (simp <;> omega)))); rintro e w10 ⟨rfl, hk⟩; have hd := Lib.hid ((show Below w.heap.size w _ by (repeat (first | (with_reducible exact hb.out) | (with_reducible exact Below.refl _ _) | (with_reducible refine Below.drew ?_) | (with_reducible refine Below.alloc ?_ ?_ _) | omega | (simp <;> omega)))).trans (hk.mono (by (first | omega | (simp; done) | (simp; omega))))); replace HP := Lib.hid (HP.out.below hk); replace HQ := Lib.hid (HQ.out.below hk); clear xl x0 x1 yl y0 y1; obtain ⟨xl, x0, x1, _, _⟩ := HP.out; obtain ⟨yl, y0, y1, _, _⟩ := HQ.out; clear hb; have hb := hd; (try clear hs); have hs := hb.out.size; clear hd hk)))
  go_cut [132] (fun s wx => s = .bool false ∧ wx = w10)
  case first =>
    have hcase : (N < M ∧ Cv = -1) ∨ (N = M ∧ Cv = 0) ∨ (M < N ∧ Cv = 1) := by
      rcases Nat.lt_trichotomy N M with hh | hh | hh
      · exact .inl ⟨hh, by rw [← HCv.out]; exact cmpI_lt (by omega)⟩
      · exact .inr (.inl ⟨hh, by rw [← HCv.out, hh]; exact cmpI_self _⟩)
      · exact .inr (.inr ⟨hh, by rw [← HCv.out]; exact cmpI_gt (by omega)⟩)
    clear cE cP cS1 cS2 cS3 cW cL a1 a2 a3 a4 a5 a6 a7 a8 a9 hN0 hM0 xl x0 x1 yl y0 y1
    rcases hcase with ⟨hh, rfl⟩ | ⟨hh, rfl⟩ | ⟨hh, rfl⟩
    · have b1 : (N : Int) < (M : Int) := by omega
      have b2 : ¬ (M : Int) < (N : Int) := by omega
      have b3 : ((N : Int) == (M : Int)) = false := by simp; omega
      go_wp2_with fail
      all_goals go_meet
      all_goals exact ⟨rfl, rfl⟩
    · subst hh
      go_wp2_with fail
      all_goals go_meet
      all_goals exact ⟨rfl, rfl⟩
    · have b1 : ¬ (N : Int) < (M : Int) := by omega
      have b2 : (M : Int) < (N : Int) := by omega
      have b3 : ((N : Int) == (M : Int)) = false := by simp; omega
      go_wp2_with fail
      all_goals go_meet
      all_goals exact ⟨rfl, rfl⟩
  case rest =>
    obtain ⟨rfl, hcut2⟩ := hcut
    subst hcut2
    clear cP HCv
    rcases HA.out with ⟨i2, k2, e1, e2, z1, z2⟩ | ⟨e1, z1⟩ | ⟨e1, z1⟩
    · have cU := fun w1 h1 => cS3 (i2 : Int) (k2 : Int) w1 z1 z2 h1
      rw [e1] at cS2
      rw [e2] at cU
      dsimp only at cS2 cU
      have b1 : IntKind.i64.wrap (-z) = -z := IntWalk.i64_in _ (by have := HT.out; omega)
      clear e1 e2 z1 z2 cS3 HA
      go_wp2_with (first
        | (go_at_call 13; ((with_reducible refine (cS1 _ ?hb).mono ?_); (case hb => (repeat (first | (with_reducible exact hb.out) | (with_reducible exact Below.refl _ _) | (with_reducible refine Below.drew ?_) | (with_reducible refine Below.alloc ?_ ?_ _) | omega | (simp <;> omega)))); rintro e w11 ⟨rfl, hk⟩; have hd := Lib.hid ((show Below w.heap.size w _ by (repeat (first | (with_reducible exact hb.out) | (with_reducible exact Below.refl _ _) | (with_reducible refine Below.drew ?_) | (with_reducible refine Below.alloc ?_ ?_ _) | omega | (simp <;> omega)))).trans (hk.mono (by (first | omega | (simp; done) | (simp; omega))))); replace HP := Lib.hid (HP.out.below hk); replace HQ := Lib.hid (HQ.out.below hk); clear xl x0 x1 yl y0 y1; obtain ⟨xl, x0, x1, _, _⟩ := HP.out; obtain ⟨yl, y0, y1, _, _⟩ := HQ.out; clear hb; have hb := hd; (try clear hs); have hs := hb.out.size; clear hd hk))
        | (go_at_call 13; ((with_reducible refine (cS2 _ ?hb).mono ?_); (case hb => (repeat (first | (with_reducible exact hb.out) | (with_reducible exact Below.refl _ _) | (with_reducible refine Below.drew ?_) | (with_reducible refine Below.alloc ?_ ?_ _) | omega | (simp <;> omega)))); rintro e w12 ⟨rfl, hk⟩; have hd := Lib.hid ((show Below w.heap.size w _ by (repeat (first | (with_reducible exact hb.out) | (with_reducible exact Below.refl _ _) | (with_reducible refine Below.drew ?_) | (with_reducible refine Below.alloc ?_ ?_ _) | omega | (simp <;> omega)))).trans (hk.mono (by (first | omega | (simp; done) | (simp; omega))))); replace HP := Lib.hid (HP.out.below ((below_alloc1 w11 _).trans (hk.mono (by simp)))); clear xl x0 x1 yl y0 y1; obtain ⟨xl, x0, x1, _, _⟩ := HP.out; clear hb; have hb := hd; (try clear hs); have hs := hb.out.size; clear hd hk))
        | (go_at_call 13; ((with_reducible refine (cU _ ?hb).mono ?_); (case hb => (repeat (first | (with_reducible exact hb.out) | (with_reducible exact Below.refl _ _) | (with_reducible refine Below.drew ?_) | (with_reducible refine Below.alloc ?_ ?_ _) | omega | (simp <;> omega)))); rintro e w13 ⟨rfl, hk⟩; have hd := Lib.hid ((show Below w.heap.size w _ by (repeat (first | (with_reducible exact hb.out) | (with_reducible exact Below.refl _ _) | (with_reducible refine Below.drew ?_) | (with_reducible refine Below.alloc ?_ ?_ _) | omega | (simp <;> omega)))).trans (hk.mono (by (first | omega | (simp; done) | (simp; omega))))); replace HP := Lib.hid (HP.out.below ((below_alloc1 w12 _).trans (hk.mono (by simp)))); clear xl x0 x1; obtain ⟨xl, x0, x1, _, _⟩ := HP.out; clear hb; have hb := hd; (try clear hs); have hs := hb.out.size; clear hd hk))
        | (go_at_call 5; ((with_reducible refine (cW _ ?hb).mono ?_); (case hb => (repeat (first | (with_reducible exact hb.out) | (with_reducible exact Below.refl _ _) | (with_reducible refine Below.drew ?_) | (with_reducible refine Below.alloc ?_ ?_ _) | omega | (simp <;> omega)))); rintro e w14 ⟨rfl, hk⟩; have hd := Lib.hid ((show Below w.heap.size w _ by (repeat (first | (with_reducible exact hb.out) | (with_reducible exact Below.refl _ _) | (with_reducible refine Below.drew ?_) | (with_reducible refine Below.alloc ?_ ?_ _) | omega | (simp <;> omega)))).trans (hk.mono (by (first | omega | (simp; done) | (simp; omega))))); clear hb; have hb := hd; (try clear hs); have hs := hb.out.size; clear hd hk)))
      go_ret
      exact ⟨rfl, hb.out⟩
    · have b1 : z < 0 := z1
      have b2 : ¬ 0 < z := by omega
      rw [e1] at cS2
      dsimp only at cS2
      clear e1 z1 cS3 HA
      go_upto_region 23 with (first
        | (go_at_call 13; ((with_reducible refine (cS1 _ ?hb).mono ?_); (case hb => (repeat (first | (with_reducible exact hb.out) | (with_reducible exact Below.refl _ _) | (with_reducible refine Below.drew ?_) | (with_reducible refine Below.alloc ?_ ?_ _) | omega | (simp <;> omega)))); rintro e w11 ⟨rfl, hk⟩; have hd := Lib.hid ((show Below w.heap.size w _ by (repeat (first | (with_reducible exact hb.out) | (with_reducible exact Below.refl _ _) | (with_reducible refine Below.drew ?_) | (with_reducible refine Below.alloc ?_ ?_ _) | omega | (simp <;> omega)))).trans (hk.mono (by (first | omega | (simp; done) | (simp; omega))))); replace HP := Lib.hid (HP.out.below hk); replace HQ := Lib.hid (HQ.out.below hk); clear xl x0 x1 yl y0 y1; obtain ⟨xl, x0, x1, _, _⟩ := HP.out; obtain ⟨yl, y0, y1, _, _⟩ := HQ.out; clear hb; have hb := hd; (try clear hs); have hs := hb.out.size; clear hd hk))
        | (go_at_call 13; ((with_reducible refine (cS2 _ ?hb).mono ?_); (case hb => (repeat (first | (with_reducible exact hb.out) | (with_reducible exact Below.refl _ _) | (with_reducible refine Below.drew ?_) | (with_reducible refine Below.alloc ?_ ?_ _) | omega | (simp <;> omega)))); rintro e w12 ⟨rfl, hk⟩; have hd := Lib.hid ((show Below w.heap.size w _ by (repeat (first | (with_reducible exact hb.out) | (with_reducible exact Below.refl _ _) | (with_reducible refine Below.drew ?_) | (with_reducible refine Below.alloc ?_ ?_ _) | omega | (simp <;> omega)))).trans (hk.mono (by (first | omega | (simp; done) | (simp; omega))))); replace HP := Lib.hid (HP.out.below ((below_alloc1 w11 _).trans (hk.mono (by simp)))); clear xl x0 x1 yl y0 y1; obtain ⟨xl, x0, x1, _, _⟩ := HP.out; clear hb; have hb := hd; (try clear hs); have hs := hb.out.size; clear hd hk)))
      have HS0 := Lib.hid (ps_new w12 0 0)
      have hbn := hb.out.alloc hs (.cells #[.int .i64 0, .int .i64 0] 29)
      obtain ⟨Wn, hWn⟩ : ∃ Wn, w12.alloc (.cells #[.int .i64 0, .int .i64 0] 29) = Wn := ⟨_, rfl⟩
      rw [hWn] at HS0 hbn ⊢
      clear hb hs hWn x0 x1 xl
      have hb := Lib.hid hbn
      have hs := hb.out.size
      clear hbn
      have KS : Hid (∀ w', Below Wn.heap.size Wn w' → (w'.cell? ⟨w12.heap.size, 0, none⟩ = some (.int .i64 0) ∧ w'.cell? ⟨w12.heap.size, 1, none⟩ = some (.int .i64 0))) := Lib.hid (fun w' h => ⟨(HS0.out.below h).c0, (HS0.out.below h).c1⟩)
      have hv : Hid (Below Wn.heap.size Wn Wn) := Lib.hid (Below.refl _ _)
      obtain ⟨s0, s1⟩ := KS.out _ hv.out
      have HS1 : Wn.drew.cell? ⟨w12.heap.size, 0, none⟩ = some (.int .i64 0) ∧ Wn.drew.cell? ⟨w12.heap.size, 1, none⟩ = some (.int .i64 0) := KS.out _ (by (repeat (first | (with_reducible exact hv.out) | (with_reducible exact Below.refl _ _) | (with_reducible refine Below.drew ?_) | (with_reducible refine Below.alloc ?_ ?_ _) | omega | (simp <;> omega))))
      refine wp_region_noPanic ?_
      refine region_plan [(0, true), (1, true), (2, true), (3, true), (4, true), (5, true), (6, true), (7, true), (8, true), (9, true), (10, true), (11, true), (12, true), (13, true), (14, true), (15, true), (16, true), (17, true), (18, false), (19, true), (20, true)] (fun w' => w'.cell? ⟨w12.heap.size, 0, none⟩ = some (.int .i64 0) ∧ w'.cell? ⟨w12.heap.size, 1, none⟩ = some (.int .i64 0)) (by kernel_rfl) (by kernel_rfl) (by kernel_rfl) (by kernel_rfl) (fun _ _ _ _ _ h => h) ?_
      refine plan_take (.int .i64 z) rfl (by kernel_rfl) (fun W HW => ran_move rfl (by kernel_rfl)) HS1 ?_
      simp only [Act.put, List.setIfInBounds_toArray, List.set_cons_zero, List.set_cons_succ]
      refine plan_take (.bool true) rfl (by kernel_rfl) (fun W HW => ran_bin (vx := (.int .i64 z)) (vy := (.int .i64 0)) rfl (by kernel_rfl) (by kernel_rfl) (guard_lss _ _ _ _ W) (lss_true (by omega) W)) HS1 ?_
      simp only [Act.put, List.setIfInBounds_toArray, List.set_cons_zero, List.set_cons_succ]
      refine plan_take (.bool true) rfl (by kernel_rfl) (fun W HW => ran_move rfl (by kernel_rfl)) HS1 ?_
      simp only [Act.put, List.setIfInBounds_toArray, List.set_cons_zero, List.set_cons_succ]
      refine plan_take (.agg #[.int .i64 0, .int .i64 0]) rfl (by kernel_rfl) (fun W HW => ran_load (vx := (.pointer (some ⟨w12.heap.size, 0, none⟩))) rfl (by kernel_rfl) (load_pos HW.1 HW.2)) HS1 ?_
      simp only [Act.put, List.setIfInBounds_toArray, List.set_cons_zero, List.set_cons_succ]
      refine plan_take (.agg #[.int .i64 0, .int .i64 0]) rfl (by kernel_rfl) (fun W HW => ran_build0 rfl (build_pos W)) HS1 ?_
      simp only [Act.put, List.setIfInBounds_toArray, List.set_cons_zero, List.set_cons_succ]
      refine plan_take (.bool true) rfl (by kernel_rfl) (fun W HW => ran_bin (vx := (.agg #[.int .i64 0, .int .i64 0])) (vy := (.agg #[.int .i64 0, .int .i64 0])) rfl (by kernel_rfl) (by kernel_rfl) (guard_pos _ _ _ _ W) (eql_pos 0 0 W)) HS1 ?_
      simp only [Act.put, List.setIfInBounds_toArray, List.set_cons_zero, List.set_cons_succ]
      refine plan_take (.bool true) rfl (by kernel_rfl) (fun W HW => ran_pick (b := true) rfl (by kernel_rfl) (by kernel_rfl)) HS1 ?_
      simp only [Act.put, List.setIfInBounds_toArray, List.set_cons_zero, List.set_cons_succ]
      refine plan_take (.bool true) rfl (by kernel_rfl) (fun W HW => ran_move rfl (by kernel_rfl)) HS1 ?_
      simp only [Act.put, List.setIfInBounds_toArray, List.set_cons_zero, List.set_cons_succ]
      refine plan_skip rfl (by kernel_rfl) HS1 ?_
      simp only [Act.put, List.setIfInBounds_toArray, List.set_cons_zero, List.set_cons_succ]
      refine plan_skip rfl (by kernel_rfl) HS1 ?_
      simp only [Act.put, List.setIfInBounds_toArray, List.set_cons_zero, List.set_cons_succ]
      refine plan_skip rfl (by kernel_rfl) HS1 ?_
      simp only [Act.put, List.setIfInBounds_toArray, List.set_cons_zero, List.set_cons_succ]
      refine plan_skip rfl (by kernel_rfl) HS1 ?_
      simp only [Act.put, List.setIfInBounds_toArray, List.set_cons_zero, List.set_cons_succ]
      refine plan_skip rfl (by kernel_rfl) HS1 ?_
      simp only [Act.put, List.setIfInBounds_toArray, List.set_cons_zero, List.set_cons_succ]
      refine plan_skip rfl (by kernel_rfl) HS1 ?_
      simp only [Act.put, List.setIfInBounds_toArray, List.set_cons_zero, List.set_cons_succ]
      refine plan_skip rfl (by kernel_rfl) HS1 ?_
      simp only [Act.put, List.setIfInBounds_toArray, List.set_cons_zero, List.set_cons_succ]
      refine plan_skip rfl (by kernel_rfl) HS1 ?_
      simp only [Act.put, List.setIfInBounds_toArray, List.set_cons_zero, List.set_cons_succ]
      refine plan_take (.bool true) rfl (by kernel_rfl) (fun W HW => ran_pick (b := true) rfl (by kernel_rfl) (by kernel_rfl)) HS1 ?_
      simp only [Act.put, List.setIfInBounds_toArray, List.set_cons_zero, List.set_cons_succ]
      refine plan_take (.bool true) rfl (by kernel_rfl) (fun W HW => ran_move rfl (by kernel_rfl)) HS1 ?_
      simp only [Act.put, List.setIfInBounds_toArray, List.set_cons_zero, List.set_cons_succ]
      refine plan_call rfl (by kernel_rfl) (ran_call rfl rfl (by kernel_rfl) (by kernel_rfl) (enters_awake _)) (cW _ (by (repeat (first | (with_reducible exact hb.out) | (with_reducible exact Below.refl _ _) | (with_reducible refine Below.drew ?_) | (with_reducible refine Below.alloc ?_ ?_ _) | omega | (simp <;> omega))))) ?_
      rintro e w16 ⟨rfl, hk⟩
      have hg := Lib.hid ((show Below Wn.heap.size Wn _ by (repeat (first | (with_reducible exact hv.out) | (with_reducible exact Below.refl _ _) | (with_reducible refine Below.drew ?_) | (with_reducible refine Below.alloc ?_ ?_ _) | omega | (simp <;> omega)))).trans (hk.mono (by (first | omega | (simp; done) | (simp; omega)))))
      have hd := Lib.hid ((show Below w.heap.size w _ by (repeat (first | (with_reducible exact hb.out) | (with_reducible exact Below.refl _ _) | (with_reducible refine Below.drew ?_) | (with_reducible refine Below.alloc ?_ ?_ _) | omega | (simp <;> omega)))).trans (hk.mono (by (first | omega | (simp; done) | (simp; omega)))))
      have HS2 := KS.out _ hg.out
      refine ⟨_, rfl, HS2, ?_⟩
      simp only [Act.put, List.setIfInBounds_toArray, List.set_cons_zero, List.set_cons_succ]
      clear HS1
      have HS1 := HS2
      clear HS2
      refine plan_take (.bool true) rfl (by kernel_rfl) (fun W HW => ran_pick (b := true) rfl (by kernel_rfl) (by kernel_rfl)) HS1 ?_
      simp only [Act.put, List.setIfInBounds_toArray, List.set_cons_zero, List.set_cons_succ]
      refine plan_take (.bool true) rfl (by kernel_rfl) (fun W HW => ran_assign rfl (by kernel_rfl)) HS1 ?_
      simp only [Act.put, List.setIfInBounds_toArray, List.set_cons_zero, List.set_cons_succ]
      refine plan_end ?_
      refine NoPanic.normal ?_
      go_wp2
      go_ret
      exact ⟨rfl, hd.out⟩
    · have b1 : ¬ z < 0 := by omega
      have b2 : 0 < z := z1
      rw [e1, HE.out] at cS2
      dsimp only at cS2
      clear e1 z1 cS3 HA
      go_upto_region 23 with (first
        | (go_at_call 13; ((with_reducible refine (cS1 _ ?hb).mono ?_); (case hb => (repeat (first | (with_reducible exact hb.out) | (with_reducible exact Below.refl _ _) | (with_reducible refine Below.drew ?_) | (with_reducible refine Below.alloc ?_ ?_ _) | omega | (simp <;> omega)))); rintro e w11 ⟨rfl, hk⟩; have hd := Lib.hid ((show Below w.heap.size w _ by (repeat (first | (with_reducible exact hb.out) | (with_reducible exact Below.refl _ _) | (with_reducible refine Below.drew ?_) | (with_reducible refine Below.alloc ?_ ?_ _) | omega | (simp <;> omega)))).trans (hk.mono (by (first | omega | (simp; done) | (simp; omega))))); replace HP := Lib.hid (HP.out.below hk); replace HQ := Lib.hid (HQ.out.below hk); clear xl x0 x1 yl y0 y1; obtain ⟨xl, x0, x1, _, _⟩ := HP.out; obtain ⟨yl, y0, y1, _, _⟩ := HQ.out; clear hb; have hb := hd; (try clear hs); have hs := hb.out.size; clear hd hk))
        | (go_at_call 13; ((with_reducible refine (cS2 _ ?hb).mono ?_); (case hb => (repeat (first | (with_reducible exact hb.out) | (with_reducible exact Below.refl _ _) | (with_reducible refine Below.drew ?_) | (with_reducible refine Below.alloc ?_ ?_ _) | omega | (simp <;> omega)))); rintro e w12 ⟨rfl, hk⟩; have hd := Lib.hid ((show Below w.heap.size w _ by (repeat (first | (with_reducible exact hb.out) | (with_reducible exact Below.refl _ _) | (with_reducible refine Below.drew ?_) | (with_reducible refine Below.alloc ?_ ?_ _) | omega | (simp <;> omega)))).trans (hk.mono (by (first | omega | (simp; done) | (simp; omega))))); replace HP := Lib.hid (HP.out.below ((below_alloc1 w11 _).trans (hk.mono (by simp)))); clear xl x0 x1 yl y0 y1; obtain ⟨xl, x0, x1, _, _⟩ := HP.out; clear hb; have hb := hd; (try clear hs); have hs := hb.out.size; clear hd hk)))
      have HS0 := Lib.hid (ps_new w12 eI eK)
      have hbn := hb.out.alloc hs (.cells #[.int .i64 eI, .int .i64 eK] 29)
      obtain ⟨Wn, hWn⟩ : ∃ Wn, w12.alloc (.cells #[.int .i64 eI, .int .i64 eK] 29) = Wn := ⟨_, rfl⟩
      rw [hWn] at HS0 hbn ⊢
      clear hb hs hWn x0 x1 xl
      have hb := Lib.hid hbn
      have hs := hb.out.size
      clear hbn
      have KS : Hid (∀ w', Below Wn.heap.size Wn w' → (w'.cell? ⟨w12.heap.size, 0, none⟩ = some (.int .i64 eI) ∧ w'.cell? ⟨w12.heap.size, 1, none⟩ = some (.int .i64 eK))) := Lib.hid (fun w' h => ⟨(HS0.out.below h).c0, (HS0.out.below h).c1⟩)
      have hv : Hid (Below Wn.heap.size Wn Wn) := Lib.hid (Below.refl _ _)
      obtain ⟨s0, s1⟩ := KS.out _ hv.out
      have HS1 : Wn.drew.cell? ⟨w12.heap.size, 0, none⟩ = some (.int .i64 eI) ∧ Wn.drew.cell? ⟨w12.heap.size, 1, none⟩ = some (.int .i64 eK) := KS.out _ (by (repeat (first | (with_reducible exact hv.out) | (with_reducible exact Below.refl _ _) | (with_reducible refine Below.drew ?_) | (with_reducible refine Below.alloc ?_ ?_ _) | omega | (simp <;> omega))))
      refine wp_region_noPanic ?_
      refine region_plan [(0, true), (1, true), (2, true), (3, true), (4, true), (5, true), (6, true), (7, true), (8, true), (9, true), (10, true), (11, true), (12, true), (13, false), (14, true), (15, true), (16, true), (17, true), (18, false), (19, true), (20, true)] (fun w' => w'.cell? ⟨w12.heap.size, 0, none⟩ = some (.int .i64 eI) ∧ w'.cell? ⟨w12.heap.size, 1, none⟩ = some (.int .i64 eK)) (by kernel_rfl) (by kernel_rfl) (by kernel_rfl) (by kernel_rfl) (fun _ _ _ _ _ h => h) ?_
      refine plan_take (.int .i64 z) rfl (by kernel_rfl) (fun W HW => ran_move rfl (by kernel_rfl)) HS1 ?_
      simp only [Act.put, List.setIfInBounds_toArray, List.set_cons_zero, List.set_cons_succ]
      refine plan_take (.bool false) rfl (by kernel_rfl) (fun W HW => ran_bin (vx := (.int .i64 z)) (vy := (.int .i64 0)) rfl (by kernel_rfl) (by kernel_rfl) (guard_lss _ _ _ _ W) (lss_false (by omega) W)) HS1 ?_
      simp only [Act.put, List.setIfInBounds_toArray, List.set_cons_zero, List.set_cons_succ]
      refine plan_take (.bool false) rfl (by kernel_rfl) (fun W HW => ran_move rfl (by kernel_rfl)) HS1 ?_
      simp only [Act.put, List.setIfInBounds_toArray, List.set_cons_zero, List.set_cons_succ]
      refine plan_skip rfl (by kernel_rfl) HS1 ?_
      simp only [Act.put, List.setIfInBounds_toArray, List.set_cons_zero, List.set_cons_succ]
      refine plan_skip rfl (by kernel_rfl) HS1 ?_
      simp only [Act.put, List.setIfInBounds_toArray, List.set_cons_zero, List.set_cons_succ]
      refine plan_skip rfl (by kernel_rfl) HS1 ?_
      simp only [Act.put, List.setIfInBounds_toArray, List.set_cons_zero, List.set_cons_succ]
      refine plan_take (.bool false) rfl (by kernel_rfl) (fun W HW => ran_pick (b := false) rfl (by kernel_rfl) (by kernel_rfl)) HS1 ?_
      simp only [Act.put, List.setIfInBounds_toArray, List.set_cons_zero, List.set_cons_succ]
      refine plan_take (.bool false) rfl (by kernel_rfl) (fun W HW => ran_move rfl (by kernel_rfl)) HS1 ?_
      simp only [Act.put, List.setIfInBounds_toArray, List.set_cons_zero, List.set_cons_succ]
      refine plan_take (.int .i64 z) rfl (by kernel_rfl) (fun W HW => ran_move rfl (by kernel_rfl)) HS1 ?_
      simp only [Act.put, List.setIfInBounds_toArray, List.set_cons_zero, List.set_cons_succ]
      refine plan_take (.bool true) rfl (by kernel_rfl) (fun W HW => ran_bin (vx := (.int .i64 z)) (vy := (.int .i64 0)) rfl (by kernel_rfl) (by kernel_rfl) (guard_gtr _ _ _ _ W) (gtr_true (by omega) W)) HS1 ?_
      simp only [Act.put, List.setIfInBounds_toArray, List.set_cons_zero, List.set_cons_succ]
      refine plan_take (.bool true) rfl (by kernel_rfl) (fun W HW => ran_move rfl (by kernel_rfl)) HS1 ?_
      simp only [Act.put, List.setIfInBounds_toArray, List.set_cons_zero, List.set_cons_succ]
      refine plan_take (.agg #[.int .i64 eI, .int .i64 eK]) rfl (by kernel_rfl) (fun W HW => ran_load (vx := (.pointer (some ⟨w12.heap.size, 0, none⟩))) rfl (by kernel_rfl) (load_pos HW.1 HW.2)) HS1 ?_
      simp only [Act.put, List.setIfInBounds_toArray, List.set_cons_zero, List.set_cons_succ]
      refine plan_take (.slice a ln c) rfl (by kernel_rfl) (fun W HW => ran_move rfl (by kernel_rfl)) HS1 ?_
      simp only [Act.put, List.setIfInBounds_toArray, List.set_cons_zero, List.set_cons_succ]
      refine plan_call rfl (by kernel_rfl) (ran_call (vs := #[.slice a ln c]) rfl rfl (by kernel_rfl) (by kernel_rfl) (enters_end _ _)) (cE _ (by (repeat (first | (with_reducible exact hb.out) | (with_reducible exact Below.refl _ _) | (with_reducible refine Below.drew ?_) | (with_reducible refine Below.alloc ?_ ?_ _) | omega | (simp <;> omega))))) ?_
      rintro e w15 ⟨rfl, hk⟩
      have hg := Lib.hid ((show Below Wn.heap.size Wn _ by (repeat (first | (with_reducible exact hv.out) | (with_reducible exact Below.refl _ _) | (with_reducible refine Below.drew ?_) | (with_reducible refine Below.alloc ?_ ?_ _) | omega | (simp <;> omega)))).trans (hk.mono (by (first | omega | (simp; done) | (simp; omega)))))
      have hd := Lib.hid ((show Below w.heap.size w _ by (repeat (first | (with_reducible exact hb.out) | (with_reducible exact Below.refl _ _) | (with_reducible refine Below.drew ?_) | (with_reducible refine Below.alloc ?_ ?_ _) | omega | (simp <;> omega)))).trans (hk.mono (by (first | omega | (simp; done) | (simp; omega)))))
      have HS2 := KS.out _ hg.out
      refine ⟨_, rfl, HS2, ?_⟩
      simp only [Act.put, List.setIfInBounds_toArray, List.set_cons_zero, List.set_cons_succ]
      clear HS1 hv hb hs
      have HS1 := HS2
      have hv := hg
      have hb := hd
      have hs := hb.out.size
      have hsv := hv.out.size
      clear HS2 hg hd hk
      refine plan_take (.bool true) rfl (by kernel_rfl) (fun W HW => ran_bin (vx := (.agg #[.int .i64 eI, .int .i64 eK])) (vy := (.agg #[.int .i64 eI, .int .i64 eK])) rfl (by kernel_rfl) (by kernel_rfl) (guard_pos _ _ _ _ W) (eql_pos eI eK W)) HS1 ?_
      simp only [Act.put, List.setIfInBounds_toArray, List.set_cons_zero, List.set_cons_succ]
      refine plan_take (.bool true) rfl (by kernel_rfl) (fun W HW => ran_pick (b := true) rfl (by kernel_rfl) (by kernel_rfl)) HS1 ?_
      simp only [Act.put, List.setIfInBounds_toArray, List.set_cons_zero, List.set_cons_succ]
      refine plan_take (.bool true) rfl (by kernel_rfl) (fun W HW => ran_pick (b := false) rfl (by kernel_rfl) (by kernel_rfl)) HS1 ?_
      simp only [Act.put, List.setIfInBounds_toArray, List.set_cons_zero, List.set_cons_succ]
      refine plan_take (.bool true) rfl (by kernel_rfl) (fun W HW => ran_move rfl (by kernel_rfl)) HS1 ?_
      simp only [Act.put, List.setIfInBounds_toArray, List.set_cons_zero, List.set_cons_succ]
      refine plan_call rfl (by kernel_rfl) (ran_call rfl rfl (by kernel_rfl) (by kernel_rfl) (enters_awake _)) (cW _ (by (repeat (first | (with_reducible exact hb.out) | (with_reducible exact Below.refl _ _) | (with_reducible refine Below.drew ?_) | (with_reducible refine Below.alloc ?_ ?_ _) | omega | (simp <;> omega))))) ?_
      rintro e w16 ⟨rfl, hk⟩
      have hg := Lib.hid ((show Below Wn.heap.size Wn _ by (repeat (first | (with_reducible exact hv.out) | (with_reducible exact Below.refl _ _) | (with_reducible refine Below.drew ?_) | (with_reducible refine Below.alloc ?_ ?_ _) | omega | (simp <;> omega)))).trans (hk.mono (by (first | omega | (simp; done) | (simp; omega)))))
      have hd := Lib.hid ((show Below w.heap.size w _ by (repeat (first | (with_reducible exact hb.out) | (with_reducible exact Below.refl _ _) | (with_reducible refine Below.drew ?_) | (with_reducible refine Below.alloc ?_ ?_ _) | omega | (simp <;> omega)))).trans (hk.mono (by (first | omega | (simp; done) | (simp; omega)))))
      have HS2 := KS.out _ hg.out
      refine ⟨_, rfl, HS2, ?_⟩
      simp only [Act.put, List.setIfInBounds_toArray, List.set_cons_zero, List.set_cons_succ]
      clear HS1
      have HS1 := HS2
      clear HS2
      refine plan_take (.bool true) rfl (by kernel_rfl) (fun W HW => ran_pick (b := true) rfl (by kernel_rfl) (by kernel_rfl)) HS1 ?_
      simp only [Act.put, List.setIfInBounds_toArray, List.set_cons_zero, List.set_cons_succ]
      refine plan_take (.bool true) rfl (by kernel_rfl) (fun W HW => ran_assign rfl (by kernel_rfl)) HS1 ?_
      simp only [Act.put, List.setIfInBounds_toArray, List.set_cons_zero, List.set_cons_succ]
      refine plan_end ?_
      refine NoPanic.normal ?_
      go_wp2
      go_ret
      exact ⟨rfl, hd.out⟩

end Go.Proofs.YtehjfcefkiglaaaDoor
