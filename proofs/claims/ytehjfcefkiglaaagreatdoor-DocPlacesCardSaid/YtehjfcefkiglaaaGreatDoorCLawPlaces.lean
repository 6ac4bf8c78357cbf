/-
  The law DocPlaces.
-/
import Derived.Test.YtehjfcefkiglaaaGreatDoorCLLong
import Derived.Test.YtehjfcefkiglaaaGreatDoorCDocW
import Derived.Test.YtehjfcefkiglaaaGreatDoorCDocX
import Derived.Deep.RegionHeld3
import Derived.Deep.DeepCutAuto

namespace Go.Proofs.YtehjfcefkiglaaaGreatDoor
open Go.RowKit Go.Lib

set_option maxRecDepth 40000 in
set_option maxHeartbeats 64000000 in
theorem lawPlaces_walk (v : Value) (l : List Lw) (p1 p2 q1 q2 n0 z : Int) (w : World) (hE : Tg.Env w) (h : DocAt w v l) (hs0 : SizedD l) (hn1 : n0 ≤ 2 ^ 63 - 1) (hz0 : -(2 ^ 63) ≤ z) (hz1 : z ≤ 2 ^ 63 - 1) :
    Calls Tryz.prog 3 #[v, .agg #[.int .i64 p1, .int .i64 p2], .agg #[.int .i64 q1, .int .i64 q2], .int .i64 n0, .int .i64 z] w fun e w' => e = .returned (.bool true) ∧ Below w.heap.size w w' := by
  have hp : Tryz.prog.stoodInHeld 24 = false := by kernel_rfl
  have hS : Tryz.prog.underlying 24 = some (.struct (Tryz.prog.fieldsOf 24)) := by kernel_rfl
  have hq : ∀ (a b c d : Int) (W : World), (binOp .eql 24 (.agg #[.int .i64 a, .int .i64 b]) (.agg #[.int .i64 c, .int .i64 d])).run Tryz.prog W = .ok (.bool (decide (a = c) && decide (b = d))) W := fun a b c d W => by
    rw [run_eql_struct, show (10000 : Nat) = 9999 + 1 from rfl, run_equalIn_agg W 9999 24 _ _ hS hp]
    simp only [Program.fieldsOf, Tryz.underlying24]
    go_simp
    by_cases k1 : a = c <;> by_cases k2 : b = d <;> simp_all
  have hm : Tryz.prog.eqGuardType Tryz.prog.depth 24 = false := by kernel_rfl
  have hq2 : ∀ (a b c d : Int) (W : World), (binOp .neq 24 (.agg #[.int .i64 a, .int .i64 b]) (.agg #[.int .i64 c, .int .i64 d])).run Tryz.prog W = .ok (.bool (!(decide (a = c) && decide (b = d)))) W := fun a b c d W => by
    rw [run_neq_struct, show (10000 : Nat) = 9999 + 1 from rfl, run_equalIn_agg W 9999 24 _ _ hS hp]
    simp only [Program.fieldsOf, Tryz.underlying24]
    go_simp
    by_cases k1 : a = c <;> by_cases k2 : b = d <;> simp_all
  clear hp hS
  obtain ⟨a, c, rfl⟩ := h.s.len
  have cW : ∀ w1, Below w.heap.size w w1 → _ := fun w1 h1 => awake_any w1 (hE.below h1)
  have cL : ∀ w1, Below w.heap.size w w1 → _ := fun w1 h1 => llong_any _ l w1 (h.below h1) hs0
  have hb : Hid (Below w.heap.size w w) := Lib.hid (Below.refl _ _)
  by_cases hlg : longD (pl l) = true
  · rw [hlg] at cL
    clear h hs0 hE hlg hn1 hz0 hz1
    go_enter Tryz.func3, Tryz.ntmps3
    go_wp2_with (first
      | (go_at_call 10; ((with_reducible refine (cL _ ?hb).mono ?_); (case hb => (repeat (first | (with_reducible exact hb.out) | (with_reducible exact Below.refl _ _) | (with_reducible refine Below.drew ?_) | (with_reducible refine Below.alloc ?_ ?_ _) | omega | (simp <;> omega)))); rintro e w1 ⟨rfl, hk⟩; have hd := Lib.hid ((show Below w.heap.size w _ by (repeat (first | (with_reducible exact hb.out) | (with_reducible exact Below.refl _ _) | (with_reducible refine Below.drew ?_) | (with_reducible refine Below.alloc ?_ ?_ _) | omega | (simp <;> omega)))).trans (hk.mono (by (first | omega | (simp; done) | (simp; omega))))); clear hb; have hb := hd; (try clear hs); have hs := hb.out.size; clear hd hk))
      | (go_at_call 11; ((with_reducible refine (cW _ ?hb).mono ?_); (case hb => (repeat (first | (with_reducible exact hb.out) | (with_reducible exact Below.refl _ _) | (with_reducible refine Below.drew ?_) | (with_reducible refine Below.alloc ?_ ?_ _) | omega | (simp <;> omega)))); rintro e w1 ⟨rfl, hk⟩; have hd := Lib.hid ((show Below w.heap.size w _ by (repeat (first | (with_reducible exact hb.out) | (with_reducible exact Below.refl _ _) | (with_reducible refine Below.drew ?_) | (with_reducible refine Below.alloc ?_ ?_ _) | omega | (simp <;> omega)))).trans (hk.mono (by (first | omega | (simp; done) | (simp; omega))))); clear hb; have hb := hd; (try clear hs); have hs := hb.out.size; clear hd hk)))
    all_goals go_ret
    all_goals exact ⟨rfl, hb.out⟩
  have hlg' : longD (pl l) = false := by simpa using hlg
  rw [hlg'] at cL
  obtain ⟨hf, _, _⟩ := longD_false hlg'
  have cOwn : ∀ w1, Below w.heap.size w w1 → _ := fun w1 h1 => rdown_any _ l w1 (h.below h1) hf
  have X6 := Lib.hid ((ps_new w p1 p2).below (below_alloc1 _ (.cells #[.int .i64 q1, .int .i64 q2] 24)))
  have X7 := Lib.hid (ps_new (w.alloc (.cells #[.int .i64 p1, .int .i64 p2] 24)) q1 q2)
  rw [show (w.alloc (.cells #[.int .i64 p1, .int .i64 p2] 24)).heap.size = w.heap.size + 1 by simp] at X7
  obtain ⟨n, hn⟩ : ∃ n, l.length = n := ⟨_, rfl⟩
  rw [hn] at cL cOwn ⊢
  have HD : Hid (DocAt w (.slice a n c) l) := Lib.hid (by rw [← hn]; exact h)
  have HE := Lib.hid hE
  have HF := Lib.hid hf
  clear h hs0 hE hlg hlg' hf hn
  go_enter Tryz.func3, Tryz.ntmps3
  go_upto_region 4 with (first
    | (go_at_call 10; ((with_reducible refine (cL _ ?hb).mono ?_); (case hb => (repeat (first | (with_reducible exact hb.out) | (with_reducible exact Below.refl _ _) | (with_reducible refine Below.drew ?_) | (with_reducible refine Below.alloc ?_ ?_ _) | omega | (simp <;> omega)))); rintro e w1 ⟨rfl, hk⟩; have hd := Lib.hid ((show Below w.heap.size w _ by (repeat (first | (with_reducible exact hb.out) | (with_reducible exact Below.refl _ _) | (with_reducible refine Below.drew ?_) | (with_reducible refine Below.alloc ?_ ?_ _) | omega | (simp <;> omega)))).trans (hk.mono (by (first | omega | (simp; done) | (simp; omega))))); have H6 := Lib.hid (X6.out.below hk); have H7 := Lib.hid (X7.out.below hk); clear hb; have hb := hd; (try clear hs); have hs := hb.out.size; clear hd hk))
    | (go_at_call 12; ((with_reducible refine (cOwn _ ?hb).mono ?_); (case hb => (repeat (first | (with_reducible exact hb.out) | (with_reducible exact Below.refl _ _) | (with_reducible refine Below.drew ?_) | (with_reducible refine Below.alloc ?_ ?_ _) | omega | (simp <;> omega)))); rintro e w2 ⟨sw, m, rfl, hown, hpl, hk⟩; have hd := Lib.hid ((show Below w.heap.size w _ by (repeat (first | (with_reducible exact hb.out) | (with_reducible exact Below.refl _ _) | (with_reducible refine Below.drew ?_) | (with_reducible refine Below.alloc ?_ ?_ _) | omega | (simp <;> omega)))).trans (hk.mono (by (first | omega | (simp; done) | (simp; omega))))); have hk6 := H6.out.below hk; have hk7 := H7.out.below hk; clear H6 H7; have H6 := Lib.hid hk6; have H7 := Lib.hid hk7; (try clear u0 u1 v0 v1); obtain ⟨_, u0, u1, _, _⟩ := H6.out; obtain ⟨_, v0, v1, _, _⟩ := H7.out; clear hk6 hk7; have hwas := Lib.hid hown.at; have HM := Lib.hid hpl; obtain ⟨u, cap, rfl⟩ := own_len hown.own; clear hb; have hb := hd; (try clear hs); have hs := hb.out.size; clear hd hk hown hpl)))
  clear cL cOwn X6 X7
  have hA := HD.out.below hb.out
  have hE2 := HE.out.below hb.out
  have hwa := hwas.out
  have hf := HF.out
  have hpl := HM.out
  have hfm : Fine (pl m) := by rw [hpl]; exact hf
  have hmn : m.length = n := by
    obtain ⟨_, _, e⟩ := hA.s.len
    have e2 := (Value.slice.inj e).2.1
    rw [e2, ← pl_length m, hpl, pl_length]
  have cMay : ∀ w1, Below w2.heap.size w2 w1 → _ := fun w1 h1 => dmay_any _ l w1 (hA.below h1) hf (hE2.below h1)
  have cMayR : ∀ w1, Below w2.heap.size w2 w1 → _ := fun w1 h1 => rdmay_any _ m w1 (hwa.below h1) hfm
  have cSize : ∀ w1, Below w2.heap.size w2 w1 → _ := fun w1 h1 => dsize_any _ l w1 (hA.s.below h1) hf.len hf.s
  have cSizeR : ∀ w1, Below w2.heap.size w2 w1 → _ := fun w1 h1 => rdsize_any _ m w1 (hwa.s.below h1) hfm.len hfm.s
  have cEnd : ∀ w1, Below w2.heap.size w2 w1 → _ := fun w1 h1 => dend_any _ l w1 (hA.s.below h1) hf.len
  have cEndR : ∀ w1, Below w2.heap.size w2 w1 → _ := fun w1 h1 => rdend_any _ m w1 (hwa.s.below h1) hfm.len
  have cIs : ∀ w1, Below w2.heap.size w2 w1 → _ := fun w1 h1 => dis_any _ l p1 p2 w1 (hA.s.below h1) hf.len hf.cnt
  have cIsR : ∀ w1, Below w2.heap.size w2 w1 → _ := fun w1 h1 => rdis_any _ m p1 p2 w1 (hwa.s.below h1) hfm.len hfm.cnt
  have cClamp : ∀ w1, Below w2.heap.size w2 w1 → _ := fun w1 h1 => dclamp_any _ l p1 p2 w1 (hA.s.below h1) hf.len hf.cnt
  have cClampR : ∀ w1, Below w2.heap.size w2 w1 → _ := fun w1 h1 => rdclamp_any _ m p1 p2 w1 (hwa.s.below h1) hfm.len hfm.cnt
  have cCmp : ∀ w1, Below w2.heap.size w2 w1 → _ := fun w1 _ => dcmp_any p1 p2 q1 q2 w1
  have cCmpR : ∀ w1, Below w2.heap.size w2 w1 → _ := fun w1 _ => rdcmp_any p1 p2 q1 q2 w1
  have cOff : ∀ w1, Below w2.heap.size w2 w1 → _ := fun w1 h1 => doffset_any _ l p1 p2 w1 (hA.s.below h1) hf.len hf.s
  have cOffR : ∀ w1, Below w2.heap.size w2 w1 → _ := fun w1 h1 => rdoffset_any _ m p1 p2 w1 (hwa.s.below h1) hfm
  have cAt : ∀ w1, Below w2.heap.size w2 w1 → _ := fun w1 h1 => dat_any _ l n0 w1 (hA.s.below h1) hf.len hf.cnt hn1
  have cAtR : ∀ w1, Below w2.heap.size w2 w1 → _ := fun w1 h1 => rdat_any _ m n0 w1 (hwa.s.below h1) hfm
  have cStep : ∀ w1, Below w2.heap.size w2 w1 → _ := fun w1 h1 => dstep_any _ l p1 p2 z w1 (hA.s.below h1) hf hz0 hz1
  have cStepR : ∀ w1, Below w2.heap.size w2 w1 → _ := fun w1 h1 => rdstep_any _ m p1 p2 z w1 (hwa.s.below h1) hfm
  have cDown : ∀ w1, Below w2.heap.size w2 w1 → _ := fun w1 h1 => down_any _ l w1 (hA.below h1) hf
  have cSame : ∀ w1, Below w2.heap.size w2 w1 → _ := fun w1 h1 => rdsame_any _ _ l m w1 (hA.below h1) (hwa.below h1) hf
  have cAw : ∀ w1, Below w2.heap.size w2 w1 → _ := fun w1 h1 => awake_any w1 (hE2.below h1)
  have cIsL : ∀ (vv : Value) (r : List Lw) (B : Nat) w1, Below w2.heap.size w2 w1 → OwnD B w1 vv r → pl r = pl l → B ≤ w1.heap.size → Calls Tryz.prog 31 #[vv, .int .i64 0, .slice u m.length cap, .int .i64 0] w1 fun en w' => en = .returned (.bool true) ∧ Below B w1 w' := fun vv r B w1 h1 ho hr hB => by
    have := isL_any vv _ r m 0 0 B w1 ho (hwa.below h1) (by rw [hr]; exact hf) hB
    rw [hr, hpl, sameD_refl] at this
    exact this
  rw [hmn] at cMayR cSizeR cEndR cIsR cClampR cOffR cAtR cStepR cSame cIsL ⊢
  rw [hpl] at cMayR cSizeR cEndR cIsR cClampR cOffR cAtR cStepR cSame
  rw [sameD_refl] at cSame
  obtain ⟨M, hM⟩ : ∃ M, mayD (pl l) = M := ⟨_, rfl⟩
  obtain ⟨Sz, hSz⟩ : ∃ M, sizeD (pl l) = M := ⟨_, rfl⟩
  obtain ⟨⟨E1, E2⟩, hEn⟩ : ∃ M, endD (pl l) = M := ⟨_, rfl⟩
  obtain ⟨I, hI⟩ : ∃ M, isD (pl l) (p1, p2) = M := ⟨_, rfl⟩
  obtain ⟨⟨C1, C2⟩, hC⟩ : ∃ M, clampD (pl l) (p1, p2) = M := ⟨_, rfl⟩
  obtain ⟨K, hK⟩ : ∃ M, cmpP (p1, p2) (q1, q2) = M := ⟨_, rfl⟩
  obtain ⟨⟨O1, O2⟩, hO⟩ : ∃ M, offsetD (pl l) (p1, p2) = M := ⟨_, rfl⟩
  obtain ⟨⟨⟨A1, A2⟩, A3⟩, hAt⟩ : ∃ M, atD (pl l) n0 = M := ⟨_, rfl⟩
  obtain ⟨⟨⟨T1, T2⟩, T3⟩, hT⟩ : ∃ M, stepD (pl l) (p1, p2) z = M := ⟨_, rfl⟩
  rw [hM] at cMay cMayR
  rw [hSz] at cSize cSizeR
  rw [hEn] at cEnd cEndR
  rw [hI] at cIs cIsR
  rw [hC] at cClamp cClampR
  rw [hK] at cCmp cCmpR
  rw [hO] at cOff cOffR
  rw [hAt] at cAt cAtR
  rw [hT] at cStep cStepR
  unfold errZ at cAt cAtR
  unfold psV at cEnd cEndR cIs cIsR cClamp cClampR cCmp cCmpR cOff cOffR cAt cAtR cStep cStepR
  dsimp only at cEnd cEndR cIs cIsR cClamp cClampR cCmp cCmpR cOff cOffR cAt cAtR cStep cStepR
  clear hA hE2 hwa hf hpl hfm hmn hM hSz hEn hI hC hK hO hAt hT hn1 hz0 hz1 HD HE HF HM hwas cW
  have KS : Hid (∀ w', Below w2.heap.size w2 w' → (w'.cell? ⟨w.heap.size, 0, none⟩ = some (.int .i64 p1) ∧ w'.cell? ⟨w.heap.size, 1, none⟩ = some (.int .i64 p2) ∧ w'.cell? ⟨w.heap.size + 1, 0, none⟩ = some (.int .i64 q1) ∧ w'.cell? ⟨w.heap.size + 1, 1, none⟩ = some (.int .i64 q2))) := Lib.hid (fun w' h => ⟨(H6.out.below h).c0, (H6.out.below h).c1, (H7.out.below h).c0, (H7.out.below h).c1⟩)
  have hv : Hid (Below w2.heap.size w2 w2) := Lib.hid (Below.refl _ _)
  have hS : (w2.cell? ⟨w.heap.size, 0, none⟩ = some (.int .i64 p1) ∧ w2.cell? ⟨w.heap.size, 1, none⟩ = some (.int .i64 p2) ∧ w2.cell? ⟨w.heap.size + 1, 0, none⟩ = some (.int .i64 q1) ∧ w2.cell? ⟨w.heap.size + 1, 1, none⟩ = some (.int .i64 q2)) := KS.out _ hv.out
  go_region_held3 (fun w' => (w'.cell? ⟨w.heap.size, 0, none⟩ = some (.int .i64 p1) ∧ w'.cell? ⟨w.heap.size, 1, none⟩ = some (.int .i64 p2) ∧ w'.cell? ⟨w.heap.size + 1, 0, none⟩ = some (.int .i64 q1) ∧ w'.cell? ⟨w.heap.size + 1, 1, none⟩ = some (.int .i64 q2))) (first | (with_reducible exact hS) | (refine KS.out _ ?_; (repeat (first | (with_reducible exact hv.out) | (with_reducible exact Below.refl _ _) | (with_reducible refine Below.drew ?_) | (with_reducible refine Below.alloc ?_ ?_ _) | omega | (simp <;> omega))); done)) (first
    | (go_at_call 13; ((with_reducible refine (cMay _ ?hb).mono ?_); (case hb => (repeat (first | (with_reducible exact hv.out) | (with_reducible exact Below.refl _ _) | (with_reducible refine Below.drew ?_) | (with_reducible refine Below.alloc ?_ ?_ _) | omega | (simp <;> omega)))); rintro e w10 ⟨rfl, hk⟩; have hg := Lib.hid ((show Below w2.heap.size w2 _ by (repeat (first | (with_reducible exact hv.out) | (with_reducible exact Below.refl _ _) | (with_reducible refine Below.drew ?_) | (with_reducible refine Below.alloc ?_ ?_ _) | omega | (simp <;> omega)))).trans (hk.mono (by (first | omega | (simp; done) | (simp; omega))))); replace hS := KS.out _ hg.out; clear hv; have hv := hg; (try clear hsv); have hsv := hv.out.size; clear hg hk))
    | (go_at_call 14; ((with_reducible refine (cMayR _ ?hb).mono ?_); (case hb => (repeat (first | (with_reducible exact hv.out) | (with_reducible exact Below.refl _ _) | (with_reducible refine Below.drew ?_) | (with_reducible refine Below.alloc ?_ ?_ _) | omega | (simp <;> omega)))); rintro e w11 ⟨rfl, hk⟩; have hg := Lib.hid ((show Below w2.heap.size w2 _ by (repeat (first | (with_reducible exact hv.out) | (with_reducible exact Below.refl _ _) | (with_reducible refine Below.drew ?_) | (with_reducible refine Below.alloc ?_ ?_ _) | omega | (simp <;> omega)))).trans (hk.mono (by (first | omega | (simp; done) | (simp; omega))))); replace hS := KS.out _ hg.out; clear hv; have hv := hg; (try clear hsv); have hsv := hv.out.size; clear hg hk))
    | (go_at_call 15; ((with_reducible refine (cSize _ ?hb).mono ?_); (case hb => (repeat (first | (with_reducible exact hv.out) | (with_reducible exact Below.refl _ _) | (with_reducible refine Below.drew ?_) | (with_reducible refine Below.alloc ?_ ?_ _) | omega | (simp <;> omega)))); rintro e w12 ⟨rfl, hk⟩; have hg := Lib.hid ((show Below w2.heap.size w2 _ by (repeat (first | (with_reducible exact hv.out) | (with_reducible exact Below.refl _ _) | (with_reducible refine Below.drew ?_) | (with_reducible refine Below.alloc ?_ ?_ _) | omega | (simp <;> omega)))).trans (hk.mono (by (first | omega | (simp; done) | (simp; omega))))); replace hS := KS.out _ hg.out; clear hv; have hv := hg; (try clear hsv); have hsv := hv.out.size; clear hg hk))
    | (go_at_call 16; ((with_reducible refine (cSizeR _ ?hb).mono ?_); (case hb => (repeat (first | (with_reducible exact hv.out) | (with_reducible exact Below.refl _ _) | (with_reducible refine Below.drew ?_) | (with_reducible refine Below.alloc ?_ ?_ _) | omega | (simp <;> omega)))); rintro e w13 ⟨rfl, hk⟩; have hg := Lib.hid ((show Below w2.heap.size w2 _ by (repeat (first | (with_reducible exact hv.out) | (with_reducible exact Below.refl _ _) | (with_reducible refine Below.drew ?_) | (with_reducible refine Below.alloc ?_ ?_ _) | omega | (simp <;> omega)))).trans (hk.mono (by (first | omega | (simp; done) | (simp; omega))))); replace hS := KS.out _ hg.out; clear hv; have hv := hg; (try clear hsv); have hsv := hv.out.size; clear hg hk))
    | (go_at_call 17; ((with_reducible refine (cEnd _ ?hb).mono ?_); (case hb => (repeat (first | (with_reducible exact hv.out) | (with_reducible exact Below.refl _ _) | (with_reducible refine Below.drew ?_) | (with_reducible refine Below.alloc ?_ ?_ _) | omega | (simp <;> omega)))); rintro e w14 ⟨rfl, hk⟩; have hg := Lib.hid ((show Below w2.heap.size w2 _ by (repeat (first | (with_reducible exact hv.out) | (with_reducible exact Below.refl _ _) | (with_reducible refine Below.drew ?_) | (with_reducible refine Below.alloc ?_ ?_ _) | omega | (simp <;> omega)))).trans (hk.mono (by (first | omega | (simp; done) | (simp; omega))))); replace hS := KS.out _ hg.out; clear hv; have hv := hg; (try clear hsv); have hsv := hv.out.size; clear hg hk))
    | (go_at_call 18; ((with_reducible refine (cEndR _ ?hb).mono ?_); (case hb => (repeat (first | (with_reducible exact hv.out) | (with_reducible exact Below.refl _ _) | (with_reducible refine Below.drew ?_) | (with_reducible refine Below.alloc ?_ ?_ _) | omega | (simp <;> omega)))); rintro e w15 ⟨rfl, hk⟩; have hg := Lib.hid ((show Below w2.heap.size w2 _ by (repeat (first | (with_reducible exact hv.out) | (with_reducible exact Below.refl _ _) | (with_reducible refine Below.drew ?_) | (with_reducible refine Below.alloc ?_ ?_ _) | omega | (simp <;> omega)))).trans (hk.mono (by (first | omega | (simp; done) | (simp; omega))))); replace hS := KS.out _ hg.out; clear hv; have hv := hg; (try clear hsv); have hsv := hv.out.size; clear hg hk))
    | (go_at_call 19; ((with_reducible refine (cIs _ ?hb).mono ?_); (case hb => (repeat (first | (with_reducible exact hv.out) | (with_reducible exact Below.refl _ _) | (with_reducible refine Below.drew ?_) | (with_reducible refine Below.alloc ?_ ?_ _) | omega | (simp <;> omega)))); rintro e w16 ⟨rfl, hk⟩; have hg := Lib.hid ((show Below w2.heap.size w2 _ by (repeat (first | (with_reducible exact hv.out) | (with_reducible exact Below.refl _ _) | (with_reducible refine Below.drew ?_) | (with_reducible refine Below.alloc ?_ ?_ _) | omega | (simp <;> omega)))).trans (hk.mono (by (first | omega | (simp; done) | (simp; omega))))); replace hS := KS.out _ hg.out; clear hv; have hv := hg; (try clear hsv); have hsv := hv.out.size; clear hg hk))
    | (go_at_call 20; ((with_reducible refine (cIsR _ ?hb).mono ?_); (case hb => (repeat (first | (with_reducible exact hv.out) | (with_reducible exact Below.refl _ _) | (with_reducible refine Below.drew ?_) | (with_reducible refine Below.alloc ?_ ?_ _) | omega | (simp <;> omega)))); rintro e w17 ⟨rfl, hk⟩; have hg := Lib.hid ((show Below w2.heap.size w2 _ by (repeat (first | (with_reducible exact hv.out) | (with_reducible exact Below.refl _ _) | (with_reducible refine Below.drew ?_) | (with_reducible refine Below.alloc ?_ ?_ _) | omega | (simp <;> omega)))).trans (hk.mono (by (first | omega | (simp; done) | (simp; omega))))); replace hS := KS.out _ hg.out; clear hv; have hv := hg; (try clear hsv); have hsv := hv.out.size; clear hg hk))
    | (go_at_call 21; ((with_reducible refine (cClamp _ ?hb).mono ?_); (case hb => (repeat (first | (with_reducible exact hv.out) | (with_reducible exact Below.refl _ _) | (with_reducible refine Below.drew ?_) | (with_reducible refine Below.alloc ?_ ?_ _) | omega | (simp <;> omega)))); rintro e w18 ⟨rfl, hk⟩; have hg := Lib.hid ((show Below w2.heap.size w2 _ by (repeat (first | (with_reducible exact hv.out) | (with_reducible exact Below.refl _ _) | (with_reducible refine Below.drew ?_) | (with_reducible refine Below.alloc ?_ ?_ _) | omega | (simp <;> omega)))).trans (hk.mono (by (first | omega | (simp; done) | (simp; omega))))); replace hS := KS.out _ hg.out; clear hv; have hv := hg; (try clear hsv); have hsv := hv.out.size; clear hg hk))
    | (go_at_call 22; ((with_reducible refine (cClampR _ ?hb).mono ?_); (case hb => (repeat (first | (with_reducible exact hv.out) | (with_reducible exact Below.refl _ _) | (with_reducible refine Below.drew ?_) | (with_reducible refine Below.alloc ?_ ?_ _) | omega | (simp <;> omega)))); rintro e w19 ⟨rfl, hk⟩; have hg := Lib.hid ((show Below w2.heap.size w2 _ by (repeat (first | (with_reducible exact hv.out) | (with_reducible exact Below.refl _ _) | (with_reducible refine Below.drew ?_) | (with_reducible refine Below.alloc ?_ ?_ _) | omega | (simp <;> omega)))).trans (hk.mono (by (first | omega | (simp; done) | (simp; omega))))); replace hS := KS.out _ hg.out; clear hv; have hv := hg; (try clear hsv); have hsv := hv.out.size; clear hg hk))
    | (go_at_call 23; ((with_reducible refine (cCmp _ ?hb).mono ?_); (case hb => (repeat (first | (with_reducible exact hv.out) | (with_reducible exact Below.refl _ _) | (with_reducible refine Below.drew ?_) | (with_reducible refine Below.alloc ?_ ?_ _) | omega | (simp <;> omega)))); rintro e w28 ⟨rfl, hk⟩; have hg := Lib.hid ((show Below w2.heap.size w2 _ by (repeat (first | (with_reducible exact hv.out) | (with_reducible exact Below.refl _ _) | (with_reducible refine Below.drew ?_) | (with_reducible refine Below.alloc ?_ ?_ _) | omega | (simp <;> omega)))).trans (hk.mono (by (first | omega | (simp; done) | (simp; omega))))); replace hS := KS.out _ hg.out; clear hv; have hv := hg; (try clear hsv); have hsv := hv.out.size; clear hg hk))
    | (go_at_call 24; ((with_reducible refine (cCmpR _ ?hb).mono ?_); (case hb => (repeat (first | (with_reducible exact hv.out) | (with_reducible exact Below.refl _ _) | (with_reducible refine Below.drew ?_) | (with_reducible refine Below.alloc ?_ ?_ _) | omega | (simp <;> omega)))); rintro e w29 ⟨rfl, hk⟩; have hg := Lib.hid ((show Below w2.heap.size w2 _ by (repeat (first | (with_reducible exact hv.out) | (with_reducible exact Below.refl _ _) | (with_reducible refine Below.drew ?_) | (with_reducible refine Below.alloc ?_ ?_ _) | omega | (simp <;> omega)))).trans (hk.mono (by (first | omega | (simp; done) | (simp; omega))))); replace hS := KS.out _ hg.out; clear hv; have hv := hg; (try clear hsv); have hsv := hv.out.size; clear hg hk)))
  clear cMay cMayR cSize cSizeR cEnd cEndR cIs cIsR cClamp cClampR cCmp cCmpR
  replace H6 := Lib.hid (H6.out.below hv.out)
  replace H7 := Lib.hid (H7.out.below hv.out)
  clear u0 u1 v0 v1
  obtain ⟨_, u0, u1, _, _⟩ := H6.out
  obtain ⟨_, v0, v1, _, _⟩ := H7.out
  go_upto_region 12 with (first
    | (go_at_call 25; ((with_reducible refine (cOff _ ?hb).mono ?_); (case hb => (repeat (first | (with_reducible exact hv.out) | (with_reducible exact Below.refl _ _) | (with_reducible refine Below.drew ?_) | (with_reducible refine Below.alloc ?_ ?_ _) | omega | (simp <;> omega)))); rintro e w20 ⟨rfl, hk⟩; have hg := Lib.hid ((show Below w2.heap.size w2 _ by (repeat (first | (with_reducible exact hv.out) | (with_reducible exact Below.refl _ _) | (with_reducible refine Below.drew ?_) | (with_reducible refine Below.alloc ?_ ?_ _) | omega | (simp <;> omega)))).trans (hk.mono (by (first | omega | (simp; done) | (simp; omega))))); have hk6 := H6.out.below hk; have hk7 := H7.out.below hk; clear H6 H7; have H6 := Lib.hid hk6; have H7 := Lib.hid hk7; (try clear u0 u1 v0 v1); obtain ⟨_, u0, u1, _, _⟩ := H6.out; obtain ⟨_, v0, v1, _, _⟩ := H7.out; clear hk6 hk7; clear hv; have hv := hg; (try clear hsv); have hsv := hv.out.size; clear hg hk))
    | (go_at_call 26; ((with_reducible refine (cOffR _ ?hb).mono ?_); (case hb => (repeat (first | (with_reducible exact hv.out) | (with_reducible exact Below.refl _ _) | (with_reducible refine Below.drew ?_) | (with_reducible refine Below.alloc ?_ ?_ _) | omega | (simp <;> omega)))); rintro e w21 ⟨rfl, hk⟩; have hg := Lib.hid ((show Below w2.heap.size w2 _ by (repeat (first | (with_reducible exact hv.out) | (with_reducible exact Below.refl _ _) | (with_reducible refine Below.drew ?_) | (with_reducible refine Below.alloc ?_ ?_ _) | omega | (simp <;> omega)))).trans (hk.mono (by (first | omega | (simp; done) | (simp; omega))))); have hk6 := H6.out.below hk; have hk7 := H7.out.below hk; clear H6 H7; have H6 := Lib.hid hk6; have H7 := Lib.hid hk7; (try clear u0 u1 v0 v1); obtain ⟨_, u0, u1, _, _⟩ := H6.out; obtain ⟨_, v0, v1, _, _⟩ := H7.out; clear hk6 hk7; clear hv; have hv := hg; (try clear hsv); have hsv := hv.out.size; clear hg hk))
    | (go_at_call 27; ((with_reducible refine (cAt _ ?hb).mono ?_); (case hb => (repeat (first | (with_reducible exact hv.out) | (with_reducible exact Below.refl _ _) | (with_reducible refine Below.drew ?_) | (with_reducible refine Below.alloc ?_ ?_ _) | omega | (simp <;> omega)))); rintro e w22 ⟨rfl, hk⟩; have hg := Lib.hid ((show Below w2.heap.size w2 _ by (repeat (first | (with_reducible exact hv.out) | (with_reducible exact Below.refl _ _) | (with_reducible refine Below.drew ?_) | (with_reducible refine Below.alloc ?_ ?_ _) | omega | (simp <;> omega)))).trans (hk.mono (by (first | omega | (simp; done) | (simp; omega))))); have hk6 := H6.out.below hk; have hk7 := H7.out.below hk; clear H6 H7; have H6 := Lib.hid hk6; have H7 := Lib.hid hk7; (try clear u0 u1 v0 v1); obtain ⟨_, u0, u1, _, _⟩ := H6.out; obtain ⟨_, v0, v1, _, _⟩ := H7.out; clear hk6 hk7; clear hv; have hv := hg; (try clear hsv); have hsv := hv.out.size; clear hg hk))
    | (go_at_call 28; ((with_reducible refine (cAtR _ ?hb).mono ?_); (case hb => (repeat (first | (with_reducible exact hv.out) | (with_reducible exact Below.refl _ _) | (with_reducible refine Below.drew ?_) | (with_reducible refine Below.alloc ?_ ?_ _) | omega | (simp <;> omega)))); rintro e w23 ⟨rfl, hk⟩; have hg := Lib.hid ((show Below w2.heap.size w2 _ by (repeat (first | (with_reducible exact hv.out) | (with_reducible exact Below.refl _ _) | (with_reducible refine Below.drew ?_) | (with_reducible refine Below.alloc ?_ ?_ _) | omega | (simp <;> omega)))).trans (hk.mono (by (first | omega | (simp; done) | (simp; omega))))); have hal := (below_alloc1 w22 _).trans (hk.mono (by simp)); have hk6 := H6.out.below hal; have hk7 := H7.out.below hal; clear H6 H7; have H6 := Lib.hid hk6; have H7 := Lib.hid hk7; (try clear u0 u1 v0 v1); obtain ⟨_, u0, u1, _, _⟩ := H6.out; obtain ⟨_, v0, v1, _, _⟩ := H7.out; clear hk6 hk7; have H16 := Lib.hid ((ps_new w22 A1 A2).below hk); clear hal; clear hv; have hv := hg; (try clear hsv); have hsv := hv.out.size; clear hg hk))
    | (go_at_call 29; ((with_reducible refine (cStep _ ?hb).mono ?_); (case hb => (repeat (first | (with_reducible exact hv.out) | (with_reducible exact Below.refl _ _) | (with_reducible refine Below.drew ?_) | (with_reducible refine Below.alloc ?_ ?_ _) | omega | (simp <;> omega)))); rintro e w24 ⟨rfl, hk⟩; have hg := Lib.hid ((show Below w2.heap.size w2 _ by (repeat (first | (with_reducible exact hv.out) | (with_reducible exact Below.refl _ _) | (with_reducible refine Below.drew ?_) | (with_reducible refine Below.alloc ?_ ?_ _) | omega | (simp <;> omega)))).trans (hk.mono (by (first | omega | (simp; done) | (simp; omega))))); have hal := (below_alloc1 w23 _).trans (hk.mono (by simp)); have hk6 := H6.out.below hal; have hk7 := H7.out.below hal; clear H6 H7; have H6 := Lib.hid hk6; have H7 := Lib.hid hk7; (try clear u0 u1 v0 v1); obtain ⟨_, u0, u1, _, _⟩ := H6.out; obtain ⟨_, v0, v1, _, _⟩ := H7.out; clear hk6 hk7; have H18 := Lib.hid ((ps_new w23 A1 A2).below hk); have h16 := H16.out.below hal; clear H16; have H16 := Lib.hid h16; clear hal h16; clear hv; have hv := hg; (try clear hsv); have hsv := hv.out.size; clear hg hk))
    | (go_at_call 30; ((with_reducible refine (cStepR _ ?hb).mono ?_); (case hb => (repeat (first | (with_reducible exact hv.out) | (with_reducible exact Below.refl _ _) | (with_reducible refine Below.drew ?_) | (with_reducible refine Below.alloc ?_ ?_ _) | omega | (simp <;> omega)))); rintro e w25 ⟨rfl, hk⟩; have hg := Lib.hid ((show Below w2.heap.size w2 _ by (repeat (first | (with_reducible exact hv.out) | (with_reducible exact Below.refl _ _) | (with_reducible refine Below.drew ?_) | (with_reducible refine Below.alloc ?_ ?_ _) | omega | (simp <;> omega)))).trans (hk.mono (by (first | omega | (simp; done) | (simp; omega))))); have hal := (below_alloc1 w24 _).trans (hk.mono (by simp)); have hk6 := H6.out.below hal; have hk7 := H7.out.below hal; clear H6 H7; have H6 := Lib.hid hk6; have H7 := Lib.hid hk7; (try clear u0 u1 v0 v1); obtain ⟨_, u0, u1, _, _⟩ := H6.out; obtain ⟨_, v0, v1, _, _⟩ := H7.out; clear hk6 hk7; have H20 := Lib.hid ((ps_new w24 T1 T2).below hk); have h16 := H16.out.below hal; have h18 := H18.out.below hal; clear H16 H18; have H16 := Lib.hid h16; have H18 := Lib.hid h18; clear hal h16 h18; clear hv; have hv := hg; (try clear hsv); have hsv := hv.out.size; clear hg hk)))
  clear cOff cOffR cAt cAtR cStep cStepR
  have hv1 := Lib.hid (hv.out.alloc hsv (.cells #[.int .i64 T1, .int .i64 T2] 24))
  have hal := below_alloc1 w25 (.cells #[.int .i64 T1, .int .i64 T2] 24)
  have B16 := H16.out.below hal
  have B18 := H18.out.below hal
  have B20 := H20.out.below hal
  have B22 := ps_new w25 T1 T2
  obtain ⟨WR, hWR⟩ : ∃ W, w25.alloc (.cells #[.int .i64 T1, .int .i64 T2] 24) = W := ⟨_, rfl⟩
  rw [hWR] at B16 B18 B20 B22 hv1 ⊢
  have KS2 : Hid (∀ w', Below WR.heap.size WR w' → (w'.cell? ⟨w22.heap.size, 0, none⟩ = some (.int .i64 A1) ∧ w'.cell? ⟨w22.heap.size, 1, none⟩ = some (.int .i64 A2) ∧ w'.cell? ⟨w23.heap.size, 0, none⟩ = some (.int .i64 A1) ∧ w'.cell? ⟨w23.heap.size, 1, none⟩ = some (.int .i64 A2) ∧ w'.cell? ⟨w24.heap.size, 0, none⟩ = some (.int .i64 T1) ∧ w'.cell? ⟨w24.heap.size, 1, none⟩ = some (.int .i64 T2) ∧ w'.cell? ⟨w25.heap.size, 0, none⟩ = some (.int .i64 T1) ∧ w'.cell? ⟨w25.heap.size, 1, none⟩ = some (.int .i64 T2))) := Lib.hid (fun w' h => ⟨(B16.below h).c0, (B16.below h).c1, (B18.below h).c0, (B18.below h).c1, (B20.below h).c0, (B20.below h).c1, (B22.below h).c0, (B22.below h).c1⟩)
  have hr : Hid (Below WR.heap.size WR WR) := Lib.hid (Below.refl _ _)
  have hS : (WR.cell? ⟨w22.heap.size, 0, none⟩ = some (.int .i64 A1) ∧ WR.cell? ⟨w22.heap.size, 1, none⟩ = some (.int .i64 A2) ∧ WR.cell? ⟨w23.heap.size, 0, none⟩ = some (.int .i64 A1) ∧ WR.cell? ⟨w23.heap.size, 1, none⟩ = some (.int .i64 A2) ∧ WR.cell? ⟨w24.heap.size, 0, none⟩ = some (.int .i64 T1) ∧ WR.cell? ⟨w24.heap.size, 1, none⟩ = some (.int .i64 T2) ∧ WR.cell? ⟨w25.heap.size, 0, none⟩ = some (.int .i64 T1) ∧ WR.cell? ⟨w25.heap.size, 1, none⟩ = some (.int .i64 T2)) := KS2.out _ hr.out
  clear KS hv hsv H6 H7 H16 H18 H20 B16 B18 B20 B22 hal hWR u0 u1 v0 v1
  have hv := hv1
  have hsv := hv.out.size
  have hszR : w2.heap.size ≤ WR.heap.size := hv.out.size
  clear hv1
  obtain ⟨s1, s2, s3, s4, s5, s6, s7, s8⟩ := hS
  clear KS2
  go_wp2_with (first
    | (go_at_call 32; ((with_reducible refine (cDown _ ?hb).mono ?_); (case hb => (repeat (first | (with_reducible exact hv.out) | (with_reducible exact Below.refl _ _) | (with_reducible refine Below.drew ?_) | (with_reducible refine Below.alloc ?_ ?_ _) | omega | (simp <;> omega)))); rintro e w30 ⟨sv, r, rfl, hown, hpr, hk⟩; have hg := Lib.hid ((show Below w2.heap.size w2 _ by (repeat (first | (with_reducible exact hv.out) | (with_reducible exact Below.refl _ _) | (with_reducible refine Below.drew ?_) | (with_reducible refine Below.alloc ?_ ?_ _) | omega | (simp <;> omega)))).trans (hk.mono (by (first | omega | (simp; done) | (simp; omega))))); have hc := fun hh => cIsL _ r _ w30 hh hown hpr (hk.size); obtain ⟨u3, cap3, rfl⟩ := own_len hown.own; have hcI := hc hg.out; clear hc hown; clear hv; have hv := hg; (try clear hsv); have hsv := hv.out.size; clear hg hk))
    | (go_at_call 31; ((with_reducible refine hcI.mono ?_); rintro e w31 ⟨rfl, hk⟩; have hg := Lib.hid (hv.out.trans (hk.mono (by (first | omega | (simp; done) | (simp; omega))))); clear hv; have hv := hg; (try clear hsv); have hsv := hv.out.size; clear hg hk))
    | (go_at_call 33; ((with_reducible refine (cSame _ ?hb).mono ?_); (case hb => (repeat (first | (with_reducible exact hv.out) | (with_reducible exact Below.refl _ _) | (with_reducible refine Below.drew ?_) | (with_reducible refine Below.alloc ?_ ?_ _) | omega | (simp <;> omega)))); rintro e w32 ⟨rfl, hk⟩; have hg := Lib.hid ((show Below w2.heap.size w2 _ by (repeat (first | (with_reducible exact hv.out) | (with_reducible exact Below.refl _ _) | (with_reducible refine Below.drew ?_) | (with_reducible refine Below.alloc ?_ ?_ _) | omega | (simp <;> omega)))).trans (hk.mono (by (first | omega | (simp; done) | (simp; omega))))); clear hv; have hv := hg; (try clear hsv); have hsv := hv.out.size; clear hg hk))
    | (go_at_call 11; ((with_reducible refine (cAw _ ?hb).mono ?_); (case hb => (repeat (first | (with_reducible exact hv.out) | (with_reducible exact Below.refl _ _) | (with_reducible refine Below.drew ?_) | (with_reducible refine Below.alloc ?_ ?_ _) | omega | (simp <;> omega)))); rintro e w33 ⟨rfl, hk⟩; have hg := Lib.hid ((show Below w2.heap.size w2 _ by (repeat (first | (with_reducible exact hv.out) | (with_reducible exact Below.refl _ _) | (with_reducible refine Below.drew ?_) | (with_reducible refine Below.alloc ?_ ?_ _) | omega | (simp <;> omega)))).trans (hk.mono (by (first | omega | (simp; done) | (simp; omega))))); clear hv; have hv := hg; (try clear hsv); have hsv := hv.out.size; clear hg hk)))
  go_ret
  exact ⟨rfl, hb.out.trans (hv.out.mono hb.out.size)⟩

end Go.Proofs.YtehjfcefkiglaaaGreatDoor
