/-
  The law DocParts.
-/
import Derived.Test.YtehjfcefkiglaaaGreatDoorCLLong
import Derived.Test.YtehjfcefkiglaaaGreatDoorCPureH
import Derived.Test.YtehjfcefkiglaaaGreatDoorCDocD
import Derived.Deep.RegionHeld3
import Derived.Deep.DeepCutAuto

namespace Go.Proofs.YtehjfcefkiglaaaGreatDoor
open Go.RowKit Go.Lib

set_option maxRecDepth 40000 in
set_option maxHeartbeats 64000000 in
theorem lawParts_early (v : Value) (l : List Lw) (p1 p2 q1 q2 r1 r2 : Int) (w : World) (hE : Tg.Env w) (h : DocAt w v l) (hs0 : SizedD l) (hx : longD (pl l) = true ∨ longD (pl l) = false ∧ (mayD (pl l) = false ∨ mayD (pl l) = true ∧ (isD (pl l) (p1, p2) = false ∨ isD (pl l) (p1, p2) = true ∧ (isD (pl l) (q1, q2) = false ∨ isD (pl l) (q1, q2) = true ∧ (isD (pl l) (r1, r2) = false ∨ isD (pl l) (r1, r2) = true ∧ (0 < cmpP (p1, p2) (q1, q2) ∨ ¬ 0 < cmpP (p1, p2) (q1, q2) ∧ 0 < cmpP (q1, q2) (r1, r2))))))) :
    Calls Tryz.prog 9 #[v, .agg #[.int .i64 p1, .int .i64 p2], .agg #[.int .i64 q1, .int .i64 q2], .agg #[.int .i64 r1, .int .i64 r2]] w fun e w' => e = .returned (.bool true) ∧ Below w.heap.size w w' := by
  obtain ⟨a, c, rfl⟩ := h.s.len
  have cW : ∀ w1, Below w.heap.size w w1 → _ := fun w1 h1 => awake_any w1 (hE.below h1)
  have cL : ∀ w1, Below w.heap.size w w1 → _ := fun w1 h1 => llong_any _ l w1 (h.below h1) hs0
  have hb : Hid (Below w.heap.size w w) := Lib.hid (Below.refl _ _)
  have X5 := Lib.hid (((ps_new w p1 p2).below (below_alloc1 _ (.cells #[.int .i64 q1, .int .i64 q2] 24))).below (below_alloc1 _ (.cells #[.int .i64 r1, .int .i64 r2] 24)))
  have X6 := Lib.hid ((ps_new (w.alloc (.cells #[.int .i64 p1, .int .i64 p2] 24)) q1 q2).below (below_alloc1 _ (.cells #[.int .i64 r1, .int .i64 r2] 24)))
  rw [show (w.alloc (.cells #[.int .i64 p1, .int .i64 p2] 24)).heap.size = w.heap.size + 1 by simp] at X6
  have X7 := Lib.hid (ps_new ((w.alloc (.cells #[.int .i64 p1, .int .i64 p2] 24)).alloc (.cells #[.int .i64 q1, .int .i64 q2] 24)) r1 r2)
  rw [show ((w.alloc (.cells #[.int .i64 p1, .int .i64 p2] 24)).alloc (.cells #[.int .i64 q1, .int .i64 q2] 24)).heap.size = w.heap.size + 1 + 1 by simp] at X7
  rcases hx with hl | ⟨hl, hx⟩
  · rw [hl] at cL
    clear h hs0 hE hl
    go_enter Tryz.func9, Tryz.ntmps9
    go_wp2_with (first
      | (go_at_call 10; ((with_reducible refine (cL _ ?hb).mono ?_); (case hb => (repeat (first | (with_reducible exact hb.out) | (with_reducible exact Below.refl _ _) | (with_reducible refine Below.drew ?_) | (with_reducible refine Below.alloc ?_ ?_ _) | omega | (simp <;> omega)))); rintro e w1 ⟨rfl, hk⟩; have hd := Lib.hid ((show Below w.heap.size w _ by (repeat (first | (with_reducible exact hb.out) | (with_reducible exact Below.refl _ _) | (with_reducible refine Below.drew ?_) | (with_reducible refine Below.alloc ?_ ?_ _) | omega | (simp <;> omega)))).trans (hk.mono (by (first | omega | (simp; done) | (simp; omega))))); clear hb; have hb := hd; (try clear hs); have hs := hb.out.size; clear hd hk))
      | (go_at_call 11; ((with_reducible refine (cW _ ?hb).mono ?_); (case hb => (repeat (first | (with_reducible exact hb.out) | (with_reducible exact Below.refl _ _) | (with_reducible refine Below.drew ?_) | (with_reducible refine Below.alloc ?_ ?_ _) | omega | (simp <;> omega)))); rintro e w1 ⟨rfl, hk⟩; have hd := Lib.hid ((show Below w.heap.size w _ by (repeat (first | (with_reducible exact hb.out) | (with_reducible exact Below.refl _ _) | (with_reducible refine Below.drew ?_) | (with_reducible refine Below.alloc ?_ ?_ _) | omega | (simp <;> omega)))).trans (hk.mono (by (first | omega | (simp; done) | (simp; omega))))); clear hb; have hb := hd; (try clear hs); have hs := hb.out.size; clear hd hk)))
    all_goals go_ret
    all_goals exact ⟨rfl, hb.out⟩
  rw [hl] at cL
  obtain ⟨hf, _, _⟩ := longD_false hl
  have cMay : ∀ w1, Below w.heap.size w w1 → _ := fun w1 h1 => dmay_any _ l w1 (h.below h1) hf (hE.below h1)
  have cIa : ∀ w1, Below w.heap.size w w1 → _ := fun w1 h1 => dis_any _ l p1 p2 w1 (h.s.below h1) hf.len hf.cnt
  have cIb : ∀ w1, Below w.heap.size w w1 → _ := fun w1 h1 => dis_any _ l q1 q2 w1 (h.s.below h1) hf.len hf.cnt
  have cIc : ∀ w1, Below w.heap.size w w1 → _ := fun w1 h1 => dis_any _ l r1 r2 w1 (h.s.below h1) hf.len hf.cnt
  have cKa : ∀ w1, Below w.heap.size w w1 → _ := fun w1 _ => dcmp_any p1 p2 q1 q2 w1
  have cKb : ∀ w1, Below w.heap.size w w1 → _ := fun w1 _ => dcmp_any q1 q2 r1 r2 w1
  unfold psV at cIa cIb cIc cKa cKb
  dsimp only at cIa cIb cIc cKa cKb
  obtain ⟨n, hn⟩ : ∃ n, l.length = n := ⟨_, rfl⟩
  rw [hn] at cL cMay cIa cIb cIc ⊢
  obtain ⟨M, hM⟩ : ∃ M, mayD (pl l) = M := ⟨_, rfl⟩
  obtain ⟨Ia, hIa⟩ : ∃ M, isD (pl l) (p1, p2) = M := ⟨_, rfl⟩
  obtain ⟨Ib, hIb⟩ : ∃ M, isD (pl l) (q1, q2) = M := ⟨_, rfl⟩
  obtain ⟨Ic, hIc⟩ : ∃ M, isD (pl l) (r1, r2) = M := ⟨_, rfl⟩
  obtain ⟨Ka, hKa⟩ : ∃ M, cmpP (p1, p2) (q1, q2) = M := ⟨_, rfl⟩
  obtain ⟨Kb, hKb⟩ : ∃ M, cmpP (q1, q2) (r1, r2) = M := ⟨_, rfl⟩
  rw [hM] at cMay hx
  rw [hIa] at cIa hx
  rw [hIb] at cIb hx
  rw [hIc] at cIc hx
  rw [hKa] at cKa hx
  rw [hKb] at cKb hx
  clear h hf hs0 hE hl hn hM hIa hIb hIc hKa hKb
  rcases hx with rfl | ⟨rfl, rfl | ⟨rfl, rfl | ⟨rfl, rfl | ⟨rfl, hx | ⟨hx, hy⟩⟩⟩⟩⟩
  all_goals
    (go_enter Tryz.func9, Tryz.ntmps9
     go_wp2_with (first
      | (go_at_call 10; ((with_reducible refine (cL _ ?hb).mono ?_); (case hb => (repeat (first | (with_reducible exact hb.out) | (with_reducible exact Below.refl _ _) | (with_reducible refine Below.drew ?_) | (with_reducible refine Below.alloc ?_ ?_ _) | omega | (simp <;> omega)))); rintro e w1 ⟨rfl, hk⟩; have hd := Lib.hid ((show Below w.heap.size w _ by (repeat (first | (with_reducible exact hb.out) | (with_reducible exact Below.refl _ _) | (with_reducible refine Below.drew ?_) | (with_reducible refine Below.alloc ?_ ?_ _) | omega | (simp <;> omega)))).trans (hk.mono (by (first | omega | (simp; done) | (simp; omega))))); have H5 := Lib.hid (X5.out.below hk); have H6 := Lib.hid (X6.out.below hk); have H7 := Lib.hid (X7.out.below hk); obtain ⟨_, u0, u1, _, _⟩ := H5.out; obtain ⟨_, v0, v1, _, _⟩ := H6.out; obtain ⟨_, t0, t1, _, _⟩ := H7.out; clear hb; have hb := hd; (try clear hs); have hs := hb.out.size; clear hd hk))
      | (go_at_call 13; ((with_reducible refine (cMay _ ?hb).mono ?_); (case hb => (repeat (first | (with_reducible exact hb.out) | (with_reducible exact Below.refl _ _) | (with_reducible refine Below.drew ?_) | (with_reducible refine Below.alloc ?_ ?_ _) | omega | (simp <;> omega)))); rintro e w1 ⟨rfl, hk⟩; have hd := Lib.hid ((show Below w.heap.size w _ by (repeat (first | (with_reducible exact hb.out) | (with_reducible exact Below.refl _ _) | (with_reducible refine Below.drew ?_) | (with_reducible refine Below.alloc ?_ ?_ _) | omega | (simp <;> omega)))).trans (hk.mono (by (first | omega | (simp; done) | (simp; omega))))); have hk5 := H5.out.below hk; have hk6 := H6.out.below hk; have hk7 := H7.out.below hk; clear H5 H6 H7; have H5 := Lib.hid hk5; have H6 := Lib.hid hk6; have H7 := Lib.hid hk7; (try clear u0 u1 v0 v1 t0 t1); obtain ⟨_, u0, u1, _, _⟩ := H5.out; obtain ⟨_, v0, v1, _, _⟩ := H6.out; obtain ⟨_, t0, t1, _, _⟩ := H7.out; clear hk5 hk6 hk7; clear hb; have hb := hd; (try clear hs); have hs := hb.out.size; clear hd hk))
      | (go_at_call 19; ((with_reducible refine (cIa _ ?hb).mono ?_); (case hb => (repeat (first | (with_reducible exact hb.out) | (with_reducible exact Below.refl _ _) | (with_reducible refine Below.drew ?_) | (with_reducible refine Below.alloc ?_ ?_ _) | omega | (simp <;> omega)))); rintro e w1 ⟨rfl, hk⟩; have hd := Lib.hid ((show Below w.heap.size w _ by (repeat (first | (with_reducible exact hb.out) | (with_reducible exact Below.refl _ _) | (with_reducible refine Below.drew ?_) | (with_reducible refine Below.alloc ?_ ?_ _) | omega | (simp <;> omega)))).trans (hk.mono (by (first | omega | (simp; done) | (simp; omega))))); have hk5 := H5.out.below hk; have hk6 := H6.out.below hk; have hk7 := H7.out.below hk; clear H5 H6 H7; have H5 := Lib.hid hk5; have H6 := Lib.hid hk6; have H7 := Lib.hid hk7; (try clear u0 u1 v0 v1 t0 t1); obtain ⟨_, u0, u1, _, _⟩ := H5.out; obtain ⟨_, v0, v1, _, _⟩ := H6.out; obtain ⟨_, t0, t1, _, _⟩ := H7.out; clear hk5 hk6 hk7; clear hb; have hb := hd; (try clear hs); have hs := hb.out.size; clear hd hk))
      | (go_at_call 19; ((with_reducible refine (cIb _ ?hb).mono ?_); (case hb => (repeat (first | (with_reducible exact hb.out) | (with_reducible exact Below.refl _ _) | (with_reducible refine Below.drew ?_) | (with_reducible refine Below.alloc ?_ ?_ _) | omega | (simp <;> omega)))); rintro e w1 ⟨rfl, hk⟩; have hd := Lib.hid ((show Below w.heap.size w _ by (repeat (first | (with_reducible exact hb.out) | (with_reducible exact Below.refl _ _) | (with_reducible refine Below.drew ?_) | (with_reducible refine Below.alloc ?_ ?_ _) | omega | (simp <;> omega)))).trans (hk.mono (by (first | omega | (simp; done) | (simp; omega))))); have hk5 := H5.out.below hk; have hk6 := H6.out.below hk; have hk7 := H7.out.below hk; clear H5 H6 H7; have H5 := Lib.hid hk5; have H6 := Lib.hid hk6; have H7 := Lib.hid hk7; (try clear u0 u1 v0 v1 t0 t1); obtain ⟨_, u0, u1, _, _⟩ := H5.out; obtain ⟨_, v0, v1, _, _⟩ := H6.out; obtain ⟨_, t0, t1, _, _⟩ := H7.out; clear hk5 hk6 hk7; clear hb; have hb := hd; (try clear hs); have hs := hb.out.size; clear hd hk))
      | (go_at_call 19; ((with_reducible refine (cIc _ ?hb).mono ?_); (case hb => (repeat (first | (with_reducible exact hb.out) | (with_reducible exact Below.refl _ _) | (with_reducible refine Below.drew ?_) | (with_reducible refine Below.alloc ?_ ?_ _) | omega | (simp <;> omega)))); rintro e w1 ⟨rfl, hk⟩; have hd := Lib.hid ((show Below w.heap.size w _ by (repeat (first | (with_reducible exact hb.out) | (with_reducible exact Below.refl _ _) | (with_reducible refine Below.drew ?_) | (with_reducible refine Below.alloc ?_ ?_ _) | omega | (simp <;> omega)))).trans (hk.mono (by (first | omega | (simp; done) | (simp; omega))))); have hk5 := H5.out.below hk; have hk6 := H6.out.below hk; have hk7 := H7.out.below hk; clear H5 H6 H7; have H5 := Lib.hid hk5; have H6 := Lib.hid hk6; have H7 := Lib.hid hk7; (try clear u0 u1 v0 v1 t0 t1); obtain ⟨_, u0, u1, _, _⟩ := H5.out; obtain ⟨_, v0, v1, _, _⟩ := H6.out; obtain ⟨_, t0, t1, _, _⟩ := H7.out; clear hk5 hk6 hk7; clear hb; have hb := hd; (try clear hs); have hs := hb.out.size; clear hd hk))
      | (go_at_call 23; ((with_reducible refine (cKa _ ?hb).mono ?_); (case hb => (repeat (first | (with_reducible exact hb.out) | (with_reducible exact Below.refl _ _) | (with_reducible refine Below.drew ?_) | (with_reducible refine Below.alloc ?_ ?_ _) | omega | (simp <;> omega)))); rintro e w1 ⟨rfl, hk⟩; have hd := Lib.hid ((show Below w.heap.size w _ by (repeat (first | (with_reducible exact hb.out) | (with_reducible exact Below.refl _ _) | (with_reducible refine Below.drew ?_) | (with_reducible refine Below.alloc ?_ ?_ _) | omega | (simp <;> omega)))).trans (hk.mono (by (first | omega | (simp; done) | (simp; omega))))); have hk5 := H5.out.below hk; have hk6 := H6.out.below hk; have hk7 := H7.out.below hk; clear H5 H6 H7; have H5 := Lib.hid hk5; have H6 := Lib.hid hk6; have H7 := Lib.hid hk7; (try clear u0 u1 v0 v1 t0 t1); obtain ⟨_, u0, u1, _, _⟩ := H5.out; obtain ⟨_, v0, v1, _, _⟩ := H6.out; obtain ⟨_, t0, t1, _, _⟩ := H7.out; clear hk5 hk6 hk7; clear hb; have hb := hd; (try clear hs); have hs := hb.out.size; clear hd hk))
      | (go_at_call 23; ((with_reducible refine (cKb _ ?hb).mono ?_); (case hb => (repeat (first | (with_reducible exact hb.out) | (with_reducible exact Below.refl _ _) | (with_reducible refine Below.drew ?_) | (with_reducible refine Below.alloc ?_ ?_ _) | omega | (simp <;> omega)))); rintro e w2 ⟨rfl, hk⟩; have hd := Lib.hid ((show Below w.heap.size w _ by (repeat (first | (with_reducible exact hb.out) | (with_reducible exact Below.refl _ _) | (with_reducible refine Below.drew ?_) | (with_reducible refine Below.alloc ?_ ?_ _) | omega | (simp <;> omega)))).trans (hk.mono (by (first | omega | (simp; done) | (simp; omega))))); have hk5 := H5.out.below hk; have hk6 := H6.out.below hk; have hk7 := H7.out.below hk; clear H5 H6 H7; have H5 := Lib.hid hk5; have H6 := Lib.hid hk6; have H7 := Lib.hid hk7; (try clear u0 u1 v0 v1 t0 t1); obtain ⟨_, u0, u1, _, _⟩ := H5.out; obtain ⟨_, v0, v1, _, _⟩ := H6.out; obtain ⟨_, t0, t1, _, _⟩ := H7.out; clear hk5 hk6 hk7; clear hb; have hb := hd; (try clear hs); have hs := hb.out.size; clear hd hk))
      | (go_at_call 11; ((with_reducible refine (cW _ ?hb).mono ?_); (case hb => (repeat (first | (with_reducible exact hb.out) | (with_reducible exact Below.refl _ _) | (with_reducible refine Below.drew ?_) | (with_reducible refine Below.alloc ?_ ?_ _) | omega | (simp <;> omega)))); rintro e w1 ⟨rfl, hk⟩; have hd := Lib.hid ((show Below w.heap.size w _ by (repeat (first | (with_reducible exact hb.out) | (with_reducible exact Below.refl _ _) | (with_reducible refine Below.drew ?_) | (with_reducible refine Below.alloc ?_ ?_ _) | omega | (simp <;> omega)))).trans (hk.mono (by (first | omega | (simp; done) | (simp; omega))))); clear hb; have hb := hd; (try clear hs); have hs := hb.out.size; clear hd hk)))
     all_goals go_ret
     all_goals exact ⟨rfl, hb.out⟩)

/-- What the three places say. -/
theorem three_spans {d : Doc} {p1 p2 q1 q2 r1 r2 : Int} (hm : mayD d = true) (h1 : isD d (p1, p2) = true) (h2 : isD d (q1, q2) = true) (h3 : isD d (r1, r2) = true) (k1 : cmpP (p1, p2) (q1, q2) ≤ 0) (k2 : cmpP (q1, q2) (r1, r2) ≤ 0) :
    ∃ al aa bl ba cl ca : Nat, p1 = al ∧ p2 = aa ∧ q1 = bl ∧ q2 = ba ∧ r1 = cl ∧ r2 = ca ∧ Span d al aa bl ba ∧ Span d bl ba cl ca := by
  have e1 : askedD d (p1, p2) (q1, q2) = true := by unfold askedD; rw [hm, h1, h2, decide_eq_true k1]; rfl
  have e2 : askedD d (q1, q2) (r1, r2) = true := by unfold askedD; rw [hm, h2, h3, decide_eq_true k2]; rfl
  obtain ⟨al, aa, bl, ba, a1, a2, s1, _⟩ := askedD_span e1
  obtain ⟨bl', ba', cl, ca, b1, b2, s2, _⟩ := askedD_span e2
  simp only [Prod.mk.injEq] at a1 a2 b1 b2
  obtain ⟨f1, f2⟩ : bl' = bl ∧ ba' = ba := ⟨by omega, by omega⟩
  subst f1 f2
  exact ⟨al, aa, bl', ba', cl, ca, a1.1, a1.2, a2.1, a2.2, b2.1, b2.2, s1, s2⟩

set_option maxRecDepth 40000 in
set_option maxHeartbeats 64000000 in
theorem lawParts_walk (v : Value) (l : List Lw) (p1 p2 q1 q2 r1 r2 : Int) (w : World) (hE : Tg.Env w) (h : DocAt w v l) (hs0 : SizedD l) :
    Calls Tryz.prog 9 #[v, .agg #[.int .i64 p1, .int .i64 p2], .agg #[.int .i64 q1, .int .i64 q2], .agg #[.int .i64 r1, .int .i64 r2]] w fun e w' => e = .returned (.bool true) ∧ Below w.heap.size w w' := by
  by_cases hlg : longD (pl l) = true
  · exact lawParts_early v l p1 p2 q1 q2 r1 r2 w hE h hs0 (.inl hlg)
  have hl : longD (pl l) = false := by simpa using hlg
  by_cases hm : mayD (pl l) = true
  case neg => exact lawParts_early v l p1 p2 q1 q2 r1 r2 w hE h hs0 (.inr ⟨hl, .inl (by simpa using hm)⟩)
  by_cases hia : isD (pl l) (p1, p2) = true
  case neg => exact lawParts_early v l p1 p2 q1 q2 r1 r2 w hE h hs0 (.inr ⟨hl, .inr ⟨hm, .inl (by simpa using hia)⟩⟩)
  by_cases hib : isD (pl l) (q1, q2) = true
  case neg => exact lawParts_early v l p1 p2 q1 q2 r1 r2 w hE h hs0 (.inr ⟨hl, .inr ⟨hm, .inr ⟨hia, .inl (by simpa using hib)⟩⟩⟩)
  by_cases hic : isD (pl l) (r1, r2) = true
  case neg => exact lawParts_early v l p1 p2 q1 q2 r1 r2 w hE h hs0 (.inr ⟨hl, .inr ⟨hm, .inr ⟨hia, .inr ⟨hib, .inl (by simpa using hic)⟩⟩⟩⟩)
  by_cases hka : 0 < cmpP (p1, p2) (q1, q2)
  · exact lawParts_early v l p1 p2 q1 q2 r1 r2 w hE h hs0 (.inr ⟨hl, .inr ⟨hm, .inr ⟨hia, .inr ⟨hib, .inr ⟨hic, .inl hka⟩⟩⟩⟩⟩)
  by_cases hkb : 0 < cmpP (q1, q2) (r1, r2)
  · exact lawParts_early v l p1 p2 q1 q2 r1 r2 w hE h hs0 (.inr ⟨hl, .inr ⟨hm, .inr ⟨hia, .inr ⟨hib, .inr ⟨hic, .inr ⟨hka, hkb⟩⟩⟩⟩⟩⟩)
  obtain ⟨al, aa, bl, ba, cl, ca, e1, e2, e3, e4, e5, e6, s1, s2⟩ := three_spans hm hia hib hic (by omega) (by omega)
  have s3 := s1.join s2
  obtain ⟨a, c, rfl⟩ := h.s.len
  have cW : ∀ w1, Below w.heap.size w w1 → _ := fun w1 h1 => awake_any w1 (hE.below h1)
  have cL : ∀ w1, Below w.heap.size w w1 → _ := fun w1 h1 => llong_any _ l w1 (h.below h1) hs0
  have hb : Hid (Below w.heap.size w w) := Lib.hid (Below.refl _ _)
  have X5 := Lib.hid (((ps_new w p1 p2).below (below_alloc1 _ (.cells #[.int .i64 q1, .int .i64 q2] 24))).below (below_alloc1 _ (.cells #[.int .i64 r1, .int .i64 r2] 24)))
  have X6 := Lib.hid ((ps_new (w.alloc (.cells #[.int .i64 p1, .int .i64 p2] 24)) q1 q2).below (below_alloc1 _ (.cells #[.int .i64 r1, .int .i64 r2] 24)))
  rw [show (w.alloc (.cells #[.int .i64 p1, .int .i64 p2] 24)).heap.size = w.heap.size + 1 by simp] at X6
  have X7 := Lib.hid (ps_new ((w.alloc (.cells #[.int .i64 p1, .int .i64 p2] 24)).alloc (.cells #[.int .i64 q1, .int .i64 q2] 24)) r1 r2)
  rw [show ((w.alloc (.cells #[.int .i64 p1, .int .i64 p2] 24)).alloc (.cells #[.int .i64 q1, .int .i64 q2] 24)).heap.size = w.heap.size + 1 + 1 by simp] at X7
  rw [hl] at cL
  obtain ⟨hf, hsz, _⟩ := longD_false hl
  have cMay : ∀ w1, Below w.heap.size w w1 → _ := fun w1 h1 => dmay_any _ l w1 (h.below h1) hf (hE.below h1)
  have cIa : ∀ w1, Below w.heap.size w w1 → _ := fun w1 h1 => dis_any _ l p1 p2 w1 (h.s.below h1) hf.len hf.cnt
  have cIb : ∀ w1, Below w.heap.size w w1 → _ := fun w1 h1 => dis_any _ l q1 q2 w1 (h.s.below h1) hf.len hf.cnt
  have cIc : ∀ w1, Below w.heap.size w w1 → _ := fun w1 h1 => dis_any _ l r1 r2 w1 (h.s.below h1) hf.len hf.cnt
  have cKa : ∀ w1, Below w.heap.size w w1 → _ := fun w1 _ => dcmp_any p1 p2 q1 q2 w1
  have cKb : ∀ w1, Below w.heap.size w w1 → _ := fun w1 _ => dcmp_any q1 q2 r1 r2 w1
  unfold psV at cIa cIb cIc cKa cKb
  dsimp only at cIa cIb cIc cKa cKb
  rw [hm] at cMay
  rw [hia] at cIa
  rw [hib] at cIb
  rw [hic] at cIc
  obtain ⟨Ka, hKa⟩ : ∃ M, cmpP (p1, p2) (q1, q2) = M := ⟨_, rfl⟩
  obtain ⟨Kb, hKb⟩ : ∃ M, cmpP (q1, q2) (r1, r2) = M := ⟨_, rfl⟩
  rw [hKa] at cKa hka
  rw [hKb] at cKb hkb
  have q12 : (p1, p2) = (((al : Int), (aa : Int)) : Ps) := by rw [e1, e2]
  have q34 : (q1, q2) = (((bl : Int), (ba : Int)) : Ps) := by rw [e3, e4]
  have q56 : (r1, r2) = (((cl : Int), (ca : Int)) : Ps) := by rw [e5, e6]
  obtain ⟨n, hn⟩ : ∃ n, l.length = n := ⟨_, rfl⟩
  have HD : Hid (DocAt w (.slice a n c) l) := Lib.hid (by rw [← hn]; exact h)
  rw [hn] at cL cMay cIa cIb cIc ⊢
  have HE := Lib.hid hE
  have HF := Lib.hid (And.intro hf hsz)
  have HS := Lib.hid (And.intro s1 (And.intro s2 (And.intro s3 hm)))
  have HQ := Lib.hid (And.intro q12 (And.intro q34 q56))
  clear h hs0 hE hl hlg hm hia hib hic hKa hKb hn e1 e2 e3 e4 e5 e6 s1 s2 s3 hf hsz q12 q34 q56
  go_enter Tryz.func9, Tryz.ntmps9
  go_upto_region 3 with (first
    | (go_at_call 10; ((with_reducible refine (cL _ ?hb).mono ?_); (case hb => (repeat (first | (with_reducible exact hb.out) | (with_reducible exact Below.refl _ _) | (with_reducible refine Below.drew ?_) | (with_reducible refine Below.alloc ?_ ?_ _) | omega | (simp <;> omega)))); rintro e w1 ⟨rfl, hk⟩; have hd := Lib.hid ((show Below w.heap.size w _ by (repeat (first | (with_reducible exact hb.out) | (with_reducible exact Below.refl _ _) | (with_reducible refine Below.drew ?_) | (with_reducible refine Below.alloc ?_ ?_ _) | omega | (simp <;> omega)))).trans (hk.mono (by (first | omega | (simp; done) | (simp; omega))))); have H5 := Lib.hid (X5.out.below hk); have H6 := Lib.hid (X6.out.below hk); have H7 := Lib.hid (X7.out.below hk); obtain ⟨_, u0, u1, _, _⟩ := H5.out; obtain ⟨_, v0, v1, _, _⟩ := H6.out; obtain ⟨_, t0, t1, _, _⟩ := H7.out; clear hb; have hb := hd; (try clear hs); have hs := hb.out.size; clear hd hk))
    | (go_at_call 13; ((with_reducible refine (cMay _ ?hb).mono ?_); (case hb => (repeat (first | (with_reducible exact hb.out) | (with_reducible exact Below.refl _ _) | (with_reducible refine Below.drew ?_) | (with_reducible refine Below.alloc ?_ ?_ _) | omega | (simp <;> omega)))); rintro e w1 ⟨rfl, hk⟩; have hd := Lib.hid ((show Below w.heap.size w _ by (repeat (first | (with_reducible exact hb.out) | (with_reducible exact Below.refl _ _) | (with_reducible refine Below.drew ?_) | (with_reducible refine Below.alloc ?_ ?_ _) | omega | (simp <;> omega)))).trans (hk.mono (by (first | omega | (simp; done) | (simp; omega))))); have hk5 := H5.out.below hk; have hk6 := H6.out.below hk; have hk7 := H7.out.below hk; clear H5 H6 H7; have H5 := Lib.hid hk5; have H6 := Lib.hid hk6; have H7 := Lib.hid hk7; (try clear u0 u1 v0 v1 t0 t1); obtain ⟨_, u0, u1, _, _⟩ := H5.out; obtain ⟨_, v0, v1, _, _⟩ := H6.out; obtain ⟨_, t0, t1, _, _⟩ := H7.out; clear hk5 hk6 hk7; clear hb; have hb := hd; (try clear hs); have hs := hb.out.size; clear hd hk))
    | (go_at_call 19; ((with_reducible refine (cIa _ ?hb).mono ?_); (case hb => (repeat (first | (with_reducible exact hb.out) | (with_reducible exact Below.refl _ _) | (with_reducible refine Below.drew ?_) | (with_reducible refine Below.alloc ?_ ?_ _) | omega | (simp <;> omega)))); rintro e w1 ⟨rfl, hk⟩; have hd := Lib.hid ((show Below w.heap.size w _ by (repeat (first | (with_reducible exact hb.out) | (with_reducible exact Below.refl _ _) | (with_reducible refine Below.drew ?_) | (with_reducible refine Below.alloc ?_ ?_ _) | omega | (simp <;> omega)))).trans (hk.mono (by (first | omega | (simp; done) | (simp; omega))))); have hk5 := H5.out.below hk; have hk6 := H6.out.below hk; have hk7 := H7.out.below hk; clear H5 H6 H7; have H5 := Lib.hid hk5; have H6 := Lib.hid hk6; have H7 := Lib.hid hk7; (try clear u0 u1 v0 v1 t0 t1); obtain ⟨_, u0, u1, _, _⟩ := H5.out; obtain ⟨_, v0, v1, _, _⟩ := H6.out; obtain ⟨_, t0, t1, _, _⟩ := H7.out; clear hk5 hk6 hk7; clear hb; have hb := hd; (try clear hs); have hs := hb.out.size; clear hd hk))
    | (go_at_call 19; ((with_reducible refine (cIb _ ?hb).mono ?_); (case hb => (repeat (first | (with_reducible exact hb.out) | (with_reducible exact Below.refl _ _) | (with_reducible refine Below.drew ?_) | (with_reducible refine Below.alloc ?_ ?_ _) | omega | (simp <;> omega)))); rintro e w1 ⟨rfl, hk⟩; have hd := Lib.hid ((show Below w.heap.size w _ by (repeat (first | (with_reducible exact hb.out) | (with_reducible exact Below.refl _ _) | (with_reducible refine Below.drew ?_) | (with_reducible refine Below.alloc ?_ ?_ _) | omega | (simp <;> omega)))).trans (hk.mono (by (first | omega | (simp; done) | (simp; omega))))); have hk5 := H5.out.below hk; have hk6 := H6.out.below hk; have hk7 := H7.out.below hk; clear H5 H6 H7; have H5 := Lib.hid hk5; have H6 := Lib.hid hk6; have H7 := Lib.hid hk7; (try clear u0 u1 v0 v1 t0 t1); obtain ⟨_, u0, u1, _, _⟩ := H5.out; obtain ⟨_, v0, v1, _, _⟩ := H6.out; obtain ⟨_, t0, t1, _, _⟩ := H7.out; clear hk5 hk6 hk7; clear hb; have hb := hd; (try clear hs); have hs := hb.out.size; clear hd hk))
    | (go_at_call 19; ((with_reducible refine (cIc _ ?hb).mono ?_); (case hb => (repeat (first | (with_reducible exact hb.out) | (with_reducible exact Below.refl _ _) | (with_reducible refine Below.drew ?_) | (with_reducible refine Below.alloc ?_ ?_ _) | omega | (simp <;> omega)))); rintro e w1 ⟨rfl, hk⟩; have hd := Lib.hid ((show Below w.heap.size w _ by (repeat (first | (with_reducible exact hb.out) | (with_reducible exact Below.refl _ _) | (with_reducible refine Below.drew ?_) | (with_reducible refine Below.alloc ?_ ?_ _) | omega | (simp <;> omega)))).trans (hk.mono (by (first | omega | (simp; done) | (simp; omega))))); have hk5 := H5.out.below hk; have hk6 := H6.out.below hk; have hk7 := H7.out.below hk; clear H5 H6 H7; have H5 := Lib.hid hk5; have H6 := Lib.hid hk6; have H7 := Lib.hid hk7; (try clear u0 u1 v0 v1 t0 t1); obtain ⟨_, u0, u1, _, _⟩ := H5.out; obtain ⟨_, v0, v1, _, _⟩ := H6.out; obtain ⟨_, t0, t1, _, _⟩ := H7.out; clear hk5 hk6 hk7; clear hb; have hb := hd; (try clear hs); have hs := hb.out.size; clear hd hk))
    | (go_at_call 23; ((with_reducible refine (cKa _ ?hb).mono ?_); (case hb => (repeat (first | (with_reducible exact hb.out) | (with_reducible exact Below.refl _ _) | (with_reducible refine Below.drew ?_) | (with_reducible refine Below.alloc ?_ ?_ _) | omega | (simp <;> omega)))); rintro e w1 ⟨rfl, hk⟩; have hd := Lib.hid ((show Below w.heap.size w _ by (repeat (first | (with_reducible exact hb.out) | (with_reducible exact Below.refl _ _) | (with_reducible refine Below.drew ?_) | (with_reducible refine Below.alloc ?_ ?_ _) | omega | (simp <;> omega)))).trans (hk.mono (by (first | omega | (simp; done) | (simp; omega))))); have hk5 := H5.out.below hk; have hk6 := H6.out.below hk; have hk7 := H7.out.below hk; clear H5 H6 H7; have H5 := Lib.hid hk5; have H6 := Lib.hid hk6; have H7 := Lib.hid hk7; (try clear u0 u1 v0 v1 t0 t1); obtain ⟨_, u0, u1, _, _⟩ := H5.out; obtain ⟨_, v0, v1, _, _⟩ := H6.out; obtain ⟨_, t0, t1, _, _⟩ := H7.out; clear hk5 hk6 hk7; clear hb; have hb := hd; (try clear hs); have hs := hb.out.size; clear hd hk))
    | (go_at_call 23; ((with_reducible refine (cKb _ ?hb).mono ?_); (case hb => (repeat (first | (with_reducible exact hb.out) | (with_reducible exact Below.refl _ _) | (with_reducible refine Below.drew ?_) | (with_reducible refine Below.alloc ?_ ?_ _) | omega | (simp <;> omega)))); rintro e w2 ⟨rfl, hk⟩; have hd := Lib.hid ((show Below w.heap.size w _ by (repeat (first | (with_reducible exact hb.out) | (with_reducible exact Below.refl _ _) | (with_reducible refine Below.drew ?_) | (with_reducible refine Below.alloc ?_ ?_ _) | omega | (simp <;> omega)))).trans (hk.mono (by (first | omega | (simp; done) | (simp; omega))))); have hk5 := H5.out.below hk; have hk6 := H6.out.below hk; have hk7 := H7.out.below hk; clear H5 H6 H7; have H5 := Lib.hid hk5; have H6 := Lib.hid hk6; have H7 := Lib.hid hk7; (try clear u0 u1 v0 v1 t0 t1); obtain ⟨_, u0, u1, _, _⟩ := H5.out; obtain ⟨_, v0, v1, _, _⟩ := H6.out; obtain ⟨_, t0, t1, _, _⟩ := H7.out; clear hk5 hk6 hk7; clear hb; have hb := hd; (try clear hs); have hs := hb.out.size; clear hd hk)))
  clear cL cMay cIa cIb cIc cKa cKb cW X5 X6 X7 hka hkb
  have hA := HD.out.below hb.out
  have hE2 := HE.out.below hb.out
  obtain ⟨hf, hsz⟩ := HF.out
  obtain ⟨s1, s2, s3, hm⟩ := HS.out
  obtain ⟨q12, q34, q56⟩ := HQ.out
  have cC13 : ∀ w1, Below w2.heap.size w2 w1 → _ := fun w1 h1 => rdcells_any _ l p1 p2 r1 r2 w1 (hA.below h1) hf (by rw [q12, q56]; have := part_size s3 hm; omega)
  have cC12 : ∀ w1, Below w2.heap.size w2 w1 → _ := fun w1 h1 => rdcells_any _ l p1 p2 q1 q2 w1 (hA.below h1) hf (by rw [q12, q34]; have := part_size s1 hm; omega)
  have cC23 : ∀ w1, Below w2.heap.size w2 w1 → _ := fun w1 h1 => rdcells_any _ l q1 q2 r1 r2 w1 (hA.below h1) hf (by rw [q34, q56]; have := part_size s2 hm; omega)
  have cN13 : ∀ w1, Below w2.heap.size w2 w1 → _ := fun w1 h1 => dcount_any _ l p1 p2 r1 r2 w1 (hA.below h1) hf (hE2.below h1)
  have cN12 : ∀ w1, Below w2.heap.size w2 w1 → _ := fun w1 h1 => dcount_any _ l p1 p2 q1 q2 w1 (hA.below h1) hf (hE2.below h1)
  have cN23 : ∀ w1, Below w2.heap.size w2 w1 → _ := fun w1 h1 => dcount_any _ l q1 q2 r1 r2 w1 (hA.below h1) hf (hE2.below h1)
  have cD13 : ∀ w1, Below w2.heap.size w2 w1 → _ := fun w1 h1 => ddelete_any _ l p1 p2 r1 r2 w1 (hA.below h1) hf (hE2.below h1)
  have cD23 : ∀ w1, Below w2.heap.size w2 w1 → _ := fun w1 h1 => ddelete_any _ l q1 q2 r1 r2 w1 (hA.below h1) hf (hE2.below h1)
  have cAw : ∀ w1, Below w2.heap.size w2 w1 → _ := fun w1 h1 => awake_any w1 (hE2.below h1)
  have d13 : delP (pl l) (p1, p2) (r1, r2) = (deleteD (pl l) al aa cl ca, 0) := by unfold delP; rw [q12, q56, askedD_mk s3 hm]; rfl
  have d23 : delP (pl l) (q1, q2) (r1, r2) = (deleteD (pl l) bl ba cl ca, 0) := by unfold delP; rw [q34, q56, askedD_mk s2 hm]; rfl
  have d12 : delP (deleteD (pl l) bl ba cl ca) (p1, p2) (q1, q2) = (deleteD (pl l) al aa cl ca, 0) := by unfold delP; rw [q12, q34, askedD_mk (span_delete s1 s2) (may_delete s2 hm), ← delete_two s1 s2]; rfl
  have fY := fine_delete s2 hf hm
  have fX := fine_delete s3 hf hm
  have k13 := cells_split s1 s2 s3 hm
  have n13 := cells_count s3 hm
  have n12 := cells_count s1 hm
  have n23 := cells_count s2 hm
  have nb : (cellsB (pl l) ((al : Int), (aa : Int)) ((cl : Int), (ca : Int))).length ≤ 100000 := by
    have := part_size s3 hm
    unfold cellsB
    rw [flatD_length]
    omega
  rw [← q12, ← q34, ← q56] at k13
  rw [← q12, ← q56] at n13 nb
  rw [← q12, ← q34] at n12
  rw [← q34, ← q56] at n23
  rw [← n13] at cN13
  rw [← n12] at cN12
  rw [← n23] at cN23
  rw [d13] at cD13
  rw [d23] at cD23
  obtain ⟨R3, hR3⟩ : ∃ R, cellsB (pl l) (p1, p2) (r1, r2) = R := ⟨_, rfl⟩
  obtain ⟨R1, hR1⟩ : ∃ R, cellsB (pl l) (p1, p2) (q1, q2) = R := ⟨_, rfl⟩
  obtain ⟨R2, hR2⟩ : ∃ R, cellsB (pl l) (q1, q2) (r1, r2) = R := ⟨_, rfl⟩
  rw [hR3] at cC13 cN13 k13 nb
  rw [hR1] at cC12 cN12 k13
  rw [hR2] at cC23 cN23 k13
  obtain ⟨Y, hY⟩ : ∃ R, deleteD (pl l) bl ba cl ca = R := ⟨_, rfl⟩
  obtain ⟨Z, hZ⟩ : ∃ R, deleteD (pl l) al aa cl ca = R := ⟨_, rfl⟩
  rw [hY] at cD23 d12 fY
  rw [hZ] at cD13 d12 fX
  have hlen : R1.length + R2.length = R3.length := by rw [k13, List.length_append]
  have hlI : (R1.length : Int) + (R2.length : Int) = (R3.length : Int) := by omega
  have wA : IntKind.i64.wrap ((R1.length : Int) + (R2.length : Int)) = (R3.length : Int) := by rw [hlI]; exact IntWalk.i64_in _ (by omega)
  have HN := Lib.hid (And.intro hlen nb)
  have HK13 := Lib.hid k13
  have cDel : ∀ (vv : Value) (ry : List Lw) w1, Below w2.heap.size w2 w1 → DocAt w1 vv ry → pl ry = Y → Calls Tryz.prog 38 #[vv, .agg #[.int .i64 p1, .int .i64 p2], .agg #[.int .i64 q1, .int .i64 q2]] w1 (DocE Z 0 w1) := fun vv ry w1 h1 h2 h3 => by
    have := ddelete_any vv ry p1 p2 q1 q2 w1 h2 (by rw [h3]; exact fY) (hE2.below h1)
    rw [h3, d12] at this
    exact this
  have cSm : ∀ (v1 v2 : Value) (l1 l2 : List Lw) w1, DocAt w1 v1 l1 → DocAt w1 v2 l2 → pl l1 = Z → pl l2 = Z → Calls Tryz.prog 34 #[v1, v2] w1 fun e w' => e = .returned (.bool true) ∧ Below w1.heap.size w1 w' := fun v1 v2 l1 l2 w1 h1 h2 h3 h4 => by
    have := dsame_any v1 v2 l1 l2 w1 h1 h2 (by rw [h3]; exact fX)
    rw [h3, h4, sameD_refl] at this
    exact this
  unfold psV at cC13 cC12 cC23 cN13 cN12 cN23 cD13 cD23
  dsimp only at cC13 cC12 cC23 cN13 cN12 cN23 cD13 cD23
  obtain ⟨L1, hL1⟩ : ∃ n, R1.length = n := ⟨_, rfl⟩
  obtain ⟨L2, hL2⟩ : ∃ n, R2.length = n := ⟨_, rfl⟩
  obtain ⟨L3, hL3⟩ : ∃ n, R3.length = n := ⟨_, rfl⟩
  rw [hL1, hL2, hL3] at wA HN
  rw [hL1] at cN12
  rw [hL2] at cN23
  rw [hL3] at cN13
  have HL := Lib.hid (And.intro hL1 (And.intro hL2 hL3))
  clear hA hf hsz s1 s2 s3 hm q12 q34 q56 d13 d23 d12 fY fX k13 n13 n12 n23 nb hR1 hR2 hR3 hY hZ hlen hlI hL1 hL2 hL3 HD HF HS HQ
  have hv : Hid (Below w2.heap.size w2 w2) := Lib.hid (Below.refl _ _)
  have KS : Hid (∀ w', Below w2.heap.size w2 w' → (w'.cell? ⟨w.heap.size, 0, none⟩ = some (.int .i64 p1) ∧ w'.cell? ⟨w.heap.size, 1, none⟩ = some (.int .i64 p2) ∧ w'.cell? ⟨w.heap.size + 1, 0, none⟩ = some (.int .i64 q1) ∧ w'.cell? ⟨w.heap.size + 1, 1, none⟩ = some (.int .i64 q2) ∧ w'.cell? ⟨w.heap.size + 1 + 1, 0, none⟩ = some (.int .i64 r1) ∧ w'.cell? ⟨w.heap.size + 1 + 1, 1, none⟩ = some (.int .i64 r2))) := Lib.hid (fun w' h => ⟨(H5.out.below h).c0, (H5.out.below h).c1, (H6.out.below h).c0, (H6.out.below h).c1, (H7.out.below h).c0, (H7.out.below h).c1⟩)
  go_upto_region 4 with (go_at_call 49; ((with_reducible refine (cC13 _ ?hb).mono ?_); (case hb => (repeat (first | (with_reducible exact hv.out) | (with_reducible exact Below.refl _ _) | (with_reducible refine Below.drew ?_) | (with_reducible refine Below.alloc ?_ ?_ _) | omega | (simp <;> omega)))); rintro e w3 ⟨va, rfl, own3, hk⟩; have hg := Lib.hid ((show Below w2.heap.size w2 _ by (repeat (first | (with_reducible exact hv.out) | (with_reducible exact Below.refl _ _) | (with_reducible refine Below.drew ?_) | (with_reducible refine Below.alloc ?_ ?_ _) | omega | (simp <;> omega)))).trans (hk.mono (by (first | omega | (simp; done) | (simp; omega))))); have hk5 := H5.out.below hk; have hk6 := H6.out.below hk; have hk7 := H7.out.below hk; clear H5 H6 H7; have H5 := Lib.hid hk5; have H6 := Lib.hid hk6; have H7 := Lib.hid hk7; (try clear u0 u1 v0 v1 t0 t1); obtain ⟨_, u0, u1, _, _⟩ := H5.out; obtain ⟨_, v0, v1, _, _⟩ := H6.out; obtain ⟨_, t0, t1, _, _⟩ := H7.out; clear hk5 hk6 hk7; have O3 := Lib.hid own3; obtain ⟨y0, z0, e0⟩ := own_len own3; subst e0; rw [HL.out.2.2]; clear own3; clear hv; have hv := hg; (try clear hsv); have hsv := hv.out.size; clear hg hk))
  have hS : (w3.cell? ⟨w.heap.size, 0, none⟩ = some (.int .i64 p1) ∧ w3.cell? ⟨w.heap.size, 1, none⟩ = some (.int .i64 p2) ∧ w3.cell? ⟨w.heap.size + 1, 0, none⟩ = some (.int .i64 q1) ∧ w3.cell? ⟨w.heap.size + 1, 1, none⟩ = some (.int .i64 q2) ∧ w3.cell? ⟨w.heap.size + 1 + 1, 0, none⟩ = some (.int .i64 r1) ∧ w3.cell? ⟨w.heap.size + 1 + 1, 1, none⟩ = some (.int .i64 r2)) := KS.out _ hv.out
  have hsz3 := hv.out.size
  have HV3 := Lib.hid hv.out
  go_cut [10] (fun s wx => ∃ u cp, s = .slice u L3 cp ∧ Hid (RowAt wx s R3) ∧ Hid (Below w3.heap.size w3 wx))
  case first =>
    have h3 : Hid (Below w3.heap.size w3 w3) := Lib.hid (Below.refl _ _)
    go_region_held3 (fun w' => (w'.cell? ⟨w.heap.size, 0, none⟩ = some (.int .i64 p1) ∧ w'.cell? ⟨w.heap.size, 1, none⟩ = some (.int .i64 p2) ∧ w'.cell? ⟨w.heap.size + 1, 0, none⟩ = some (.int .i64 q1) ∧ w'.cell? ⟨w.heap.size + 1, 1, none⟩ = some (.int .i64 q2) ∧ w'.cell? ⟨w.heap.size + 1 + 1, 0, none⟩ = some (.int .i64 r1) ∧ w'.cell? ⟨w.heap.size + 1 + 1, 1, none⟩ = some (.int .i64 r2))) (first | (with_reducible exact hS) | (refine KS.out _ ?_; (repeat (first | (with_reducible exact hv.out) | (with_reducible exact Below.refl _ _) | (with_reducible refine Below.drew ?_) | (with_reducible refine Below.alloc ?_ ?_ _) | omega | (simp <;> omega))); done)) (first
      | (go_at_call 49; ((with_reducible refine (cC12 _ ?hb).mono ?_); (case hb => (repeat (first | (with_reducible exact hv.out) | (with_reducible exact Below.refl _ _) | (with_reducible refine Below.drew ?_) | (with_reducible refine Below.alloc ?_ ?_ _) | omega | (simp <;> omega)))); rintro e w10 ⟨vb, rfl, own10, hk⟩; have hg := Lib.hid ((show Below w2.heap.size w2 _ by (repeat (first | (with_reducible exact hv.out) | (with_reducible exact Below.refl _ _) | (with_reducible refine Below.drew ?_) | (with_reducible refine Below.alloc ?_ ?_ _) | omega | (simp <;> omega)))).trans (hk.mono (by (first | omega | (simp; done) | (simp; omega))))); replace hS := KS.out _ hg.out; have K10 := Lib.hid hk; have hg3 := Lib.hid ((show Below w3.heap.size w3 _ by (repeat (first | (with_reducible exact h3.out) | (with_reducible exact Below.refl _ _) | (with_reducible refine Below.drew ?_) | (with_reducible refine Below.alloc ?_ ?_ _) | omega | (simp <;> omega)))).trans (hk.mono (by (first | omega | (simp; done) | (simp; omega))))); clear h3; have h3 := hg3; (try clear hs3); have hs3 := h3.out.size; clear hg3; have O10 := Lib.hid own10; clear own10; clear hv; have hv := hg; (try clear hsv); have hsv := hv.out.size; clear hg hk))
      | (go_at_call 49; ((with_reducible refine (cC23 _ ?hb).mono ?_); (case hb => (repeat (first | (with_reducible exact hv.out) | (with_reducible exact Below.refl _ _) | (with_reducible refine Below.drew ?_) | (with_reducible refine Below.alloc ?_ ?_ _) | omega | (simp <;> omega)))); rintro e w12 ⟨vc, rfl, own12, hk⟩; have hg := Lib.hid ((show Below w2.heap.size w2 _ by (repeat (first | (with_reducible exact hv.out) | (with_reducible exact Below.refl _ _) | (with_reducible refine Below.drew ?_) | (with_reducible refine Below.alloc ?_ ?_ _) | omega | (simp <;> omega)))).trans (hk.mono (by (first | omega | (simp; done) | (simp; omega))))); replace hS := KS.out _ hg.out; have K12 := Lib.hid hk; have hg3 := Lib.hid ((show Below w3.heap.size w3 _ by (repeat (first | (with_reducible exact h3.out) | (with_reducible exact Below.refl _ _) | (with_reducible refine Below.drew ?_) | (with_reducible refine Below.alloc ?_ ?_ _) | omega | (simp <;> omega)))).trans (hk.mono (by (first | omega | (simp; done) | (simp; omega))))); clear h3; have h3 := hg3; (try clear hs3); have hs3 := h3.out.size; clear hg3; have O12 := Lib.hid own12; clear own12; clear hv; have hv := hg; (try clear hsv); have hsv := hv.out.size; clear hg hk))
      | (refine step_append_row rfl _ _ rfl w3.heap.size _ [] rfl ?own _ R1 rfl ?at_ ?hb ?hbase ?_; (case own => (first | exact World.ownsRow_made w3.drew #[] 0 (Nat.le_refl _) (Nat.zero_le _) (by simp) | exact ownsRow_below (World.ownsRow_made w3.drew #[] 0 (Nat.le_refl _) (Nat.zero_le _) (by simp)) K10.out | exact World.ownsRow_made w10 #[] 0 (by first | exact hs3 | omega) (Nat.zero_le _) (by simp))); (case at_ => first | exact rowAt_of_own O10.out | exact (rowAt_of_own O10.out).below (below_alloc1 _ _)); (case hb => (have := HN.out; have := HL.out; simp; omega)); (case hbase => (first | exact hs3 | omega | (simp <;> omega))); intro v11 w11 own11 grow11; have hg := Lib.hid ((show Below w2.heap.size w2 _ by (repeat (first | (with_reducible exact hv.out) | (with_reducible exact Below.refl _ _) | (with_reducible refine Below.drew ?_) | (with_reducible refine Below.alloc ?_ ?_ _) | omega | (simp <;> omega)))).grown grow11 (by first | exact hsv | (first | omega | (simp; done) | (simp; omega))) (fun k e => by cases e; (first | exact hsz3 | omega | (simp <;> omega)))); have hg3 := Lib.hid ((show Below w3.heap.size w3 _ by (repeat (first | (with_reducible exact h3.out) | (with_reducible exact Below.refl _ _) | (with_reducible refine Below.drew ?_) | (with_reducible refine Below.alloc ?_ ?_ _) | omega | (simp <;> omega)))).grown grow11 (by first | exact hs3 | (first | omega | (simp; done) | (simp; omega))) (fun k e => by cases e; (first | exact Nat.le_refl _ | exact hs3 | omega | (simp <;> omega)))); replace hS := KS.out _ hg.out; have O11 := Lib.hid (show w11.ownsRow w3.heap.size 66 3 v11 R1.length (cellsR R1) from own11); clear hv; have hv := hg; (try clear hsv); have hsv := hv.out.size; clear h3; have h3 := hg3; (try clear hs3); have hs3 := h3.out.size; clear hg hg3 own11 grow11)
      | (refine step_append_row rfl _ _ rfl w3.heap.size _ R1 rfl ?own _ R2 rfl ?at_ ?hb ?hbase ?_; (case own => exact ownsRow_below O11.out K12.out); (case at_ => exact rowAt_of_own O12.out); (case hb => (have := HN.out; have := HL.out; omega)); (case hbase => (first | exact hs3 | omega)); intro v13 w13 own13 grow13; have hg := Lib.hid (hv.out.grown grow13 hsv (fun k e => Nat.le_trans hsz3 (O11.out.lt k e).1)); have hg3 := Lib.hid (h3.out.grown grow13 hs3 (fun k e => (O11.out.lt k e).1)); replace hS := KS.out _ hg.out; have O13 := Lib.hid own13; clear hv; have hv := hg; (try clear hsv); have hsv := hv.out.size; clear h3; have h3 := hg3; (try clear hs3); have hs3 := h3.out.size; clear hg hg3 own13 grow13))
    all_goals go_wp2
    all_goals go_meet
    all_goals
      (obtain ⟨y, z, e⟩ := own_len O13.out
       exact ⟨y, z, by rw [e, List.length_append, HL.out.1, HL.out.2.1, HN.out.1], Lib.hid (by rw [HK13.out]; exact rowAt_of_own O13.out), h3⟩)
  case rest =>
    obtain ⟨u, cp, rfl, HR3, HB3⟩ := hcut
    have hk := HB3.out
    have hv1 := Lib.hid (HV3.out.trans (hk.mono hsz3))
    have HA3 := (rowAt_of_own O3.out).below hk
    rw [HL.out.2.2] at HA3
    have hdr : Below wc.heap.size wc wc.drew := (Below.refl _ wc).drew
    have cS5 := rsame_any _ _ R3 R3 wc.drew (HA3.below hdr) (HR3.out.below hdr) (by have := HN.out; have := HL.out; omega)
    rw [show sameR R3 R3 = true from decide_eq_true rfl] at cS5
    clear hv hk hS hsz3 HV3 HA3 hdr u0 u1 v0 v1 t0 t1 H5 H6 H7 HB3 HR3 cC12 cC23 O3 HK13
    have hv := hv1
    have hsv := hv.out.size
    clear hv1
    have hS : (wc.cell? ⟨w.heap.size, 0, none⟩ = some (.int .i64 p1) ∧ wc.cell? ⟨w.heap.size, 1, none⟩ = some (.int .i64 p2) ∧ wc.cell? ⟨w.heap.size + 1, 0, none⟩ = some (.int .i64 q1) ∧ wc.cell? ⟨w.heap.size + 1, 1, none⟩ = some (.int .i64 q2) ∧ wc.cell? ⟨w.heap.size + 1 + 1, 0, none⟩ = some (.int .i64 r1) ∧ wc.cell? ⟨w.heap.size + 1 + 1, 1, none⟩ = some (.int .i64 r2)) := KS.out _ hv.out
    go_wp2
    go_region_held3 (fun w' => (w'.cell? ⟨w.heap.size, 0, none⟩ = some (.int .i64 p1) ∧ w'.cell? ⟨w.heap.size, 1, none⟩ = some (.int .i64 p2) ∧ w'.cell? ⟨w.heap.size + 1, 0, none⟩ = some (.int .i64 q1) ∧ w'.cell? ⟨w.heap.size + 1, 1, none⟩ = some (.int .i64 q2) ∧ w'.cell? ⟨w.heap.size + 1 + 1, 0, none⟩ = some (.int .i64 r1) ∧ w'.cell? ⟨w.heap.size + 1 + 1, 1, none⟩ = some (.int .i64 r2))) (first | (with_reducible exact hS) | (refine KS.out _ ?_; (repeat (first | (with_reducible exact hv.out) | (with_reducible exact Below.refl _ _) | (with_reducible refine Below.drew ?_) | (with_reducible refine Below.alloc ?_ ?_ _) | omega | (simp <;> omega))); done)) (first
      | (go_at_call 44; ((with_reducible refine cS5.mono ?_); rintro e w20 ⟨rfl, hk⟩; have hg := Lib.hid (hv.out.drew.trans (hk.mono (by first | exact hsv | (first | omega | (simp; done) | (simp; omega))))); replace hS := KS.out _ hg.out; clear hv; have hv := hg; (try clear hsv); have hsv := hv.out.size; clear hg hk))
      | (go_at_call 54; ((with_reducible refine (cN13 _ ?hb).mono ?_); (case hb => (repeat (first | (with_reducible exact hv.out) | (with_reducible exact Below.refl _ _) | (with_reducible refine Below.drew ?_) | (with_reducible refine Below.alloc ?_ ?_ _) | omega | (simp <;> omega)))); rintro e w21 ⟨rfl, hk⟩; have hg := Lib.hid ((show Below w2.heap.size w2 _ by (repeat (first | (with_reducible exact hv.out) | (with_reducible exact Below.refl _ _) | (with_reducible refine Below.drew ?_) | (with_reducible refine Below.alloc ?_ ?_ _) | omega | (simp <;> omega)))).trans (hk.mono (by (first | omega | (simp; done) | (simp; omega))))); replace hS := KS.out _ hg.out; clear hv; have hv := hg; (try clear hsv); have hsv := hv.out.size; clear hg hk))
      | (go_at_call 54; ((with_reducible refine (cN12 _ ?hb).mono ?_); (case hb => (repeat (first | (with_reducible exact hv.out) | (with_reducible exact Below.refl _ _) | (with_reducible refine Below.drew ?_) | (with_reducible refine Below.alloc ?_ ?_ _) | omega | (simp <;> omega)))); rintro e w22 ⟨rfl, hk⟩; have hg := Lib.hid ((show Below w2.heap.size w2 _ by (repeat (first | (with_reducible exact hv.out) | (with_reducible exact Below.refl _ _) | (with_reducible refine Below.drew ?_) | (with_reducible refine Below.alloc ?_ ?_ _) | omega | (simp <;> omega)))).trans (hk.mono (by (first | omega | (simp; done) | (simp; omega))))); replace hS := KS.out _ hg.out; clear hv; have hv := hg; (try clear hsv); have hsv := hv.out.size; clear hg hk))
      | (go_at_call 54; ((with_reducible refine (cN23 _ ?hb).mono ?_); (case hb => (repeat (first | (with_reducible exact hv.out) | (with_reducible exact Below.refl _ _) | (with_reducible refine Below.drew ?_) | (with_reducible refine Below.alloc ?_ ?_ _) | omega | (simp <;> omega)))); rintro e w23 ⟨rfl, hk⟩; have hg := Lib.hid ((show Below w2.heap.size w2 _ by (repeat (first | (with_reducible exact hv.out) | (with_reducible exact Below.refl _ _) | (with_reducible refine Below.drew ?_) | (with_reducible refine Below.alloc ?_ ?_ _) | omega | (simp <;> omega)))).trans (hk.mono (by (first | omega | (simp; done) | (simp; omega))))); replace hS := KS.out _ hg.out; clear hv; have hv := hg; (try clear hsv); have hsv := hv.out.size; clear hg hk)))
    clear cN13 cN12 cN23 cS5
    obtain ⟨u0, u1, v0, v1, t0, t1⟩ := KS.out _ hv.out
    go_wp2_with (first
      | (go_at_call 38; ((with_reducible refine (cD13 _ ?hb).mono ?_); (case hb => (repeat (first | (with_reducible exact hv.out) | (with_reducible exact Below.refl _ _) | (with_reducible refine Below.drew ?_) | (with_reducible refine Below.alloc ?_ ?_ _) | omega | (simp <;> omega)))); rintro e w30 ⟨vx, rx, rfl, ox, px, hk⟩; have hg := Lib.hid ((show Below w2.heap.size w2 _ by (repeat (first | (with_reducible exact hv.out) | (with_reducible exact Below.refl _ _) | (with_reducible refine Below.drew ?_) | (with_reducible refine Below.alloc ?_ ?_ _) | omega | (simp <;> omega)))).trans (hk.mono (by (first | omega | (simp; done) | (simp; omega))))); (try clear u0 u1 v0 v1 t0 t1); obtain ⟨u0, u1, v0, v1, t0, t1⟩ := KS.out _ hg.out; have OX := Lib.hid ox; have PX := Lib.hid px; obtain ⟨ux, cx, ex⟩ := own_len ox.own; subst ex; clear ox px; clear hv; have hv := hg; (try clear hsv); have hsv := hv.out.size; clear hg hk))
      | (go_at_call 38; ((with_reducible refine (cD23 _ ?hb).mono ?_); (case hb => (repeat (first | (with_reducible exact hv.out) | (with_reducible exact Below.refl _ _) | (with_reducible refine Below.drew ?_) | (with_reducible refine Below.alloc ?_ ?_ _) | omega | (simp <;> omega)))); rintro e w31 ⟨vy, ry, rfl, oy, py, hk⟩; have hg := Lib.hid ((show Below w2.heap.size w2 _ by (repeat (first | (with_reducible exact hv.out) | (with_reducible exact Below.refl _ _) | (with_reducible refine Below.drew ?_) | (with_reducible refine Below.alloc ?_ ?_ _) | omega | (simp <;> omega)))).trans (hk.mono (by (first | omega | (simp; done) | (simp; omega))))); (try clear u0 u1 v0 v1 t0 t1); obtain ⟨u0, u1, v0, v1, t0, t1⟩ := KS.out _ hg.out; have OY := Lib.hid oy; have PY := Lib.hid py; have KX := Lib.hid hk; obtain ⟨uy, cy, ey⟩ := own_len oy.own; subst ey; clear oy py; clear hv; have hv := hg; (try clear hsv); have hsv := hv.out.size; clear hg hk))
      | (go_at_call 38; ((with_reducible refine (cDel _ ry _ hv.out OY.out.at PY.out).mono ?_); rintro e w32 ⟨vz, rz, rfl, oz, pz, hk⟩; have hg := Lib.hid (hv.out.trans (hk.mono (by first | exact hsv | (first | omega | (simp; done) | (simp; omega))))); have OZ := Lib.hid oz; have PZ := Lib.hid pz; have KZ := Lib.hid (KX.out.trans (hk.mono KX.out.size)); obtain ⟨uz, cz, ez⟩ := own_len oz.own; subst ez; clear oz pz; clear hv; have hv := hg; (try clear hsv); have hsv := hv.out.size; clear hg hk))
      | (go_at_call 34; ((with_reducible refine (cSm _ _ rx rz _ (OX.out.at.below KZ.out) OZ.out.at PX.out PZ.out).mono ?_); rintro e w33 ⟨rfl, hk⟩; have hg := Lib.hid (hv.out.trans (hk.mono (by first | exact hsv | (first | omega | (simp; done) | (simp; omega))))); clear hv; have hv := hg; (try clear hsv); have hsv := hv.out.size; clear hg hk))
      | (go_at_call 11; ((with_reducible refine (cAw _ ?hb).mono ?_); (case hb => (repeat (first | (with_reducible exact hv.out) | (with_reducible exact Below.refl _ _) | (with_reducible refine Below.drew ?_) | (with_reducible refine Below.alloc ?_ ?_ _) | omega | (simp <;> omega)))); rintro e w34 ⟨rfl, hk⟩; have hg := Lib.hid ((show Below w2.heap.size w2 _ by (repeat (first | (with_reducible exact hv.out) | (with_reducible exact Below.refl _ _) | (with_reducible refine Below.drew ?_) | (with_reducible refine Below.alloc ?_ ?_ _) | omega | (simp <;> omega)))).trans (hk.mono (by (first | omega | (simp; done) | (simp; omega))))); clear hv; have hv := hg; (try clear hsv); have hsv := hv.out.size; clear hg hk)))
    go_ret
    exact ⟨rfl, hb.out.trans (hv.out.mono hb.out.size)⟩

end Go.Proofs.YtehjfcefkiglaaaGreatDoor
