/-
  The law DocStyles.
-/
import Derived.Test.YtafincmcmgedbaaGreatDoorCDocP
import Derived.Test.YtafincmcmgedbaaGreatDoorCDocZ
import Derived.Test.YtafincmcmgedbaaGreatDoorCDocD
import Derived.Test.YtafincmcmgedbaaGreatDoorCDocU
import Derived.Deep.RegionHeld3
import Derived.Deep.DeepCutAuto

namespace Go.Proofs.YtafincmcmgedbaaGreatDoor
open Go.RowKit Go.Lib

def Cell3 (w : World) (p : Nat) (c : Ce) : Prop := w.cell? ⟨p, 0, none⟩ = some (.int .i32 c.1) ∧ w.cell? ⟨p, 1, none⟩ = some (.int .i64 c.2.1) ∧ w.cell? ⟨p, 2, none⟩ = some (.string c.2.2)
/-- Three cells in boxes of their own. -/
def Three (W : World) (c1 c2 c3 : Ce) (s1 s2 s3 : Value) (wx : World) : Prop :=
  ∃ p1 p2 p3, s1 = .pointer (some ⟨p1, 0, none⟩) ∧ s2 = .pointer (some ⟨p2, 0, none⟩) ∧ s3 = .pointer (some ⟨p3, 0, none⟩) ∧ Cell3 wx p1 c1 ∧ Cell3 wx p2 c2 ∧ Cell3 wx p3 c3 ∧ Below W.heap.size W wx
def newC (c : Ce) : Obj := .cells #[.int .i32 c.1, .int .i64 c.2.1, .string c.2.2] 66
theorem three_at (w : World) (x y z : Ce) : Cell3 (((w.alloc (newC x)).alloc (newC y)).alloc (newC z)) w.heap.size x ∧ Cell3 (((w.alloc (newC x)).alloc (newC y)).alloc (newC z)) (w.heap.size + 1) y ∧ Cell3 (((w.alloc (newC x)).alloc (newC y)).alloc (newC z)) (w.heap.size + 2) z ∧ Below w.heap.size w (((w.alloc (newC x)).alloc (newC y)).alloc (newC z)) := by
  refine ⟨⟨?_, ?_, ?_⟩, ⟨?_, ?_, ?_⟩, ⟨?_, ?_, ?_⟩, (((Below.refl _ w).alloc (Nat.le_refl _) _).alloc (by simp) _).alloc (by simp; omega) _⟩ <;> simp [go_sem, newC]

theorem three_drew {W wx : World} {c1 c2 c3 : Ce} {s1 s2 s3 : Value} (h : Three W c1 c2 c3 s1 s2 s3 wx) : Three W c1 c2 c3 s1 s2 s3 wx.drew := by
  obtain ⟨p1, p2, p3, h1, h2, h3, ⟨a1, a2, a3⟩, ⟨b1, b2, b3⟩, ⟨d1, d2, d3⟩, hb⟩ := h
  exact ⟨p1, p2, p3, h1, h2, h3, ⟨a1, a2, a3⟩, ⟨b1, b2, b3⟩, ⟨d1, d2, d3⟩, hb.drew⟩
theorem three_123 (w : World) (c1 c2 c3 : Ce) : Three w c1 c2 c3 (.pointer (some ⟨w.heap.size, 0, none⟩)) (.pointer (some ⟨w.heap.size + 1, 0, none⟩)) (.pointer (some ⟨w.heap.size + 1 + 1, 0, none⟩)) (((w.alloc (newC c1)).alloc (newC c2)).alloc (newC c3)).drew := by
  obtain ⟨a, b, d, hb⟩ := three_at w c1 c2 c3
  exact three_drew ⟨_, _, _, rfl, rfl, rfl, a, b, d, hb⟩
theorem three_132 (w : World) (c1 c2 c3 : Ce) : Three w c1 c2 c3 (.pointer (some ⟨w.heap.size, 0, none⟩)) (.pointer (some ⟨w.heap.size + 1 + 1, 0, none⟩)) (.pointer (some ⟨w.heap.size + 1, 0, none⟩)) (((w.alloc (newC c1)).alloc (newC c3)).alloc (newC c2)).drew := by
  obtain ⟨a, b, d, hb⟩ := three_at w c1 c3 c2
  exact three_drew ⟨_, _, _, rfl, rfl, rfl, a, d, b, hb⟩
theorem three_213 (w : World) (c1 c2 c3 : Ce) : Three w c1 c2 c3 (.pointer (some ⟨w.heap.size + 1, 0, none⟩)) (.pointer (some ⟨w.heap.size, 0, none⟩)) (.pointer (some ⟨w.heap.size + 1 + 1, 0, none⟩)) (((w.alloc (newC c2)).alloc (newC c1)).alloc (newC c3)).drew := by
  obtain ⟨a, b, d, hb⟩ := three_at w c2 c1 c3
  exact three_drew ⟨_, _, _, rfl, rfl, rfl, b, a, d, hb⟩
theorem three_231 (w : World) (c1 c2 c3 : Ce) : Three w c1 c2 c3 (.pointer (some ⟨w.heap.size + 1 + 1, 0, none⟩)) (.pointer (some ⟨w.heap.size, 0, none⟩)) (.pointer (some ⟨w.heap.size + 1, 0, none⟩)) (((w.alloc (newC c2)).alloc (newC c3)).alloc (newC c1)).drew := by
  obtain ⟨a, b, d, hb⟩ := three_at w c2 c3 c1
  exact three_drew ⟨_, _, _, rfl, rfl, rfl, d, a, b, hb⟩
theorem three_312 (w : World) (c1 c2 c3 : Ce) : Three w c1 c2 c3 (.pointer (some ⟨w.heap.size + 1, 0, none⟩)) (.pointer (some ⟨w.heap.size + 1 + 1, 0, none⟩)) (.pointer (some ⟨w.heap.size, 0, none⟩)) (((w.alloc (newC c3)).alloc (newC c1)).alloc (newC c2)).drew := by
  obtain ⟨a, b, d, hb⟩ := three_at w c3 c1 c2
  exact three_drew ⟨_, _, _, rfl, rfl, rfl, b, d, a, hb⟩
theorem three_321 (w : World) (c1 c2 c3 : Ce) : Three w c1 c2 c3 (.pointer (some ⟨w.heap.size + 1 + 1, 0, none⟩)) (.pointer (some ⟨w.heap.size + 1, 0, none⟩)) (.pointer (some ⟨w.heap.size, 0, none⟩)) (((w.alloc (newC c3)).alloc (newC c2)).alloc (newC c1)).drew := by
  obtain ⟨a, b, d, hb⟩ := three_at w c3 c2 c1
  exact three_drew ⟨_, _, _, rfl, rfl, rfl, d, b, a, hb⟩

set_option maxRecDepth 40000 in
set_option maxHeartbeats 64000000 in
theorem lawStyles_early (v : Value) (l : List Lw) (p1 p2 q1 q2 s c : Int) (w : World) (hE : Tg.Env w) (h : DocAt w v l) (hs0 : SizedD l) (hx : longD (pl l) = true ∨ longD (pl l) = false ∧ (askedD (pl l) (p1, p2) (q1, q2) = false ∨ askedD (pl l) (p1, p2) (q1, q2) = true ∧ countD (pl l) p1.toNat p2.toNat q1.toNat q2.toNat = 0)) :
    Calls Tryz.prog 8 #[v, .agg #[.int .i64 p1, .int .i64 p2], .agg #[.int .i64 q1, .int .i64 q2], .int .i64 s, .int .i64 c] w fun e w' => e = .returned (.bool true) ∧ Below w.heap.size w w' := by
  obtain ⟨a, cc, rfl⟩ := h.s.len
  have cW : ∀ w1, Below w.heap.size w w1 → _ := fun w1 h1 => awake_any w1 (hE.below h1)
  have cL : ∀ w1, Below w.heap.size w w1 → _ := fun w1 h1 => llong_any _ l w1 (h.below h1) hs0
  have hb : Hid (Below w.heap.size w w) := Lib.hid (Below.refl _ _)
  have X5 := Lib.hid ((ps_new w p1 p2).below (below_alloc1 _ (.cells #[.int .i64 q1, .int .i64 q2] 24)))
  have X6 := Lib.hid (ps_new (w.alloc (.cells #[.int .i64 p1, .int .i64 p2] 24)) q1 q2)
  rw [show (w.alloc (.cells #[.int .i64 p1, .int .i64 p2] 24)).heap.size = w.heap.size + 1 by simp] at X6
  rcases hx with hl | ⟨hl, hx⟩
  · rw [hl] at cL
    clear h hs0 hE hl
    go_enter Tryz.func8, Tryz.ntmps8
    go_wp2_with (first
      | (go_at_call 10; ((with_reducible refine (cL _ ?hb).mono ?_); (case hb => (repeat (first | (with_reducible exact hb.out) | (with_reducible exact Below.refl _ _) | (with_reducible refine Below.drew ?_) | (with_reducible refine Below.alloc ?_ ?_ _) | omega | (simp <;> omega)))); rintro e w1 ⟨rfl, hk⟩; have hd := Lib.hid ((show Below w.heap.size w _ by (repeat (first | (with_reducible exact hb.out) | (with_reducible exact Below.refl _ _) | (with_reducible refine Below.drew ?_) | (with_reducible refine Below.alloc ?_ ?_ _) | omega | (simp <;> omega)))).trans (hk.mono (by (first | omega | (simp; done) | (simp; omega))))); clear hb; have hb := hd; (try clear hs); have hs := hb.out.size; clear hd hk))
      | (go_at_call 11; ((with_reducible refine (cW _ ?hb).mono ?_); (case hb => (repeat (first | (with_reducible exact hb.out) | (with_reducible exact Below.refl _ _) | (with_reducible refine Below.drew ?_) | (with_reducible refine Below.alloc ?_ ?_ _) | omega | (simp <;> omega)))); rintro e w1 ⟨rfl, hk⟩; have hd := Lib.hid ((show Below w.heap.size w _ by (repeat (first | (with_reducible exact hb.out) | (with_reducible exact Below.refl _ _) | (with_reducible refine Below.drew ?_) | (with_reducible refine Below.alloc ?_ ?_ _) | omega | (simp <;> omega)))).trans (hk.mono (by (first | omega | (simp; done) | (simp; omega))))); clear hb; have hb := hd; (try clear hs); have hs := hb.out.size; clear hd hk)))
    all_goals go_ret
    all_goals exact ⟨rfl, hb.out⟩
  rw [hl] at cL
  obtain ⟨hf, _, _⟩ := longD_false hl
  obtain ⟨S, hS⟩ : ∃ x, bits .and .i64 s 15 = x := ⟨_, rfl⟩
  obtain ⟨C, hC⟩ : ∃ x, bits .and .i64 c 15 = x := ⟨_, rfl⟩
  have cS : ∀ w1, Below w.heap.size w w1 → _ := fun w1 h1 => dset_any _ l p1 p2 q1 q2 S C w1 (h.below h1) hf (hE.below h1)
  have cN : ∀ w1, Below w.heap.size w w1 → _ := fun w1 h1 => dcount_any _ l p1 p2 q1 q2 w1 (h.below h1) hf (hE.below h1)
  unfold psV at cS cN
  dsimp only at cS cN
  rcases hx with ha | ⟨ha, h0⟩
  · have e : chD (pl l) (p1, p2) (q1, q2) (setU S C) = ([], 1) := by unfold chD; rw [ha]; rfl
    rw [e] at cS
    dsimp only at cS
    obtain ⟨n, hn⟩ : ∃ n, l.length = n := ⟨_, rfl⟩
    rw [hn] at cL cS cN ⊢
    clear h hf hs0 hE hl hn ha e cN
    go_enter Tryz.func8, Tryz.ntmps8
    go_wp2_with (first
      | (go_at_call 10; ((with_reducible refine (cL _ ?hb).mono ?_); (case hb => (repeat (first | (with_reducible exact hb.out) | (with_reducible exact Below.refl _ _) | (with_reducible refine Below.drew ?_) | (with_reducible refine Below.alloc ?_ ?_ _) | omega | (simp <;> omega)))); rintro e w1 ⟨rfl, hk⟩; have hd := Lib.hid ((show Below w.heap.size w _ by (repeat (first | (with_reducible exact hb.out) | (with_reducible exact Below.refl _ _) | (with_reducible refine Below.drew ?_) | (with_reducible refine Below.alloc ?_ ?_ _) | omega | (simp <;> omega)))).trans (hk.mono (by (first | omega | (simp; done) | (simp; omega))))); have H5 := Lib.hid (X5.out.below hk); have H6 := Lib.hid (X6.out.below hk); obtain ⟨_, u0, u1, _, _⟩ := H5.out; obtain ⟨_, v0, v1, _, _⟩ := H6.out; clear hb; have hb := hd; (try clear hs); have hs := hb.out.size; clear hd hk))
      | (go_at_call 45; ((with_reducible refine (cS _ ?hb).mono ?_); (case hb => (repeat (first | (with_reducible exact hb.out) | (with_reducible exact Below.refl _ _) | (with_reducible refine Below.drew ?_) | (with_reducible refine Below.alloc ?_ ?_ _) | omega | (simp <;> omega)))); rintro e w3 ⟨vx, rx, rfl, hox, px, hk⟩; have hd := Lib.hid ((show Below w.heap.size w _ by (repeat (first | (with_reducible exact hb.out) | (with_reducible exact Below.refl _ _) | (with_reducible refine Below.drew ?_) | (with_reducible refine Below.alloc ?_ ?_ _) | omega | (simp <;> omega)))).trans (hk.mono (by (first | omega | (simp; done) | (simp; omega))))); have hown := Lib.hid hox; have hk5 := H5.out.below hk; have hk6 := H6.out.below hk; clear H5 H6; have H5 := Lib.hid hk5; have H6 := Lib.hid hk6; (try clear u0 u1 v0 v1); obtain ⟨_, u0, u1, _, _⟩ := H5.out; obtain ⟨_, v0, v1, _, _⟩ := H6.out; clear hk5 hk6; obtain ⟨ux, cx, ex⟩ := own_len hox.own; subst ex; obtain rfl : rx = [] := (by unfold pl at px; simpa using px); clear hox px hown; clear hb; have hb := hd; (try clear hs); have hs := hb.out.size; clear hd hk))
      | (go_at_call 11; ((with_reducible refine (cW _ ?hb).mono ?_); (case hb => (repeat (first | (with_reducible exact hb.out) | (with_reducible exact Below.refl _ _) | (with_reducible refine Below.drew ?_) | (with_reducible refine Below.alloc ?_ ?_ _) | omega | (simp <;> omega)))); rintro e w1 ⟨rfl, hk⟩; have hd := Lib.hid ((show Below w.heap.size w _ by (repeat (first | (with_reducible exact hb.out) | (with_reducible exact Below.refl _ _) | (with_reducible refine Below.drew ?_) | (with_reducible refine Below.alloc ?_ ?_ _) | omega | (simp <;> omega)))).trans (hk.mono (by (first | omega | (simp; done) | (simp; omega))))); clear hb; have hb := hd; (try clear hs); have hs := hb.out.size; clear hd hk)))
    all_goals go_ret
    all_goals exact ⟨rfl, hb.out⟩
  · have e : chD (pl l) (p1, p2) (q1, q2) (setU S C) = ([], 7) := by unfold chD; rw [ha]; simp only [if_true]; rw [if_pos h0]
    have e2 : countA (pl l) (p1, p2) (q1, q2) = 0 := by unfold countA; rw [ha]; exact h0
    rw [e] at cS
    rw [e2] at cN
    dsimp only at cS
    obtain ⟨n, hn⟩ : ∃ n, l.length = n := ⟨_, rfl⟩
    rw [hn] at cL cS cN ⊢
    clear h hf hs0 hE hl hn ha e e2 h0
    go_enter Tryz.func8, Tryz.ntmps8
    go_wp2_with (first
      | (go_at_call 10; ((with_reducible refine (cL _ ?hb).mono ?_); (case hb => (repeat (first | (with_reducible exact hb.out) | (with_reducible exact Below.refl _ _) | (with_reducible refine Below.drew ?_) | (with_reducible refine Below.alloc ?_ ?_ _) | omega | (simp <;> omega)))); rintro e w1 ⟨rfl, hk⟩; have hd := Lib.hid ((show Below w.heap.size w _ by (repeat (first | (with_reducible exact hb.out) | (with_reducible exact Below.refl _ _) | (with_reducible refine Below.drew ?_) | (with_reducible refine Below.alloc ?_ ?_ _) | omega | (simp <;> omega)))).trans (hk.mono (by (first | omega | (simp; done) | (simp; omega))))); have H5 := Lib.hid (X5.out.below hk); have H6 := Lib.hid (X6.out.below hk); obtain ⟨_, u0, u1, _, _⟩ := H5.out; obtain ⟨_, v0, v1, _, _⟩ := H6.out; clear hb; have hb := hd; (try clear hs); have hs := hb.out.size; clear hd hk))
      | (go_at_call 45; ((with_reducible refine (cS _ ?hb).mono ?_); (case hb => (repeat (first | (with_reducible exact hb.out) | (with_reducible exact Below.refl _ _) | (with_reducible refine Below.drew ?_) | (with_reducible refine Below.alloc ?_ ?_ _) | omega | (simp <;> omega)))); rintro e w3 ⟨vx, rx, rfl, hox, px, hk⟩; have hd := Lib.hid ((show Below w.heap.size w _ by (repeat (first | (with_reducible exact hb.out) | (with_reducible exact Below.refl _ _) | (with_reducible refine Below.drew ?_) | (with_reducible refine Below.alloc ?_ ?_ _) | omega | (simp <;> omega)))).trans (hk.mono (by (first | omega | (simp; done) | (simp; omega))))); have hown := Lib.hid hox; have hk5 := H5.out.below hk; have hk6 := H6.out.below hk; clear H5 H6; have H5 := Lib.hid hk5; have H6 := Lib.hid hk6; (try clear u0 u1 v0 v1); obtain ⟨_, u0, u1, _, _⟩ := H5.out; obtain ⟨_, v0, v1, _, _⟩ := H6.out; clear hk5 hk6; obtain ⟨ux, cx, ex⟩ := own_len hox.own; subst ex; obtain rfl : rx = [] := (by unfold pl at px; simpa using px); clear hox px hown; clear hb; have hb := hd; (try clear hs); have hs := hb.out.size; clear hd hk))
      | (go_at_call 54; ((with_reducible refine (cN _ ?hb).mono ?_); (case hb => (repeat (first | (with_reducible exact hb.out) | (with_reducible exact Below.refl _ _) | (with_reducible refine Below.drew ?_) | (with_reducible refine Below.alloc ?_ ?_ _) | omega | (simp <;> omega)))); rintro e w1 ⟨rfl, hk⟩; have hd := Lib.hid ((show Below w.heap.size w _ by (repeat (first | (with_reducible exact hb.out) | (with_reducible exact Below.refl _ _) | (with_reducible refine Below.drew ?_) | (with_reducible refine Below.alloc ?_ ?_ _) | omega | (simp <;> omega)))).trans (hk.mono (by (first | omega | (simp; done) | (simp; omega))))); have hk5 := H5.out.below hk; have hk6 := H6.out.below hk; clear H5 H6; have H5 := Lib.hid hk5; have H6 := Lib.hid hk6; (try clear u0 u1 v0 v1); obtain ⟨_, u0, u1, _, _⟩ := H5.out; obtain ⟨_, v0, v1, _, _⟩ := H6.out; clear hk5 hk6; clear hb; have hb := hd; (try clear hs); have hs := hb.out.size; clear hd hk))
      | (go_at_call 11; ((with_reducible refine (cW _ ?hb).mono ?_); (case hb => (repeat (first | (with_reducible exact hb.out) | (with_reducible exact Below.refl _ _) | (with_reducible refine Below.drew ?_) | (with_reducible refine Below.alloc ?_ ?_ _) | omega | (simp <;> omega)))); rintro e w1 ⟨rfl, hk⟩; have hd := Lib.hid ((show Below w.heap.size w _ by (repeat (first | (with_reducible exact hb.out) | (with_reducible exact Below.refl _ _) | (with_reducible refine Below.drew ?_) | (with_reducible refine Below.alloc ?_ ?_ _) | omega | (simp <;> omega)))).trans (hk.mono (by (first | omega | (simp; done) | (simp; omega))))); clear hb; have hb := hd; (try clear hs); have hs := hb.out.size; clear hd hk)))
    all_goals go_ret
    all_goals exact ⟨rfl, hb.out⟩

set_option maxRecDepth 40000 in
set_option maxHeartbeats 64000000 in
theorem lawStyles_walk (v : Value) (l : List Lw) (p1 p2 q1 q2 s c : Int) (w : World) (hE : Tg.Env w) (h : DocAt w v l) (hs0 : SizedD l) :
    Calls Tryz.prog 8 #[v, .agg #[.int .i64 p1, .int .i64 p2], .agg #[.int .i64 q1, .int .i64 q2], .int .i64 s, .int .i64 c] w fun e w' => e = .returned (.bool true) ∧ Below w.heap.size w w' := by
  by_cases hlg : longD (pl l) = true
  · exact lawStyles_early v l p1 p2 q1 q2 s c w hE h hs0 (.inl hlg)
  have hl : longD (pl l) = false := by simpa using hlg
  by_cases ha : askedD (pl l) (p1, p2) (q1, q2) = true
  case neg => exact lawStyles_early v l p1 p2 q1 q2 s c w hE h hs0 (.inr ⟨hl, .inl (by simpa using ha)⟩)
  by_cases h0 : countD (pl l) p1.toNat p2.toNat q1.toNat q2.toNat = 0
  · exact lawStyles_early v l p1 p2 q1 q2 s c w hE h hs0 (.inr ⟨hl, .inr ⟨ha, h0⟩⟩)
  obtain ⟨al, aa, bl, ba, a1, a2, sp, hm⟩ := askedD_span ha
  simp only [Prod.mk.injEq] at a1 a2
  obtain ⟨rfl, rfl⟩ := a1
  obtain ⟨rfl, rfl⟩ := a2
  simp only [Int.toNat_natCast] at h0
  obtain ⟨a, cc, rfl⟩ := h.s.len
  have cW : ∀ w1, Below w.heap.size w w1 → _ := fun w1 h1 => awake_any w1 (hE.below h1)
  have cL : ∀ w1, Below w.heap.size w w1 → _ := fun w1 h1 => llong_any _ l w1 (h.below h1) hs0
  have hb : Hid (Below w.heap.size w w) := Lib.hid (Below.refl _ _)
  have X5 := Lib.hid ((ps_new w (al : Int) (aa : Int)).below (below_alloc1 _ (.cells #[.int .i64 (bl : Int), .int .i64 (ba : Int)] 24)))
  have X6 := Lib.hid (ps_new (w.alloc (.cells #[.int .i64 (al : Int), .int .i64 (aa : Int)] 24)) (bl : Int) (ba : Int))
  rw [show (w.alloc (.cells #[.int .i64 (al : Int), .int .i64 (aa : Int)] 24)).heap.size = w.heap.size + 1 by simp] at X6
  rw [hl] at cL
  obtain ⟨hf, _, _⟩ := longD_false hl
  obtain ⟨S, hS⟩ : ∃ x, bits .and .i64 s 15 = x := ⟨_, rfl⟩
  obtain ⟨C, hC⟩ : ∃ x, bits .and .i64 c 15 = x := ⟨_, rfl⟩
  have lS : lowZ S = S := by rw [← hS]; exact low_low s
  have lC : bits .and .i64 C 15 = C := by rw [← hC]; exact low_low c
  have eX : chD (pl l) ((al : Int), (aa : Int)) ((bl : Int), (ba : Int)) (setU S C) = (turnD (setC S C) (pl l) al aa bl ba, 0) := chD_turn (setC S C) sp hm h0
  have eY : chD (pl l) ((al : Int), (aa : Int)) ((bl : Int), (ba : Int)) (linkU ⟨#[120]⟩) = (turnD (linkC ⟨#[120]⟩) (pl l) al aa bl ba, 0) := chD_turn (linkC ⟨#[120]⟩) sp hm h0
  have hlx : linkS ⟨#[120]⟩ = true := by kernel_rfl
  have mX := turn_may (g := setC S C) sp hm (fun x hx => mayC_set S C hx)
  have mY := turn_may (g := linkC ⟨#[120]⟩) sp hm (fun x hx => mayC_link _ hlx hx)
  have fX := turn_fine (g := setC S C) sp hf (fun x hx => hx)
  have fY := turn_fine (g := linkC ⟨#[120]⟩) sp hf (fun x _ => by show (⟨#[120]⟩ : ByteArray).size ≤ 1000000; decide)
  have aX := all_turn S C sp hm h0
  have sX := some_turn S C sp
  rw [lS] at aX
  rw [lC] at sX
  have lX := turn_length (g := setC S C) sp
  have lY := turn_length (g := linkC ⟨#[120]⟩) sp
  have cS : ∀ w1, Below w.heap.size w w1 → Calls Tryz.prog 45 #[.slice a l.length cc, .agg #[.int .i64 (al : Int), .int .i64 (aa : Int)], .agg #[.int .i64 (bl : Int), .int .i64 (ba : Int)], .int .i64 S, .int .i64 C] w1 (DocE (turnD (setC S C) (pl l) al aa bl ba) 0 w1) := fun w1 h1 => by
    have := dset_any _ l (al : Int) (aa : Int) (bl : Int) (ba : Int) S C w1 (h.below h1) hf (hE.below h1)
    rw [eX] at this
    exact this
  have cY : ∀ w1, Below w.heap.size w w1 → Calls Tryz.prog 47 #[.slice a l.length cc, .agg #[.int .i64 (al : Int), .int .i64 (aa : Int)], .agg #[.int .i64 (bl : Int), .int .i64 (ba : Int)], .string ⟨#[120]⟩] w1 (DocE (turnD (linkC ⟨#[120]⟩) (pl l) al aa bl ba) 0 w1) := fun w1 h1 => by
    have := dlink_any _ l (al : Int) (aa : Int) (bl : Int) (ba : Int) ⟨#[120]⟩ w1 (h.below h1) hf (hE.below h1) (by decide) hlx
    rw [eY] at this
    exact this
  obtain ⟨X, hX⟩ : ∃ X, turnD (setC S C) (pl l) al aa bl ba = X := ⟨_, rfl⟩
  obtain ⟨Y, hY⟩ : ∃ X, turnD (linkC ⟨#[120]⟩) (pl l) al aa bl ba = X := ⟨_, rfl⟩
  have HXY := Lib.hid (And.intro hX hY)
  rw [hX] at cS mX fX aX sX lX
  rw [hY] at cY mY fY lY
  have cMay : ∀ (vv : Value) (ry : List Lw) (Z : Doc) w1, Below w.heap.size w w1 → DocAt w1 vv ry → pl ry = Z → Fine Z → mayD Z = true → Calls Tryz.prog 13 #[vv] w1 fun e w' => e = .returned (.bool true) ∧ Below w1.heap.size w1 w' := fun vv ry Z w1 h1 h2 h3 h4 h5 => by
    have := dmay_any vv ry w1 h2 (by rw [h3]; exact h4) (hE.below h1)
    rw [h3, h5] at this
    exact this
  have cAll : ∀ (vv : Value) (ry : List Lw) w1, Below w.heap.size w w1 → DocAt w1 vv ry → pl ry = X → Calls Tryz.prog 50 #[vv, .agg #[.int .i64 (al : Int), .int .i64 (aa : Int)], .agg #[.int .i64 (bl : Int), .int .i64 (ba : Int)], .int .i64 S] w1 fun e w' => e = .returned (.bool true) ∧ Below w1.heap.size w1 w' := fun vv ry w1 h1 h2 h3 => by
    have := dall_any vv ry (al : Int) (aa : Int) (bl : Int) (ba : Int) S w1 h2 (by rw [h3]; exact fX) (hE.below h1)
    rw [h3, aX] at this
    exact this
  obtain ⟨T, hT⟩ : ∃ x, bits .andNot .i64 C S = x := ⟨_, rfl⟩
  rw [hT] at sX
  have cSome : ∀ (vv : Value) (ry : List Lw) w1, Below w.heap.size w w1 → DocAt w1 vv ry → pl ry = X → Calls Tryz.prog 52 #[vv, .agg #[.int .i64 (al : Int), .int .i64 (aa : Int)], .agg #[.int .i64 (bl : Int), .int .i64 (ba : Int)], .int .i64 T] w1 fun e w' => e = .returned (.bool false) ∧ Below w1.heap.size w1 w' := fun vv ry w1 h1 h2 h3 => by
    have := dsome_any vv ry (al : Int) (aa : Int) (bl : Int) (ba : Int) T w1 h2 (by rw [h3]; exact fX) (hE.below h1)
    rw [h3, sX] at this
    exact this
  obtain ⟨n, hn⟩ : ∃ n, l.length = n := ⟨_, rfl⟩
  have LENX : Hid (∀ r : List Lw, pl r = X → r.length = n) := Lib.hid (fun r hr => by rw [← pl_length r, hr, lX, pl_length, hn])
  have LENY : Hid (∀ r : List Lw, pl r = Y → r.length = n) := Lib.hid (fun r hr => by rw [← pl_length r, hr, lY, pl_length, hn])
  have HD : Hid (DocAt w (.slice a n cc) l) := Lib.hid (by rw [← hn]; exact h)
  rw [hn] at cL cS cY ⊢
  have HE := Lib.hid hE
  have HF := Lib.hid (And.intro hf (And.intro fX fY))
  have HMY := Lib.hid (And.intro mX mY)
  have HS := Lib.hid (And.intro sp (And.intro hm hn))
  have CMay := Lib.hid cMay
  have CAll := Lib.hid cAll
  have CSome := Lib.hid cSome
  clear h hs0 hE hl hlg ha hm hn sp hf lS lC eX eY hlx mX mY fX fY aX sX lX lY hX hY cMay cAll cSome h0
  go_enter Tryz.func8, Tryz.ntmps8
  go_upto_region 8 with (first
    | (go_at_call 10; ((with_reducible refine (cL _ ?hb).mono ?_); (case hb => (repeat (first | (with_reducible exact hb.out) | (with_reducible exact Below.refl _ _) | (with_reducible refine Below.drew ?_) | (with_reducible refine Below.alloc ?_ ?_ _) | omega | (simp <;> omega)))); rintro e w1 ⟨rfl, hk⟩; have hd := Lib.hid ((show Below w.heap.size w _ by (repeat (first | (with_reducible exact hb.out) | (with_reducible exact Below.refl _ _) | (with_reducible refine Below.drew ?_) | (with_reducible refine Below.alloc ?_ ?_ _) | omega | (simp <;> omega)))).trans (hk.mono (by (first | omega | (simp; done) | (simp; omega))))); have H5 := Lib.hid (X5.out.below hk); have H6 := Lib.hid (X6.out.below hk); obtain ⟨_, u0, u1, _, _⟩ := H5.out; obtain ⟨_, v0, v1, _, _⟩ := H6.out; clear hb; have hb := hd; (try clear hs); have hs := hb.out.size; clear hd hk))
    | (go_at_call 45; ((with_reducible refine (cS _ ?hb).mono ?_); (case hb => (repeat (first | (with_reducible exact hb.out) | (with_reducible exact Below.refl _ _) | (with_reducible refine Below.drew ?_) | (with_reducible refine Below.alloc ?_ ?_ _) | omega | (simp <;> omega)))); rintro e w3 ⟨vx, rx, rfl, hox, px, hk⟩; have hd := Lib.hid ((show Below w.heap.size w _ by (repeat (first | (with_reducible exact hb.out) | (with_reducible exact Below.refl _ _) | (with_reducible refine Below.drew ?_) | (with_reducible refine Below.alloc ?_ ?_ _) | omega | (simp <;> omega)))).trans (hk.mono (by (first | omega | (simp; done) | (simp; omega))))); have hk5 := H5.out.below hk; have hk6 := H6.out.below hk; clear H5 H6; have H5 := Lib.hid hk5; have H6 := Lib.hid hk6; (try clear u0 u1 v0 v1); obtain ⟨_, u0, u1, _, _⟩ := H5.out; obtain ⟨_, v0, v1, _, _⟩ := H6.out; clear hk5 hk6; have OX := Lib.hid hox; have QX := Lib.hid px; have KX := Lib.hid hk; obtain ⟨ux, cx, ex⟩ := own_len hox.own; rw [LENX.out _ px] at ex; subst ex; clear hox px; clear hb; have hb := hd; (try clear hs); have hs := hb.out.size; clear hd hk))
    | (go_at_call 47; ((with_reducible refine (cY _ ?hb).mono ?_); (case hb => (repeat (first | (with_reducible exact hb.out) | (with_reducible exact Below.refl _ _) | (with_reducible refine Below.drew ?_) | (with_reducible refine Below.alloc ?_ ?_ _) | omega | (simp <;> omega)))); rintro e w4 ⟨vy, ry, rfl, hox, px, hk⟩; have hd := Lib.hid ((show Below w.heap.size w _ by (repeat (first | (with_reducible exact hb.out) | (with_reducible exact Below.refl _ _) | (with_reducible refine Below.drew ?_) | (with_reducible refine Below.alloc ?_ ?_ _) | omega | (simp <;> omega)))).trans (hk.mono (by (first | omega | (simp; done) | (simp; omega))))); have hk5 := H5.out.below hk; have hk6 := H6.out.below hk; clear H5 H6; have H5 := Lib.hid hk5; have H6 := Lib.hid hk6; (try clear u0 u1 v0 v1); obtain ⟨_, u0, u1, _, _⟩ := H5.out; obtain ⟨_, v0, v1, _, _⟩ := H6.out; clear hk5 hk6; have OY := Lib.hid hox; have QY := Lib.hid px; have KX2 := Lib.hid (hk.mono (Nat.le_refl _)); obtain ⟨uy, cy, ex⟩ := own_len hox.own; rw [LENY.out _ px] at ex; subst ex; clear hox px; clear hb; have hb := hd; (try clear hs); have hs := hb.out.size; clear hd hk)))
  clear cL cS cY X5 X6 hS hC
  have AX := Lib.hid (OX.out.at.below KX2.out)
  have AY := Lib.hid OY.out.at
  have K4 : Hid (Below w4.heap.size w4 w4) := Lib.hid (Below.refl _ _)
  clear KX KX2 OX OY
  go_upto_region 10 with (first
    | (go_at_call 13; ((with_reducible refine (CMay.out _ rx X _ hb.out (AX.out.below K4.out) QX.out HF.out.2.1 HMY.out.1).mono ?_); rintro e w5 ⟨rfl, hk⟩; have hd := Lib.hid (hb.out.trans (hk.mono (by first | exact hb.out.size | (first | omega | (simp; done) | (simp; omega))))); have k4 := Lib.hid (K4.out.trans (hk.mono K4.out.size)); have hk5 := H5.out.below hk; have hk6 := H6.out.below hk; clear H5 H6; have H5 := Lib.hid hk5; have H6 := Lib.hid hk6; (try clear u0 u1 v0 v1); obtain ⟨_, u0, u1, _, _⟩ := H5.out; obtain ⟨_, v0, v1, _, _⟩ := H6.out; clear hk5 hk6; clear hb K4; have hb := hd; have K4 := k4; (try clear hs); have hs := hb.out.size; clear hd k4 hk))
    | (go_at_call 13; ((with_reducible refine (CMay.out _ ry Y _ hb.out (AY.out.below K4.out) QY.out HF.out.2.2 HMY.out.2).mono ?_); rintro e w6 ⟨rfl, hk⟩; have hd := Lib.hid (hb.out.trans (hk.mono (by first | exact hb.out.size | (first | omega | (simp; done) | (simp; omega))))); have k4 := Lib.hid (K4.out.trans (hk.mono K4.out.size)); have hk5 := H5.out.below hk; have hk6 := H6.out.below hk; clear H5 H6; have H5 := Lib.hid hk5; have H6 := Lib.hid hk6; (try clear u0 u1 v0 v1); obtain ⟨_, u0, u1, _, _⟩ := H5.out; obtain ⟨_, v0, v1, _, _⟩ := H6.out; clear hk5 hk6; clear hb K4; have hb := hd; have K4 := k4; (try clear hs); have hs := hb.out.size; clear hd k4 hk))
    | (go_at_call 50; ((with_reducible refine (CAll.out _ rx _ hb.out (AX.out.below K4.out) QX.out).mono ?_); rintro e w7 ⟨rfl, hk⟩; have hd := Lib.hid (hb.out.trans (hk.mono (by first | exact hb.out.size | (first | omega | (simp; done) | (simp; omega))))); have k4 := Lib.hid (K4.out.trans (hk.mono K4.out.size)); have hk5 := H5.out.below hk; have hk6 := H6.out.below hk; clear H5 H6; have H5 := Lib.hid hk5; have H6 := Lib.hid hk6; (try clear u0 u1 v0 v1); obtain ⟨_, u0, u1, _, _⟩ := H5.out; obtain ⟨_, v0, v1, _, _⟩ := H6.out; clear hk5 hk6; clear hb K4; have hb := hd; have K4 := k4; (try clear hs); have hs := hb.out.size; clear hd k4 hk))
    | (go_at_call 52; ((with_reducible refine (CSome.out _ rx _ hb.out (AX.out.below K4.out) QX.out).mono ?_); rintro e w8 ⟨rfl, hk⟩; have hd := Lib.hid (hb.out.trans (hk.mono (by first | exact hb.out.size | (first | omega | (simp; done) | (simp; omega))))); have k4 := Lib.hid (K4.out.trans (hk.mono K4.out.size)); have hk5 := H5.out.below hk; have hk6 := H6.out.below hk; clear H5 H6; have H5 := Lib.hid hk5; have H6 := Lib.hid hk6; (try clear u0 u1 v0 v1); obtain ⟨_, u0, u1, _, _⟩ := H5.out; obtain ⟨_, v0, v1, _, _⟩ := H6.out; clear hk5 hk6; clear hb K4; have hb := hd; have K4 := k4; (try clear hs); have hs := hb.out.size; clear hd k4 hk)))
  have BX := Lib.hid (AX.out.below K4.out)
  have BY := Lib.hid (AY.out.below K4.out)
  have BD := Lib.hid (HD.out.below hb.out)
  have BE := Lib.hid (HE.out.below hb.out)
  clear AX AY K4 HD HE CMay CAll CSome u0 u1 v0 v1
  go_wp2
  go_loopw [15, 16, 17, 18, 19, 20, 21] (fun i _ _ _ _ _ _ wr => ∃ j : Nat, j ≤ n ∧ i = .int .i64 j ∧ Hid (Below w8.heap.size w8 wr)) (fun i _ _ _ _ _ _ _ => n - (RowKit.intOf i).toNat)
  case atStart => exact ⟨0, Nat.zero_le _, rfl, Lib.hid (Below.refl _ _)⟩
  case round =>
    obtain ⟨j, hj, rfl, HB⟩ := hrel
    by_cases hlt : j < n
    · have lend : l.length = n := HS.out.2.2
      have lenx : rx.length = n := LENX.out _ QX.out
      have leny : ry.length = n := LENY.out _ QY.out
      have hkD : j < l.length := by rw [lend]; exact hlt
      obtain ⟨bD, oD, c1D, eD, hlcD, hcmD, hblD, hcsD⟩ := BD.out.s.lies (by omega)
      rw [lend] at eD hlcD
      obtain ⟨rfl, _, rfl⟩ := Value.slice.inj eD
      unfold maxLen at hcmD
      obtain ⟨qD, zaD, n1D, zcD, kkD, raD, n2D, rcD, x0D, x1D, x2D, x3D, k0D, k1D, k2D, k3D, k4D, k5D⟩ := (hcsD.below hblD HB.out).get hkD
      have hkX : j < rx.length := by rw [lenx]; exact hlt
      obtain ⟨bX, oX, c1X, eX, hlcX, hcmX, hblX, hcsX⟩ := BX.out.s.lies (by omega)
      rw [lenx] at eX hlcX
      obtain ⟨rfl, _, rfl⟩ := Value.slice.inj eX
      unfold maxLen at hcmX
      obtain ⟨qX, zaX, n1X, zcX, kkX, raX, n2X, rcX, x0X, x1X, x2X, x3X, k0X, k1X, k2X, k3X, k4X, k5X⟩ := (hcsX.below hblX HB.out).get hkX
      have hkY : j < ry.length := by rw [leny]; exact hlt
      obtain ⟨bY, oY, c1Y, eY, hlcY, hcmY, hblY, hcsY⟩ := BY.out.s.lies (by omega)
      rw [leny] at eY hlcY
      obtain ⟨rfl, _, rfl⟩ := Value.slice.inj eY
      unfold maxLen at hcmY
      obtain ⟨qY, zaY, n1Y, zcY, kkY, raY, n2Y, rcY, x0Y, x1Y, x2Y, x3Y, k0Y, k1Y, k2Y, k3Y, k4Y, k5Y⟩ := (hcsY.below hblY HB.out).get hkY
      have agD : aggL l[j]! = .agg #[.int .i64 qD, .slice zaD n1D zcD, .int .i64 kkD, .slice raD n2D rcD] := by unfold aggL; rw [k0D, k1D, k2D, k3D]
      have agX : aggL rx[j]! = .agg #[.int .i64 qX, .slice zaX n1X zcX, .int .i64 kkX, .slice raX n2X rcX] := by unfold aggL; rw [k0X, k1X, k2X, k3X]
      have sp := HS.out.1
      have hjd : j < (pl l).length := by rw [pl_length]; exact hkD
      have lnX : (rx[j]!).ln = lnWith (l[j]!).ln (turnR (setC S C) (l[j]!).ln.cs (frT al aa bl j) (toT (pl l) al bl ba j)) := by
        rw [← pl_get _ _ hkX, QX.out, ← HXY.out.1, turn_at sp, pl_get _ _ hkD]
      have lnY : (ry[j]!).ln = lnWith (l[j]!).ln (turnR (linkC ⟨#[120]⟩) (l[j]!).ln.cs (frT al aa bl j) (toT (pl l) al bl ba j)) := by
        rw [← pl_get _ _ hkY, QY.out, ← HXY.out.2, turn_at sp, pl_get _ _ hkD]
      have eqX : n2X = n2D := by rw [← k5X, ← k5D, lnX]; exact turnR_length _ _ _ _
      have eqY : n2Y = n2D := by rw [← k5Y, ← k5D, lnY]; exact turnR_length _ _ _ _
      rw [eqX] at x3X k3X agX
      rw [eqY] at x3Y k3Y
      clear eqX eqY
      have fD := HF.out.1.at (mem_get hkD)
      have fX : (rx[j]!).ln.ls.length ≤ 50000 := by rw [lnX]; exact fD.1
      have WD := BD.out.n _ (mem_get hkD)
      have WX := BX.out.n _ (mem_get hkX)
      have WY := BY.out.n _ (mem_get hkY)
      have cFx : ∀ w1, Below wr.heap.size wr w1 → _ := fun w1 h1 => rlframeA rx[j]! w1 ((WX.below HB.out).below h1) fX
      have cFd : ∀ w1, Below wr.heap.size wr w1 → _ := fun w1 h1 => rlframeA l[j]! w1 ((WD.below HB.out).below h1) fD.1
      rw [agX, lnX] at cFx
      rw [agD] at cFd
      have cSm : ∀ (y1 y2 : Lw) w1, LwAt w1 y1 → LwAt w1 y2 → y1.ln = lnWith (l[j]!).ln [] → y2.ln = lnWith (l[j]!).ln [] → Calls Tryz.prog 56 #[aggL y1, aggL y2] w1 fun e w' => e = .returned (.bool true) ∧ Below w1.heap.size w1 w' := fun y1 y2 w1 h1 h2 h3 h4 => by
        have := rlsameA y1 y2 w1 h1 h2 (by rw [h3]; exact ⟨fD.1, Nat.zero_le _, fun k hk => absurd hk (Nat.not_lt_zero k)⟩)
        rw [h3, h4, sameL_iff.2 rfl] at this
        exact this
      have CSm := Lib.hid cSm
      have KSR : Hid (∀ w', Below wr.heap.size wr w' → (w'.cell? ⟨bD, oD + j * 4, none⟩ = some (.int .i64 qD) ∧ w'.cell? ⟨bD, oD + j * 4 + 1, none⟩ = some (.slice zaD n1D zcD) ∧ w'.cell? ⟨bD, oD + j * 4 + 2, none⟩ = some (.int .i64 kkD) ∧ w'.cell? ⟨bD, oD + j * 4 + 3, none⟩ = some (.slice raD n2D rcD) ∧ w'.cell? ⟨bX, oX + j * 4, none⟩ = some (.int .i64 qX) ∧ w'.cell? ⟨bX, oX + j * 4 + 1, none⟩ = some (.slice zaX n1X zcX) ∧ w'.cell? ⟨bX, oX + j * 4 + 2, none⟩ = some (.int .i64 kkX) ∧ w'.cell? ⟨bX, oX + j * 4 + 3, none⟩ = some (.slice raX n2D rcX) ∧ w'.cell? ⟨bY, oY + j * 4 + 3, none⟩ = some (.slice raY n2D rcY))) := Lib.hid (fun w' h => ⟨(h.cell (p := ⟨bD, oD + j * 4, none⟩) (Nat.lt_of_lt_of_le hblD HB.out.size)).trans x0D, (h.cell (p := ⟨bD, oD + j * 4 + 1, none⟩) (Nat.lt_of_lt_of_le hblD HB.out.size)).trans x1D, (h.cell (p := ⟨bD, oD + j * 4 + 2, none⟩) (Nat.lt_of_lt_of_le hblD HB.out.size)).trans x2D, (h.cell (p := ⟨bD, oD + j * 4 + 3, none⟩) (Nat.lt_of_lt_of_le hblD HB.out.size)).trans x3D, (h.cell (p := ⟨bX, oX + j * 4, none⟩) (Nat.lt_of_lt_of_le hblX HB.out.size)).trans x0X, (h.cell (p := ⟨bX, oX + j * 4 + 1, none⟩) (Nat.lt_of_lt_of_le hblX HB.out.size)).trans x1X, (h.cell (p := ⟨bX, oX + j * 4 + 2, none⟩) (Nat.lt_of_lt_of_le hblX HB.out.size)).trans x2X, (h.cell (p := ⟨bX, oX + j * 4 + 3, none⟩) (Nat.lt_of_lt_of_le hblX HB.out.size)).trans x3X, (h.cell (p := ⟨bY, oY + j * 4 + 3, none⟩) (Nat.lt_of_lt_of_le hblY HB.out.size)).trans x3Y⟩)
      have hji : (j : Int) < (n : Int) := by omega
      have hbD : bD < wr.heap.size := Nat.lt_of_lt_of_le hblD HB.out.size
      have hbX : bX < wr.heap.size := Nat.lt_of_lt_of_le hblX HB.out.size
      have hbY : bY < wr.heap.size := Nat.lt_of_lt_of_le hblY HB.out.size
      have HLN := Lib.hid (And.intro lnX (And.intro lnY fD))
      have HW := Lib.hid (And.intro WD (And.intro WX WY))
      have HK := Lib.hid (And.intro k3D (And.intro k3X (And.intro k3Y k5D)))
      have hws := HB.out.size
      clear eD eX eY hcsD hcsX hcsY hkD hkX hkY lend lenx leny k0D k1D k2D k3D k4D k5D k0X k1X k2X k3X k4X k5X k0Y k1Y k2Y k3Y k4Y k5Y agD agX lnX lnY fD fX WD WX WY sp hjd cSm
      go_upto_region 13 with fail
      go_cut [161] (fun s wx => s = .bool false ∧ Hid (Below wr.heap.size wr wx))
      case first => as_aux_lemma =>
        have hr : Hid (Below wr.heap.size wr wr) := Lib.hid (Below.refl _ _)
        have hS : (wr.cell? ⟨bD, oD + j * 4, none⟩ = some (.int .i64 qD) ∧ wr.cell? ⟨bD, oD + j * 4 + 1, none⟩ = some (.slice zaD n1D zcD) ∧ wr.cell? ⟨bD, oD + j * 4 + 2, none⟩ = some (.int .i64 kkD) ∧ wr.cell? ⟨bD, oD + j * 4 + 3, none⟩ = some (.slice raD n2D rcD) ∧ wr.cell? ⟨bX, oX + j * 4, none⟩ = some (.int .i64 qX) ∧ wr.cell? ⟨bX, oX + j * 4 + 1, none⟩ = some (.slice zaX n1X zcX) ∧ wr.cell? ⟨bX, oX + j * 4 + 2, none⟩ = some (.int .i64 kkX) ∧ wr.cell? ⟨bX, oX + j * 4 + 3, none⟩ = some (.slice raX n2D rcX) ∧ wr.cell? ⟨bY, oY + j * 4 + 3, none⟩ = some (.slice raY n2D rcY)) := KSR.out _ hr.out
        clear x0D x1D x2D x3D x0X x1X x2X x3X x0Y x1Y x2Y x3Y
        go_region_held3 (fun w' => (w'.cell? ⟨bD, oD + j * 4, none⟩ = some (.int .i64 qD) ∧ w'.cell? ⟨bD, oD + j * 4 + 1, none⟩ = some (.slice zaD n1D zcD) ∧ w'.cell? ⟨bD, oD + j * 4 + 2, none⟩ = some (.int .i64 kkD) ∧ w'.cell? ⟨bD, oD + j * 4 + 3, none⟩ = some (.slice raD n2D rcD) ∧ w'.cell? ⟨bX, oX + j * 4, none⟩ = some (.int .i64 qX) ∧ w'.cell? ⟨bX, oX + j * 4 + 1, none⟩ = some (.slice zaX n1X zcX) ∧ w'.cell? ⟨bX, oX + j * 4 + 2, none⟩ = some (.int .i64 kkX) ∧ w'.cell? ⟨bX, oX + j * 4 + 3, none⟩ = some (.slice raX n2D rcX) ∧ w'.cell? ⟨bY, oY + j * 4 + 3, none⟩ = some (.slice raY n2D rcY))) (first | (with_reducible exact hS) | (refine KSR.out _ ?_; (repeat (first | (with_reducible exact hr.out) | (with_reducible exact Below.refl _ _) | (with_reducible refine Below.drew ?_) | (with_reducible refine Below.alloc ?_ ?_ _) | omega | (simp <;> omega))); done)) (first
          | (go_at_call 57; ((with_reducible refine (cFx _ ?hb).mono ?_); (case hb => (repeat (first | (with_reducible exact hr.out) | (with_reducible exact Below.refl _ _) | (with_reducible refine Below.drew ?_) | (with_reducible refine Below.alloc ?_ ?_ _) | omega | (simp <;> omega)))); rintro e w10 ⟨y1, rfl, hy1, hy2, hk⟩; have hg := Lib.hid ((show Below wr.heap.size wr _ by (repeat (first | (with_reducible exact hr.out) | (with_reducible exact Below.refl _ _) | (with_reducible refine Below.drew ?_) | (with_reducible refine Below.alloc ?_ ?_ _) | omega | (simp <;> omega)))).trans (hk.mono (by (first | omega | (simp; done) | (simp; omega))))); replace hS := KSR.out _ hg.out; have LF := Lib.hid hy1; have OF := Lib.hid hy2.at; clear hr; have hr := hg; (try clear hsr); have hsr := hr.out.size; clear hg hk hy1 hy2))
          | (go_at_call 57; ((with_reducible refine (cFd _ ?hb).mono ?_); (case hb => (repeat (first | (with_reducible exact hr.out) | (with_reducible exact Below.refl _ _) | (with_reducible refine Below.drew ?_) | (with_reducible refine Below.alloc ?_ ?_ _) | omega | (simp <;> omega)))); rintro e w11 ⟨y2, rfl, hy1, hy2, hk⟩; have hg := Lib.hid ((show Below wr.heap.size wr _ by (repeat (first | (with_reducible exact hr.out) | (with_reducible exact Below.refl _ _) | (with_reducible refine Below.drew ?_) | (with_reducible refine Below.alloc ?_ ?_ _) | omega | (simp <;> omega)))).trans (hk.mono (by (first | omega | (simp; done) | (simp; omega))))); replace hS := KSR.out _ hg.out; have LG := Lib.hid hy1; have OG := Lib.hid hy2.at; clear hr; have hr := hg; (try clear hsr); have hsr := hr.out.size; have KF2 := Lib.hid hk; clear hg hk hy1 hy2))
          | (go_at_call 56; ((with_reducible refine (CSm.out y1 y2 _ (OF.out.below KF2.out) OG.out (LF.out.trans rfl) LG.out).mono ?_); rintro e w12 ⟨rfl, hk⟩; have hg := Lib.hid (hr.out.trans (hk.mono (by first | exact hr.out.size | (first | omega | (simp; done) | (simp; omega))))); replace hS := KSR.out _ hg.out; clear hr; have hr := hg; (try clear hsr); have hsr := hr.out.size; clear hg hk)))
        all_goals go_wp2
        all_goals go_meet
        all_goals exact ⟨rfl, hr⟩
      case rest =>
      obtain ⟨rfl, hc⟩ := hcut
      have HBc := Lib.hid (HB.out.trans (hc.out.mono hws))
      have lD : (l[j]!).ln.cs.length = n2D := HK.out.2.2.2
      have RD : Hid (RowAt wc (.slice raD n2D rcD) (l[j]!).ln.cs) := Lib.hid (by
        have := (HW.out.1.below HBc.out).r
        rw [HK.out.1] at this
        exact this)
      have RX : Hid (RowAt wc (.slice raX n2D rcX) (turnR (setC S C) (l[j]!).ln.cs (frT al aa bl j) (toT (pl l) al bl ba j))) := Lib.hid (by
        have := (HW.out.2.1.below HBc.out).r
        rw [HK.out.2.1, HLN.out.1] at this
        exact this)
      have RY : Hid (RowAt wc (.slice raY n2D rcY) (turnR (linkC ⟨#[120]⟩) (l[j]!).ln.cs (frT al aa bl j) (toT (pl l) al bl ba j))) := Lib.hid (by
        have := (HW.out.2.2.below HBc.out).r
        rw [HK.out.2.2.1, HLN.out.2.1] at this
        exact this)
      have hcl : n2D ≤ 50000 := by have := HLN.out.2.2.2.1; omega
      have hjl : j < l.length := by rw [HS.out.2.2]; exact hlt
      have hcnt : cnt (pl l) j = n2D := by rw [cnt_pl hjl]; exact lD
      obtain ⟨CS, hCS⟩ : ∃ r, (l[j]!).ln.cs = r := ⟨_, rfl⟩
      rw [hCS] at RD RX RY lD
      have HLD := Lib.hid lD
      have HCN := Lib.hid hcnt
      have CK := Lib.hid hc
      have hwc := HBc.out.size
      clear lD hCS hcnt hjl HW HLN HK CSm cFx cFd x0D x1D x2D x3D x0X x1X x2X x3X x0Y x1Y x2Y x3Y hc
      as_aux_lemma =>
      go_wp2
      go_loopw [16, 17, 18, 19, 20, 21] (fun i _ _ _ _ _ w2 => ∃ k : Nat, k ≤ n2D ∧ i = .int .i64 k ∧ Hid (Below wc.heap.size wc w2)) (fun i _ _ _ _ _ _ => n2D - (RowKit.intOf i).toNat)
      case atStart => exact ⟨0, Nat.zero_le _, rfl, Lib.hid (Below.refl _ _)⟩
      case round =>
        obtain ⟨k, hk, rfl, HB2⟩ := hrel
        by_cases hlt2 : k < n2D
        · have hbR := CK.out.trans (HB2.out.mono CK.out.size)
          obtain ⟨_, _, _, d3, _, _, _, x3, y3⟩ := KSR.out wr hbR
          obtain ⟨gD, pD, c2D, eD, hcD, hmD, hgD, csD⟩ := RD.out.lies (by rw [HLD.out]; omega)
          rw [HLD.out] at eD hcD
          obtain ⟨rfl, _, rfl⟩ := Value.slice.inj eD
          unfold maxLen at hmD
          obtain ⟨z0D, z1D, z2D⟩ := csD.below hgD HB2.out k (by rw [HLD.out]; exact hlt2)
          obtain ⟨gX, pX, c2X, eX, hcX, hmX, hgX, csX⟩ := RX.out.lies (by rw [turnR_length, HLD.out]; omega)
          rw [turnR_length, HLD.out] at eX hcX
          obtain ⟨rfl, _, rfl⟩ := Value.slice.inj eX
          unfold maxLen at hmX
          obtain ⟨z0X, z1X, z2X⟩ := csX.below hgX HB2.out k (by rw [turnR_length, HLD.out]; exact hlt2)
          obtain ⟨gY, pY, c2Y, eY, hcY, hmY, hgY, csY⟩ := RY.out.lies (by rw [turnR_length, HLD.out]; omega)
          rw [turnR_length, HLD.out] at eY hcY
          obtain ⟨rfl, _, rfl⟩ := Value.slice.inj eY
          unfold maxLen at hmY
          obtain ⟨z0Y, z1Y, z2Y⟩ := csY.below hgY HB2.out k (by rw [turnR_length, HLD.out]; exact hlt2)
          have hkc : k < CS.length := by rw [HLD.out]; exact hlt2
          have hin := in_place HS.out.1 (i := j) (k := k) (by rw [HCN.out]; exact hlt2)
          rw [turnR_cell hkc] at z0X z1X z2X z0Y z1Y z2Y
          obtain ⟨⟨R0, B0, H0⟩, hx⟩ : ∃ x, CS[k]! = x := ⟨_, rfl⟩
          rw [hx] at z0D z1D z2D z0X z1X z2X z0Y z1Y z2Y
          obtain ⟨K1, hK1⟩ : ∃ x, cmpP ((al : Int), (aa : Int)) ((j : Int), (k : Int)) = x := ⟨_, rfl⟩
          obtain ⟨K2, hK2⟩ : ∃ x, cmpP ((j : Int), (k : Int)) ((bl : Int), (ba : Int)) = x := ⟨_, rfl⟩
          rw [hK1, hK2] at hin
          have cKa : ∀ w1, Calls Tryz.prog 24 #[.agg #[.int .i64 (al : Int), .int .i64 (aa : Int)], .agg #[.int .i64 (j : Int), .int .i64 (k : Int)]] w1 fun e w' => e = .returned (.int .i64 K1) ∧ Below w1.heap.size w1 w' := fun w1 => by
            have := rdcmp_any (al : Int) (aa : Int) (j : Int) (k : Int) w1
            rw [hK1] at this
            exact this
          have cKb : ∀ w1, Calls Tryz.prog 24 #[.agg #[.int .i64 (j : Int), .int .i64 (k : Int)], .agg #[.int .i64 (bl : Int), .int .i64 (ba : Int)]] w1 fun e w' => e = .returned (.int .i64 K2) ∧ Below w1.heap.size w1 w' := fun w1 => by
            have := rdcmp_any (j : Int) (k : Int) (bl : Int) (ba : Int) w1
            rw [hK2] at this
            exact this
          obtain ⟨_, u0, u1, _, _⟩ := H5.out.below (HB.out.trans (hbR.mono HB.out.size))
          obtain ⟨_, v0, v1, _, _⟩ := H6.out.below (HB.out.trans (hbR.mono HB.out.size))
          have hcase : ∃ B1 H1, (wr.cell? ⟨gX, pX + k * 3, none⟩ = some (.int .i32 R0) ∧ wr.cell? ⟨gX, pX + k * 3 + 1, none⟩ = some (.int .i64 B1) ∧ wr.cell? ⟨gX, pX + k * 3 + 2, none⟩ = some (.string H0) ∧ wr.cell? ⟨gY, pY + k * 3, none⟩ = some (.int .i32 R0) ∧ wr.cell? ⟨gY, pY + k * 3 + 1, none⟩ = some (.int .i64 B0) ∧ wr.cell? ⟨gY, pY + k * 3 + 2, none⟩ = some (.string H1)) ∧ ((0 < K1 ∧ B1 = B0 ∧ H1 = H0) ∨ (K1 ≤ 0 ∧ ¬ K2 < 0 ∧ B1 = B0 ∧ H1 = H0) ∨ (K1 ≤ 0 ∧ K2 < 0 ∧ H1 = (⟨#[120]⟩ : ByteArray))) := by
            by_cases hP : frT al aa bl j ≤ k ∧ k < toT (pl l) al bl ba j
            · rw [if_pos hP] at z0X z1X z2X z0Y z1Y z2Y
              exact ⟨_, _, ⟨z0X, z1X, z2X, z0Y, z1Y, z2Y⟩, .inr (.inr ⟨(hin.1 hP).1, (hin.1 hP).2, rfl⟩)⟩
            · rw [if_neg hP] at z0X z1X z2X z0Y z1Y z2Y
              refine ⟨_, _, ⟨z0X, z1X, z2X, z0Y, z1Y, z2Y⟩, ?_⟩
              by_cases h1 : K1 ≤ 0
              · exact .inr (.inl ⟨h1, fun h2 => hP (hin.2 ⟨h1, h2⟩), rfl, rfl⟩)
              · exact .inl ⟨by omega, rfl, rfl⟩
          clear z0X z1X z2X z0Y z1Y z2Y hin hK1 hK2 hkc hx
          obtain ⟨B1, H1, ⟨z0X, z1X, z2X, z0Y, z1Y, z2Y⟩, hcase⟩ := hcase
          have FA : (wr.cell? ⟨bD, oD + j * 4 + 3, none⟩ = some (.slice (some ⟨gD, pD, none⟩) n2D rcD) ∧ wr.cell? ⟨bX, oX + j * 4 + 3, none⟩ = some (.slice (some ⟨gX, pX, none⟩) n2D rcX) ∧ wr.cell? ⟨bY, oY + j * 4 + 3, none⟩ = some (.slice (some ⟨gY, pY, none⟩) n2D rcY) ∧ wr.cell? ⟨gD, pD + k * 3, none⟩ = some (.int .i32 R0) ∧ wr.cell? ⟨gD, pD + k * 3 + 1, none⟩ = some (.int .i64 B0) ∧ wr.cell? ⟨gD, pD + k * 3 + 2, none⟩ = some (.string H0) ∧ wr.cell? ⟨gX, pX + k * 3, none⟩ = some (.int .i32 R0) ∧ wr.cell? ⟨gX, pX + k * 3 + 1, none⟩ = some (.int .i64 B1) ∧ wr.cell? ⟨gX, pX + k * 3 + 2, none⟩ = some (.string H0) ∧ wr.cell? ⟨gY, pY + k * 3, none⟩ = some (.int .i32 R0) ∧ wr.cell? ⟨gY, pY + k * 3 + 1, none⟩ = some (.int .i64 B0) ∧ wr.cell? ⟨gY, pY + k * 3 + 2, none⟩ = some (.string H1) ∧ wr.cell? ⟨w.heap.size, 0, none⟩ = some (.int .i64 (al : Int)) ∧ wr.cell? ⟨w.heap.size, 1, none⟩ = some (.int .i64 (aa : Int)) ∧ wr.cell? ⟨w.heap.size + 1, 0, none⟩ = some (.int .i64 (bl : Int)) ∧ wr.cell? ⟨w.heap.size + 1, 1, none⟩ = some (.int .i64 (ba : Int))) := ⟨d3, x3, y3, z0D, z1D, z2D, z0X, z1X, z2X, z0Y, z1Y, z2Y, u0, u1, v0, v1⟩
          have KS3 : Hid (∀ w', Below wr.heap.size wr w' → (w'.cell? ⟨bD, oD + j * 4 + 3, none⟩ = some (.slice (some ⟨gD, pD, none⟩) n2D rcD) ∧ w'.cell? ⟨bX, oX + j * 4 + 3, none⟩ = some (.slice (some ⟨gX, pX, none⟩) n2D rcX) ∧ w'.cell? ⟨bY, oY + j * 4 + 3, none⟩ = some (.slice (some ⟨gY, pY, none⟩) n2D rcY) ∧ w'.cell? ⟨gD, pD + k * 3, none⟩ = some (.int .i32 R0) ∧ w'.cell? ⟨gD, pD + k * 3 + 1, none⟩ = some (.int .i64 B0) ∧ w'.cell? ⟨gD, pD + k * 3 + 2, none⟩ = some (.string H0) ∧ w'.cell? ⟨gX, pX + k * 3, none⟩ = some (.int .i32 R0) ∧ w'.cell? ⟨gX, pX + k * 3 + 1, none⟩ = some (.int .i64 B1) ∧ w'.cell? ⟨gX, pX + k * 3 + 2, none⟩ = some (.string H0) ∧ w'.cell? ⟨gY, pY + k * 3, none⟩ = some (.int .i32 R0) ∧ w'.cell? ⟨gY, pY + k * 3 + 1, none⟩ = some (.int .i64 B0) ∧ w'.cell? ⟨gY, pY + k * 3 + 2, none⟩ = some (.string H1) ∧ w'.cell? ⟨w.heap.size, 0, none⟩ = some (.int .i64 (al : Int)) ∧ w'.cell? ⟨w.heap.size, 1, none⟩ = some (.int .i64 (aa : Int)) ∧ w'.cell? ⟨w.heap.size + 1, 0, none⟩ = some (.int .i64 (bl : Int)) ∧ w'.cell? ⟨w.heap.size + 1, 1, none⟩ = some (.int .i64 (ba : Int)))) := Lib.hid (fun w' h => by
            obtain ⟨t0, t1, t2, t3, t4, t5, t6, t7, t8, t9, t10, t11, t12, t13, t14, t15⟩ := FA
            exact ⟨(h.cell (lt_of_cell' t0)).trans t0, (h.cell (lt_of_cell' t1)).trans t1, (h.cell (lt_of_cell' t2)).trans t2, (h.cell (lt_of_cell' t3)).trans t3, (h.cell (lt_of_cell' t4)).trans t4, (h.cell (lt_of_cell' t5)).trans t5, (h.cell (lt_of_cell' t6)).trans t6, (h.cell (lt_of_cell' t7)).trans t7, (h.cell (lt_of_cell' t8)).trans t8, (h.cell (lt_of_cell' t9)).trans t9, (h.cell (lt_of_cell' t10)).trans t10, (h.cell (lt_of_cell' t11)).trans t11, (h.cell (lt_of_cell' t12)).trans t12, (h.cell (lt_of_cell' t13)).trans t13, (h.cell (lt_of_cell' t14)).trans t14, (h.cell (lt_of_cell' t15)).trans t15⟩)
          have HB2s := HB2.out.size
          have hkI : (k : Int) < (n2D : Int) := by omega
          have hji2 : (j : Int) < (n : Int) := by omega
          clear d3 x3 y3 z0D z1D z2D z0X z1X z2X z0Y z1Y z2Y u0 u1 v0 v1 csD csX csY hbR RD RX RY
          obtain ⟨t0, t1, t2, t3, t4, t5, t6, t7, t8, t9, t10, t11, t12, t13, t14, t15⟩ := FA
          have HCASE := Lib.hid hcase
          clear hcase
          go_upto_region 19 with fail
          go_cut [18] (fun s wx => ∃ I, s = .bool I ∧ Hid ((I = false ∧ B1 = B0 ∧ H1 = H0) ∨ (I = true ∧ H1 = (⟨#[120]⟩ : ByteArray))) ∧ Hid (Below wr.heap.size wr wx))
          case first => as_aux_lemma =>
            rcases HCASE.out with ⟨h1, hz⟩ | ⟨h1, h2, hz⟩ | ⟨h1, h2, hz⟩
            · have HZ := Lib.hid hz
              clear hz
              have h3 : ¬ K1 ≤ 0 := by omega
              go_wp2_with (go_at_call 24; ((with_reducible refine (cKa _).mono ?_); rintro e w13 ⟨rfl, hk9⟩; have hal := (below_alloc1 wr _).trans (hk9.mono (by simp)); have PP := Lib.hid ((ps_new wr (j : Int) (k : Int)).below hk9); have KA := Lib.hid hal; clear t0 t1 t2 t3 t4 t5 t6 t7 t8 t9 t10 t11 t12 t13 t14 t15; obtain ⟨t0, t1, t2, t3, t4, t5, t6, t7, t8, t9, t10, t11, t12, t13, t14, t15⟩ := KS3.out _ hal; obtain ⟨_, s0, s1, _, _⟩ := PP.out; clear hk9 hal))
              go_meet
              exact ⟨false, rfl, Lib.hid (.inl ⟨rfl, HZ.out⟩), KA⟩
            · have HZ := Lib.hid hz
              clear hz
              have h3 : (0 : Int) ≤ K2 := by omega
              have h4 : decide (K2 < 0) = false := by simp; omega
              clear h2
              go_wp2_with (first
                | (go_at_call 24; ((with_reducible refine (cKa _).mono ?_); rintro e w13 ⟨rfl, hk9⟩; have hal := (below_alloc1 wr _).trans (hk9.mono (by simp)); have PP := Lib.hid ((ps_new wr (j : Int) (k : Int)).below hk9); have KA := Lib.hid hal; clear t0 t1 t2 t3 t4 t5 t6 t7 t8 t9 t10 t11 t12 t13 t14 t15; obtain ⟨t0, t1, t2, t3, t4, t5, t6, t7, t8, t9, t10, t11, t12, t13, t14, t15⟩ := KS3.out _ hal; obtain ⟨_, s0, s1, _, _⟩ := PP.out; clear hk9 hal))
                | (go_at_call 24; ((with_reducible refine (cKb _).mono ?_); rintro e w14 ⟨rfl, hk9⟩; have hal := KA.out.trans (hk9.mono KA.out.size); have KA2 := Lib.hid hal; clear t0 t1 t2 t3 t4 t5 t6 t7 t8 t9 t10 t11 t12 t13 t14 t15; obtain ⟨t0, t1, t2, t3, t4, t5, t6, t7, t8, t9, t10, t11, t12, t13, t14, t15⟩ := KS3.out _ hal; clear s0 s1 hk9 hal)))
              go_meet
              exact ⟨false, rfl, Lib.hid (.inl ⟨rfl, HZ.out⟩), KA2⟩
            · have HZ := Lib.hid hz
              clear hz
              go_wp2_with (first
                | (go_at_call 24; ((with_reducible refine (cKa _).mono ?_); rintro e w13 ⟨rfl, hk9⟩; have hal := (below_alloc1 wr _).trans (hk9.mono (by simp)); have PP := Lib.hid ((ps_new wr (j : Int) (k : Int)).below hk9); have KA := Lib.hid hal; clear t0 t1 t2 t3 t4 t5 t6 t7 t8 t9 t10 t11 t12 t13 t14 t15; obtain ⟨t0, t1, t2, t3, t4, t5, t6, t7, t8, t9, t10, t11, t12, t13, t14, t15⟩ := KS3.out _ hal; obtain ⟨_, s0, s1, _, _⟩ := PP.out; clear hk9 hal))
                | (go_at_call 24; ((with_reducible refine (cKb _).mono ?_); rintro e w14 ⟨rfl, hk9⟩; have hal := KA.out.trans (hk9.mono KA.out.size); have KA2 := Lib.hid hal; clear t0 t1 t2 t3 t4 t5 t6 t7 t8 t9 t10 t11 t12 t13 t14 t15; obtain ⟨t0, t1, t2, t3, t4, t5, t6, t7, t8, t9, t10, t11, t12, t13, t14, t15⟩ := KS3.out _ hal; clear s0 s1 hk9 hal)))
              go_meet
              exact ⟨true, rfl, Lib.hid (.inr ⟨rfl, HZ.out⟩), KA2⟩
          case rest =>
          obtain ⟨I, rfl, HI, HR⟩ := hcut
          clear t0 t1 t2 t3 t4 t5 t6 t7 t8 t9 t10 t11 t12 t13 t14 t15 HCASE
          have HRs := HR.out.size
          have KS4 : Hid (∀ w', Below wc.heap.size wc w' → (w'.cell? ⟨bD, oD + j * 4 + 3, none⟩ = some (.slice (some ⟨gD, pD, none⟩) n2D rcD) ∧ w'.cell? ⟨bX, oX + j * 4 + 3, none⟩ = some (.slice (some ⟨gX, pX, none⟩) n2D rcX) ∧ w'.cell? ⟨bY, oY + j * 4 + 3, none⟩ = some (.slice (some ⟨gY, pY, none⟩) n2D rcY) ∧ w'.cell? ⟨gD, pD + k * 3, none⟩ = some (.int .i32 R0) ∧ w'.cell? ⟨gD, pD + k * 3 + 1, none⟩ = some (.int .i64 B0) ∧ w'.cell? ⟨gD, pD + k * 3 + 2, none⟩ = some (.string H0) ∧ w'.cell? ⟨gX, pX + k * 3, none⟩ = some (.int .i32 R0) ∧ w'.cell? ⟨gX, pX + k * 3 + 1, none⟩ = some (.int .i64 B1) ∧ w'.cell? ⟨gX, pX + k * 3 + 2, none⟩ = some (.string H0) ∧ w'.cell? ⟨gY, pY + k * 3, none⟩ = some (.int .i32 R0) ∧ w'.cell? ⟨gY, pY + k * 3 + 1, none⟩ = some (.int .i64 B0) ∧ w'.cell? ⟨gY, pY + k * 3 + 2, none⟩ = some (.string H1))) := Lib.hid (fun w' h => by
            obtain ⟨t0, t1, t2, t3, t4, t5, t6, t7, t8, t9, t10, t11, t12, t13, t14, t15⟩ := KS3.out w' (HR.out.trans (h.mono HRs))
            exact ⟨t0, t1, t2, t3, t4, t5, t6, t7, t8, t9, t10, t11⟩)
          clear KS3
          have HBL := Lib.hid (HB2.out.trans (HR.out.mono HB2s))
          go_upto_region 20 with fail
          go_cut [19, 20, 21] (fun s1 s2 s3 wx => Three wc (R0, B0, H0) (R0, B1, H0) (R0, B0, H1) s1 s2 s3 wx)
          case first => as_aux_lemma =>
            have hS := KS4.out _ (Below.refl _ _)
            have hK : Hid (Below wc.heap.size wc wc) := Lib.hid (Below.refl _ _)
            go_region_held3 (fun w' => (w'.cell? ⟨bD, oD + j * 4 + 3, none⟩ = some (.slice (some ⟨gD, pD, none⟩) n2D rcD) ∧ w'.cell? ⟨bX, oX + j * 4 + 3, none⟩ = some (.slice (some ⟨gX, pX, none⟩) n2D rcX) ∧ w'.cell? ⟨bY, oY + j * 4 + 3, none⟩ = some (.slice (some ⟨gY, pY, none⟩) n2D rcY) ∧ w'.cell? ⟨gD, pD + k * 3, none⟩ = some (.int .i32 R0) ∧ w'.cell? ⟨gD, pD + k * 3 + 1, none⟩ = some (.int .i64 B0) ∧ w'.cell? ⟨gD, pD + k * 3 + 2, none⟩ = some (.string H0) ∧ w'.cell? ⟨gX, pX + k * 3, none⟩ = some (.int .i32 R0) ∧ w'.cell? ⟨gX, pX + k * 3 + 1, none⟩ = some (.int .i64 B1) ∧ w'.cell? ⟨gX, pX + k * 3 + 2, none⟩ = some (.string H0) ∧ w'.cell? ⟨gY, pY + k * 3, none⟩ = some (.int .i32 R0) ∧ w'.cell? ⟨gY, pY + k * 3 + 1, none⟩ = some (.int .i64 B0) ∧ w'.cell? ⟨gY, pY + k * 3 + 2, none⟩ = some (.string H1))) (first | (with_reducible exact hS) | (refine KS4.out _ ?_; (repeat (first | (with_reducible exact hK.out) | (with_reducible exact Below.refl _ _) | (with_reducible refine Below.drew ?_) | (with_reducible refine Below.alloc ?_ ?_ _) | omega | (simp <;> omega))); done)) (fail)
            all_goals go_wp2
            all_goals go_meet
            all_goals first | exact three_123 _ _ _ _ | exact three_132 _ _ _ _ | exact three_213 _ _ _ _ | exact three_231 _ _ _ _ | exact three_312 _ _ _ _ | exact three_321 _ _ _ _
          case rest =>
          obtain ⟨b1, b2, b3, rfl, rfl, rfl, ⟨a11, a12, a13⟩, ⟨a21, a22, a23⟩, ⟨a31, a32, a33⟩, HT⟩ := hcut
          have HBM := Lib.hid (HBL.out.trans (HT.mono HBL.out.size))
          clear HBL HT KS4
          rcases HI.out with ⟨rfl, hz1, hz2⟩ | ⟨rfl, hz1⟩
          · rw [hz1] at a22
            rw [hz2] at a33
            clear hz1 hz2 HI
            go_wp2
            go_roundw
            case rel => exact ⟨k + 1, hlt2, by go_num, HBM⟩
            case measure => simp [RowKit.intOf]; omega
          · rw [hz1] at a33
            clear hz1 HI
            go_wp2
            go_roundw
            case rel => exact ⟨k + 1, hlt2, by go_num, HBM⟩
            case measure => simp [RowKit.intOf]; omega
        · have hkn : k = n2D := by omega
          subst hkn
          have hbe := Lib.hid (HBc.out.trans (HB2.out.mono hwc))
          obtain ⟨_, _, _, d3, _, _, _, _, _⟩ := KSR.out wr (CK.out.trans (HB2.out.mono CK.out.size))
          have hji2 : (j : Int) < (n : Int) := by omega
          go_wp2
          go_roundw
          case rel => exact ⟨j + 1, by omega, by first | go_num | (simp; done) | omega, hbe⟩
          case measure => simp [RowKit.intOf]; omega
    · have hjn : j = n := by omega
      subst hjn
      as_aux_lemma =>
      have hb9 := Lib.hid (hb.out.trans (HB.out.mono hb.out.size))
      have hbs := hb9.out.size
      obtain ⟨_, u0, u1, _, _⟩ := H5.out.below HB.out
      obtain ⟨_, v0, v1, _, _⟩ := H6.out.below HB.out
      have spX : Span X al aa bl ba := by rw [← HXY.out.1]; exact turn_span HS.out.1
      have hf : Fine (pl rx) := by rw [QX.out]; exact HF.out.2.1
      have hmX : mayD (pl rx) = true := by rw [QX.out]; exact HMY.out.1
      have spr : Span (pl rx) al aa bl ba := by rw [QX.out]; exact spX
      have hsz := part_size spr hmX
      have hm4 := (mayD_len hmX).2.2
      have cC : ∀ w1, Below wr.heap.size wr w1 → _ := fun w1 h1 => rdcells_any _ rx (al : Int) (aa : Int) (bl : Int) (ba : Int) w1 ((BX.out.below HB.out).below h1) hf (by omega)
      have mR := cells_may spr hmX
      have fR := cells_fair spr hmX hf
      have nR : (cellsB (pl rx) ((al : Int), (aa : Int)) ((bl : Int), (ba : Int))).length ≤ 100000 := by unfold cellsB; rw [flatD_length]; omega
      obtain ⟨R, hR⟩ : ∃ R, cellsB (pl rx) ((al : Int), (aa : Int)) ((bl : Int), (ba : Int)) = R := ⟨_, rfl⟩
      rw [hR] at cC mR fR nR
      have cM : ∀ (vv : Value) w1, RowAt w1 vv R → Calls Tryz.prog 58 #[vv] w1 fun e w' => e = .returned (.bool true) ∧ Below w1.heap.size w1 w' := fun vv w1 h1 => by
        have := rmayRow_any vv R w1 h1 nR fR
        rw [mR] at this
        exact this
      have cA : ∀ w1, Below wr.heap.size wr w1 → _ := fun w1 h1 => awake_any w1 ((BE.out.below HB.out).below h1)
      unfold psV at cC
      dsimp only at cC
      have CM := Lib.hid cM
      clear spX hf hmX spr hsz hm4 mR fR nR hR cM cW hlt hj
      go_wp2_with (first
        | (go_at_call 49; ((with_reducible refine (cC _ (Below.refl _ _)).mono ?_); rintro e w20 ⟨vz, rfl, oz, hk⟩; have KK := Lib.hid hk; have OZ := Lib.hid oz; clear hk oz))
        | (go_at_call 58; ((with_reducible refine (CM.out _ _ (rowAt_of_own OZ.out)).mono ?_); rintro e w21 ⟨rfl, hk⟩; have KL := Lib.hid (KK.out.trans (hk.mono KK.out.size)); clear hk))
        | (go_at_call 11; ((with_reducible refine (cA _ KL.out).mono ?_); rintro e w22 ⟨rfl, hk⟩; have KM := Lib.hid (KL.out.trans (hk.mono KL.out.size)); clear hk)))
      go_ret
      exact ⟨rfl, hb9.out.trans (KM.out.mono hbs)⟩

end Go.Proofs.YtafincmcmgedbaaGreatDoor
