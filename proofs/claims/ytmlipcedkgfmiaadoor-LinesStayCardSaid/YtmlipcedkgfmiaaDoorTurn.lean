/-
  turn: what one of the calls makes of a line.
-/
import Derived.Test.YtmlipcedkgfmiaaDoorTop
import Derived.Test.YtmlipcedkgfmiaaDoorPure
namespace Go.Proofs.YtmlipcedkgfmiaaDoor
open Go.RowKit Go.Lib

theorem mayS_F {q k : Int} {ls : IRow} {cs : Row} : mayS ⟨q, ls, k, cs⟩ = (mayF q ls k && mayR cs) := rfl
def TurnPost (L : Ln) (w : World) (e : Ending) (w' : World) : Prop := ∃ R : Int × Ln, TurnOk L R ∧ AskPost R w e w'
theorem turn_opS {L : Ln} {f : Ln → Int × Ln} (hM : mayS L = true) (h : TurnOk L (f L)) : TurnOk L (opS f L) := by
  unfold opS; rw [if_pos hM]; exact h

set_option maxRecDepth 20000 in
set_option maxHeartbeats 16000000 in
theorem turn_any (q k z kind : Int) (sl sc : Value) (ls : IRow) (cs : Row) (w : World) (h : LnAt w sl sc ls cs) (hls : ls.length ≤ 50000) (hcs : cs.length ≤ 50000) (hf : Fair cs) (hE : Tg.Env w) (hM : mayS ⟨q, ls, k, cs⟩ = true) :
    Calls Tryd.prog 34 #[.agg #[.int .i64 q, sl, .int .i64 k, sc], .int .i64 z, .int .i64 kind] w (TurnPost ⟨q, ls, k, cs⟩ w) := by
  obtain ⟨a1, c1, rfl⟩ := h.z.len
  obtain ⟨a2, c2, rfl⟩ := h.r.len
  have hm : mayF q ls k = true := by rw [mayS_F, Bool.and_eq_true] at hM; exact hM.1
  have HX := Lib.hid (box_two w q k 0 0 (.slice a1 ls.length c1) (.slice a2 cs.length c2) (.slice none 0 0) (.slice none 0 0))
  have cP0 : ∀ w1, Below w.heap.size w w1 → Calls Tryd.prog 24 #[.agg #[.int .i64 q, .slice a1 ls.length c1, .int .i64 k, .slice a2 cs.length c2]] w1 (AskPost (opS indentS ⟨q, ls, k, cs⟩) w1) := fun w1 h1 => Indent_any q k _ _ ls cs w1 (h.below h1) hls hcs hf (hE.below h1)
  have tk0 : TurnOk ⟨q, ls, k, cs⟩ (opS indentS ⟨q, ls, k, cs⟩) := turn_opS hM (indent_ok _ hm)
  obtain ⟨R0, hR0⟩ : ∃ R, opS indentS ⟨q, ls, k, cs⟩ = R := ⟨_, rfl⟩
  rw [hR0] at cP0 tk0
  obtain ⟨er0, q10, ls0, k10, cs0⟩ := R0
  have T0 := Lib.hid tk0
  clear tk0 hR0
  have cP1 : ∀ w1, Below w.heap.size w w1 → Calls Tryd.prog 26 #[.agg #[.int .i64 q, .slice a1 ls.length c1, .int .i64 k, .slice a2 cs.length c2]] w1 (AskPost (opS outdentS ⟨q, ls, k, cs⟩) w1) := fun w1 h1 => Outdent_any q k _ _ ls cs w1 (h.below h1) hls hcs hf (hE.below h1)
  have tk1 : TurnOk ⟨q, ls, k, cs⟩ (opS outdentS ⟨q, ls, k, cs⟩) := turn_opS hM (outdent_ok _ hm)
  obtain ⟨R1, hR1⟩ : ∃ R, opS outdentS ⟨q, ls, k, cs⟩ = R := ⟨_, rfl⟩
  rw [hR1] at cP1 tk1
  obtain ⟨er1, q11, ls1, k11, cs1⟩ := R1
  have T1 := Lib.hid tk1
  clear tk1 hR1
  have cP2 : ∀ w1, Below w.heap.size w w1 → Calls Tryd.prog 28 #[.agg #[.int .i64 q, .slice a1 ls.length c1, .int .i64 k, .slice a2 cs.length c2], .int .i64 kind] w1 (AskPost (opS (listK kind) ⟨q, ls, k, cs⟩) w1) := fun w1 h1 => List_any q k kind _ _ ls cs w1 (h.below h1) hls hcs hf (hE.below h1)
  have tk2 : TurnOk ⟨q, ls, k, cs⟩ (opS (listK kind) ⟨q, ls, k, cs⟩) := turn_opS hM (by
    unfold listK
    split
    · rename_i hk; exact list_ok _ kind hm hk
    · exact .inr (.inr rfl))
  obtain ⟨R2, hR2⟩ : ∃ R, opS (listK kind) ⟨q, ls, k, cs⟩ = R := ⟨_, rfl⟩
  rw [hR2] at cP2 tk2
  obtain ⟨er2, q12, ls2, k12, cs2⟩ := R2
  have T2 := Lib.hid tk2
  clear tk2 hR2
  have cP3 : ∀ w1, Below w.heap.size w w1 → Calls Tryd.prog 30 #[.agg #[.int .i64 q, .slice a1 ls.length c1, .int .i64 k, .slice a2 cs.length c2], .int .i64 kind] w1 (AskPost (opS (formatK kind) ⟨q, ls, k, cs⟩) w1) := fun w1 h1 => Format_any q k kind _ _ ls cs w1 (h.below h1) hls hcs hf (hE.below h1)
  have tk3 : TurnOk ⟨q, ls, k, cs⟩ (opS (formatK kind) ⟨q, ls, k, cs⟩) := turn_opS hM (by
    unfold formatK
    split
    · rename_i hk; exact format_ok _ kind hm hk
    · exact .inr (.inr rfl))
  obtain ⟨R3, hR3⟩ : ∃ R, opS (formatK kind) ⟨q, ls, k, cs⟩ = R := ⟨_, rfl⟩
  rw [hR3] at cP3 tk3
  obtain ⟨er3, q13, ls3, k13, cs3⟩ := R3
  have T3 := Lib.hid tk3
  clear tk3 hR3
  have cP4 : ∀ w1, Below w.heap.size w w1 → Calls Tryd.prog 32 #[.agg #[.int .i64 q, .slice a1 ls.length c1, .int .i64 k, .slice a2 cs.length c2]] w1 (AskPost (opS freeS ⟨q, ls, k, cs⟩) w1) := fun w1 h1 => Free_any q k _ _ ls cs w1 (h.below h1) hls hcs hf (hE.below h1)
  have tk4 : TurnOk ⟨q, ls, k, cs⟩ (opS freeS ⟨q, ls, k, cs⟩) := turn_opS hM (free_ok _ hm)
  obtain ⟨R4, hR4⟩ : ∃ R, opS freeS ⟨q, ls, k, cs⟩ = R := ⟨_, rfl⟩
  rw [hR4] at cP4 tk4
  obtain ⟨er4, q14, ls4, k14, cs4⟩ := R4
  have T4 := Lib.hid tk4
  clear tk4 hR4
  obtain ⟨n1, hn1⟩ : ∃ n, ls.length = n := ⟨_, rfl⟩
  obtain ⟨n2, hn2⟩ : ∃ n, cs.length = n := ⟨_, rfl⟩
  rw [hn1, hn2] at cP0 cP1 cP2 cP3 cP4 HX ⊢
  have hu : w.heap.size < w.heap.size + 1 := by omega
  clear h hls hcs hf hE hM hm hn1 hn2
  go_enter Tryd.func34, Tryd.ntmps34
  go_wp2_with (first
    | (go_at_call 24; ((with_reducible refine (cP0 _ HX.out.1).mono ?_); rintro e w1 ⟨sl3, sc3, rfl, hm, hb⟩; dsimp only at hm; obtain ⟨a5, c5, e5⟩ := hm.z.here.len; obtain ⟨a6, c6, e6⟩ := hm.r.here.len; subst e5 e6; have HM := Lib.hid hm; have hsW := HX.out.1.size; have hb0 := Lib.hid (HX.out.1.trans (hb.mono hsW)); have B1 := HX.out.2.2; have hl1 := B1.lt; obtain ⟨_, u0, u1, u2, u3, v0, v1, v2, v3⟩ := B1.below hb; clear hm hb B1))
    | (go_at_call 26; ((with_reducible refine (cP1 _ HX.out.1).mono ?_); rintro e w1 ⟨sl3, sc3, rfl, hm, hb⟩; dsimp only at hm; obtain ⟨a5, c5, e5⟩ := hm.z.here.len; obtain ⟨a6, c6, e6⟩ := hm.r.here.len; subst e5 e6; have HM := Lib.hid hm; have hsW := HX.out.1.size; have hb0 := Lib.hid (HX.out.1.trans (hb.mono hsW)); have B1 := HX.out.2.2; have hl1 := B1.lt; obtain ⟨_, u0, u1, u2, u3, v0, v1, v2, v3⟩ := B1.below hb; clear hm hb B1))
    | (go_at_call 28; ((with_reducible refine (cP2 _ HX.out.1).mono ?_); rintro e w1 ⟨sl3, sc3, rfl, hm, hb⟩; dsimp only at hm; obtain ⟨a5, c5, e5⟩ := hm.z.here.len; obtain ⟨a6, c6, e6⟩ := hm.r.here.len; subst e5 e6; have HM := Lib.hid hm; have hsW := HX.out.1.size; have hb0 := Lib.hid (HX.out.1.trans (hb.mono hsW)); have B1 := HX.out.2.2; have hl1 := B1.lt; obtain ⟨_, u0, u1, u2, u3, v0, v1, v2, v3⟩ := B1.below hb; clear hm hb B1))
    | (go_at_call 30; ((with_reducible refine (cP3 _ HX.out.1).mono ?_); rintro e w1 ⟨sl3, sc3, rfl, hm, hb⟩; dsimp only at hm; obtain ⟨a5, c5, e5⟩ := hm.z.here.len; obtain ⟨a6, c6, e6⟩ := hm.r.here.len; subst e5 e6; have HM := Lib.hid hm; have hsW := HX.out.1.size; have hb0 := Lib.hid (HX.out.1.trans (hb.mono hsW)); have B1 := HX.out.2.2; have hl1 := B1.lt; obtain ⟨_, u0, u1, u2, u3, v0, v1, v2, v3⟩ := B1.below hb; clear hm hb B1))
    | (go_at_call 32; ((with_reducible refine (cP4 _ HX.out.1).mono ?_); rintro e w1 ⟨sl3, sc3, rfl, hm, hb⟩; dsimp only at hm; obtain ⟨a5, c5, e5⟩ := hm.z.here.len; obtain ⟨a6, c6, e6⟩ := hm.r.here.len; subst e5 e6; have HM := Lib.hid hm; have hsW := HX.out.1.size; have hb0 := Lib.hid (HX.out.1.trans (hb.mono hsW)); have B1 := HX.out.2.2; have hl1 := B1.lt; obtain ⟨_, u0, u1, u2, u3, v0, v1, v2, v3⟩ := B1.below hb; clear hm hb B1)))
  all_goals first
    | exact bodyPost_ret (v := .tuple #[.agg #[.int .i64 q10, .slice a5 ls0.length c5, .int .i64 k10, .slice a6 cs0.length c6], .int .i64 er0]) (by simp [results, Tryd.results34, go_sem, *]) rfl ⟨_, T0.out, _, _, rfl, mine_put4 HM.out (Nat.le_refl _) hsW hl1, put4_below hb0.out (Nat.le_of_lt hu)⟩
    | exact bodyPost_ret (v := .tuple #[.agg #[.int .i64 q11, .slice a5 ls1.length c5, .int .i64 k11, .slice a6 cs1.length c6], .int .i64 er1]) (by simp [results, Tryd.results34, go_sem, *]) rfl ⟨_, T1.out, _, _, rfl, mine_put4 HM.out (Nat.le_refl _) hsW hl1, put4_below hb0.out (Nat.le_of_lt hu)⟩
    | exact bodyPost_ret (v := .tuple #[.agg #[.int .i64 q12, .slice a5 ls2.length c5, .int .i64 k12, .slice a6 cs2.length c6], .int .i64 er2]) (by simp [results, Tryd.results34, go_sem, *]) rfl ⟨_, T2.out, _, _, rfl, mine_put4 HM.out (Nat.le_refl _) hsW hl1, put4_below hb0.out (Nat.le_of_lt hu)⟩
    | exact bodyPost_ret (v := .tuple #[.agg #[.int .i64 q13, .slice a5 ls3.length c5, .int .i64 k13, .slice a6 cs3.length c6], .int .i64 er3]) (by simp [results, Tryd.results34, go_sem, *]) rfl ⟨_, T3.out, _, _, rfl, mine_put4 HM.out (Nat.le_refl _) hsW hl1, put4_below hb0.out (Nat.le_of_lt hu)⟩
    | exact bodyPost_ret (v := .tuple #[.agg #[.int .i64 q14, .slice a5 ls4.length c5, .int .i64 k14, .slice a6 cs4.length c6], .int .i64 er4]) (by simp [results, Tryd.results34, go_sem, *]) rfl ⟨_, T4.out, _, _, rfl, mine_put4 HM.out (Nat.le_refl _) hsW hl1, put4_below hb0.out (Nat.le_of_lt hu)⟩

end Go.Proofs.YtmlipcedkgfmiaaDoor
