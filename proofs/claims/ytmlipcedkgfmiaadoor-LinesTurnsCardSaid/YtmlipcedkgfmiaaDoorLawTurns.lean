/-
  The law of Indent, Outdent, List, Format, Free.
-/
import Derived.Test.YtmlipcedkgfmiaaDoorAwakeL
import Derived.Test.YtmlipcedkgfmiaaDoorLongL
import Derived.Test.YtmlipcedkgfmiaaDoorIs
import Derived.Test.YtmlipcedkgfmiaaDoorDocOpsC
namespace Go.Proofs.YtmlipcedkgfmiaaDoor
open Go.RowKit Go.Lib

/-- Ahead of each act: the line, its copy, two boxes. -/
structure InvT (w w2 : World) (p6 p8 : Nat) (q k : Int) (sl sc sl' sc' : Value) (wx : World) : Prop where
  b2 : BoxAt wx w.heap.size q sl k sc
  b5 : BoxAt wx w2.heap.size q sl' k sc'
  b6 : ∃ q s k c, BoxAt wx p6 q s k c
  b8 : ∃ q s k c, BoxAt wx p8 q s k c
  hb : Below w.heap.size w wx
  hr : Below w2.heap.size w2 wx
theorem twixt_inv {B C : Nat} {w wx wy : World} (hT : Twixt B C wx wy) (hb : Below w.heap.size w wx) (hB : w.heap.size ≤ B) (hBx : B ≤ wx.heap.size) : Below w.heap.size w wy := hb.trans ((hT.below hBx).mono hB)
theorem ops_len {L : Ln} {R : Int × Ln} (h : R.2.ls.length ≤ L.ls.length + 1 ∧ R.2.cs.length ≤ L.cs.length) (h1 : L.ls.length ≤ 1000) (h2 : L.cs.length ≤ 20000) : R.2.ls.length ≤ 50000 ∧ R.2.cs.length ≤ 50000 := by omega
theorem opS_len {f : Ln → Int × Ln} {L : Ln} (h : (f L).2.ls.length ≤ L.ls.length + 1 ∧ (f L).2.cs.length ≤ L.cs.length) : (opS f L).2.ls.length ≤ L.ls.length + 1 ∧ (opS f L).2.cs.length ≤ L.cs.length := by
  unfold opS
  split
  · exact h
  · exact ⟨Nat.zero_le _, Nat.zero_le _⟩
theorem indentS_len (L : Ln) : (indentS L).2.ls.length ≤ L.ls.length + 1 ∧ (indentS L).2.cs.length ≤ L.cs.length := by
  unfold indentS; split <;> (try split) <;> simp [ln0]
theorem outdentS_len (L : Ln) : (outdentS L).2.ls.length ≤ L.ls.length + 1 ∧ (outdentS L).2.cs.length ≤ L.cs.length := by
  unfold outdentS; split <;> (try split) <;> simp [ln0] <;> omega
theorem listK_len (kind : Int) (L : Ln) : (listK kind L).2.ls.length ≤ L.ls.length + 1 ∧ (listK kind L).2.cs.length ≤ L.cs.length := by
  unfold listK listS; split <;> (try split) <;> (try split) <;> simp [ln0]
theorem formatK_len (kind : Int) (L : Ln) : (formatK kind L).2.ls.length ≤ L.ls.length + 1 ∧ (formatK kind L).2.cs.length ≤ L.cs.length := by
  unfold formatK formatS; split <;> (try split) <;> simp [ln0]
theorem freeS_len (L : Ln) : (freeS L).2.ls.length ≤ L.ls.length + 1 ∧ (freeS L).2.cs.length ≤ L.cs.length := by
  unfold freeS; split
  · exact outdentS_len L
  · simp
theorem Twixt.cells {B C : Nat} {w w' : World} (h : Twixt B C w w') {b : Nat} {q k : Int} {s c : Value} (hx : BoxAt w b q s k c) (hb : b < B ∨ C ≤ b) : BoxAt w' b q s k c := by
  have e := h.block b hx.lt hb
  obtain ⟨lt, c0, c1, c2, c3, f0, f1, f2, f3⟩ := hx
  exact ⟨Nat.lt_of_lt_of_le lt h.size, (World.cell?_of_block (w := w) (a := ⟨b, 0, none⟩) e).trans c0, (World.cell?_of_block (w := w) (a := ⟨b, 1, none⟩) e).trans c1, (World.cell?_of_block (w := w) (a := ⟨b, 2, none⟩) e).trans c2, (World.cell?_of_block (w := w) (a := ⟨b, 3, none⟩) e).trans c3,
    (World.frozen?_of_block (w := w) (a := ⟨b, 0, none⟩) e).trans f0, (World.frozen?_of_block (w := w) (a := ⟨b, 1, none⟩) e).trans f1, (World.frozen?_of_block (w := w) (a := ⟨b, 2, none⟩) e).trans f2, (World.frozen?_of_block (w := w) (a := ⟨b, 3, none⟩) e).trans f3⟩

set_option maxRecDepth 20000 in
set_option maxHeartbeats 16000000 in
theorem lawTurns_walk (q k kind : Int) (sl sc : Value) (ls : IRow) (cs : Row) (w : World) (hE : Tg.Env w) (h : LnAt w sl sc ls cs) (hs : Sized cs) :
    Calls Tryd.prog 5 #[.agg #[.int .i64 q, sl, .int .i64 k, sc], .int .i64 kind] w fun e w' => e = .returned (.bool true) ∧ Below w.heap.size w w' := by
  obtain ⟨a1, c1, rfl⟩ := h.z.len
  obtain ⟨a2, c2, rfl⟩ := h.r.len
  have haw := awake_any
  have hbx := box_new w q k (.slice a1 ls.length c1) (.slice a2 cs.length c2)
  have ba : Below w.heap.size w (w.alloc (.cells #[.int .i64 q, .slice a1 ls.length c1, .int .i64 k, .slice a2 cs.length c2] 25)) := (Below.refl _ w).alloc (Nat.le_refl _) _
  have cL := long_any q k _ _ ls cs _ (h.below ba) hs
  cases hlong : longL ⟨q, ls, k, cs⟩ with
  | true =>
    rw [hlong] at cL
    have HA := Lib.hid ba
    have HE := Lib.hid hE
    clear h hs hE hlong hbx ba
    go_enter Tryd.func5, Tryd.ntmps5
    go_wp2_with (first
      | (go_at_call 9; ((with_reducible refine cL.mono ?_); rintro e w1 ⟨rfl, hb⟩; have bW := Lib.hid (HA.out.trans (hb.mono (by simp))); clear hb))
      | (go_at_call 10; ((with_reducible refine (haw _ (HE.out.below bW.out)).mono ?_); rintro e w2 ⟨rfl, hb⟩; have bW2 := Lib.hid (bW.out.trans (hb.mono bW.out.size)); clear hb)))
    go_ret
    exact ⟨rfl, bW2.out⟩
  | false =>
    rw [hlong] at cL
    obtain ⟨hcs, hls, hf⟩ := longL_false hlong
    have cO : ∀ w1, LnAt w1 (.slice a1 ls.length c1) (.slice a2 cs.length c2) ls cs → Calls Tryd.prog 11 #[.agg #[.int .i64 q, .slice a1 ls.length c1, .int .i64 k, .slice a2 cs.length c2]] w1 fun e w' => ∃ sl' sc', e = .returned (.agg #[.int .i64 q, sl', .int .i64 k, sc']) ∧ OwnLn w1.heap.size w' sl' sc' ls cs ∧ Below w1.heap.size w1 w' := fun w1 h1 => rlown_any q k _ _ ls cs w1 h1 (by omega) (by omega)
    have cS : ∀ (s1 s2 : Value) w1, LnAt w1 (.slice a1 ls.length c1) (.slice a2 cs.length c2) ls cs → LnAt w1 s1 s2 ls cs → Calls Tryd.prog 15 #[.agg #[.int .i64 q, .slice a1 ls.length c1, .int .i64 k, .slice a2 cs.length c2], .agg #[.int .i64 q, s1, .int .i64 k, s2]] w1 fun e w' => e = .returned (.bool true) ∧ Below w1.heap.size w1 w' := fun s1 s2 w1 h1 h2 => by
      have h := rlsame_any q k q k _ _ s1 s2 ls ls cs cs w1 h1 h2 (by omega) (by omega)
      rwa [show sameL ⟨q, ls, k, cs⟩ ⟨q, ls, k, cs⟩ = true from decide_eq_true ⟨rfl, rfl, rfl, rfl⟩] at h
    have cP0 : ∀ w1, LnAt w1 (.slice a1 ls.length c1) (.slice a2 cs.length c2) ls cs → Tg.Env w1 → Calls Tryd.prog 24 #[.agg #[.int .i64 q, .slice a1 ls.length c1, .int .i64 k, .slice a2 cs.length c2]] w1 (AskPost (opS indentS ⟨q, ls, k, cs⟩) w1) := fun w1 h1 h2 => Indent_any q k _ _ ls cs w1 h1 (by omega) (by omega) hf h2
    have cD0 : ∀ (s1 s2 : Value) w1, LnAt w1 s1 s2 ls cs → Calls Tryd.prog 25 #[.agg #[.int .i64 q, s1, .int .i64 k, s2]] w1 (DocPost (opS indentS ⟨q, ls, k, cs⟩) w1) := fun s1 s2 w1 h1 => Indent_doc q k s1 s2 ls cs w1 h1 (by omega) (by omega) hf
    have hl0 := ops_len (L := ⟨q, ls, k, cs⟩) (R := opS indentS ⟨q, ls, k, cs⟩) (by exact opS_len (indentS_len _)) hls hcs
    obtain ⟨R0, hR0⟩ : ∃ R, opS indentS ⟨q, ls, k, cs⟩ = R := ⟨_, rfl⟩
    rw [hR0] at cP0 cD0 hl0
    obtain ⟨er0, q10, ls0, k10, cs0⟩ := R0
    obtain ⟨lz0, lc0⟩ := hl0
    dsimp only at lz0 lc0
    have cP1 : ∀ w1, LnAt w1 (.slice a1 ls.length c1) (.slice a2 cs.length c2) ls cs → Tg.Env w1 → Calls Tryd.prog 26 #[.agg #[.int .i64 q, .slice a1 ls.length c1, .int .i64 k, .slice a2 cs.length c2]] w1 (AskPost (opS outdentS ⟨q, ls, k, cs⟩) w1) := fun w1 h1 h2 => Outdent_any q k _ _ ls cs w1 h1 (by omega) (by omega) hf h2
    have cD1 : ∀ (s1 s2 : Value) w1, LnAt w1 s1 s2 ls cs → Calls Tryd.prog 27 #[.agg #[.int .i64 q, s1, .int .i64 k, s2]] w1 (DocPost (opS outdentS ⟨q, ls, k, cs⟩) w1) := fun s1 s2 w1 h1 => Outdent_doc q k s1 s2 ls cs w1 h1 (by omega) (by omega) hf
    have hl1 := ops_len (L := ⟨q, ls, k, cs⟩) (R := opS outdentS ⟨q, ls, k, cs⟩) (by exact opS_len (outdentS_len _)) hls hcs
    obtain ⟨R1, hR1⟩ : ∃ R, opS outdentS ⟨q, ls, k, cs⟩ = R := ⟨_, rfl⟩
    rw [hR1] at cP1 cD1 hl1
    obtain ⟨er1, q11, ls1, k11, cs1⟩ := R1
    obtain ⟨lz1, lc1⟩ := hl1
    dsimp only at lz1 lc1
    have cP2 : ∀ w1, LnAt w1 (.slice a1 ls.length c1) (.slice a2 cs.length c2) ls cs → Tg.Env w1 → Calls Tryd.prog 28 #[.agg #[.int .i64 q, .slice a1 ls.length c1, .int .i64 k, .slice a2 cs.length c2], .int .i64 kind] w1 (AskPost (opS (listK kind) ⟨q, ls, k, cs⟩) w1) := fun w1 h1 h2 => List_any q k kind _ _ ls cs w1 h1 (by omega) (by omega) hf h2
    have cD2 : ∀ (s1 s2 : Value) w1, LnAt w1 s1 s2 ls cs → Calls Tryd.prog 29 #[.agg #[.int .i64 q, s1, .int .i64 k, s2], .int .i64 kind] w1 (DocPost (opS (listK kind) ⟨q, ls, k, cs⟩) w1) := fun s1 s2 w1 h1 => List_doc q k kind s1 s2 ls cs w1 h1 (by omega) (by omega) hf
    have hl2 := ops_len (L := ⟨q, ls, k, cs⟩) (R := opS (listK kind) ⟨q, ls, k, cs⟩) (by exact opS_len (listK_len kind _)) hls hcs
    obtain ⟨R2, hR2⟩ : ∃ R, opS (listK kind) ⟨q, ls, k, cs⟩ = R := ⟨_, rfl⟩
    rw [hR2] at cP2 cD2 hl2
    obtain ⟨er2, q12, ls2, k12, cs2⟩ := R2
    obtain ⟨lz2, lc2⟩ := hl2
    dsimp only at lz2 lc2
    have cP3 : ∀ w1, LnAt w1 (.slice a1 ls.length c1) (.slice a2 cs.length c2) ls cs → Tg.Env w1 → Calls Tryd.prog 30 #[.agg #[.int .i64 q, .slice a1 ls.length c1, .int .i64 k, .slice a2 cs.length c2], .int .i64 kind] w1 (AskPost (opS (formatK kind) ⟨q, ls, k, cs⟩) w1) := fun w1 h1 h2 => Format_any q k kind _ _ ls cs w1 h1 (by omega) (by omega) hf h2
    have cD3 : ∀ (s1 s2 : Value) w1, LnAt w1 s1 s2 ls cs → Calls Tryd.prog 31 #[.agg #[.int .i64 q, s1, .int .i64 k, s2], .int .i64 kind] w1 (DocPost (opS (formatK kind) ⟨q, ls, k, cs⟩) w1) := fun s1 s2 w1 h1 => Format_doc q k kind s1 s2 ls cs w1 h1 (by omega) (by omega) hf
    have hl3 := ops_len (L := ⟨q, ls, k, cs⟩) (R := opS (formatK kind) ⟨q, ls, k, cs⟩) (by exact opS_len (formatK_len kind _)) hls hcs
    obtain ⟨R3, hR3⟩ : ∃ R, opS (formatK kind) ⟨q, ls, k, cs⟩ = R := ⟨_, rfl⟩
    rw [hR3] at cP3 cD3 hl3
    obtain ⟨er3, q13, ls3, k13, cs3⟩ := R3
    obtain ⟨lz3, lc3⟩ := hl3
    dsimp only at lz3 lc3
    have cP4 : ∀ w1, LnAt w1 (.slice a1 ls.length c1) (.slice a2 cs.length c2) ls cs → Tg.Env w1 → Calls Tryd.prog 32 #[.agg #[.int .i64 q, .slice a1 ls.length c1, .int .i64 k, .slice a2 cs.length c2]] w1 (AskPost (opS freeS ⟨q, ls, k, cs⟩) w1) := fun w1 h1 h2 => Free_any q k _ _ ls cs w1 h1 (by omega) (by omega) hf h2
    have cD4 : ∀ (s1 s2 : Value) w1, LnAt w1 s1 s2 ls cs → Calls Tryd.prog 33 #[.agg #[.int .i64 q, s1, .int .i64 k, s2]] w1 (DocPost (opS freeS ⟨q, ls, k, cs⟩) w1) := fun s1 s2 w1 h1 => Free_doc q k s1 s2 ls cs w1 h1 (by omega) (by omega) hf
    have hl4 := ops_len (L := ⟨q, ls, k, cs⟩) (R := opS freeS ⟨q, ls, k, cs⟩) (by exact opS_len (freeS_len _)) hls hcs
    obtain ⟨R4, hR4⟩ : ∃ R, opS freeS ⟨q, ls, k, cs⟩ = R := ⟨_, rfl⟩
    rw [hR4] at cP4 cD4 hl4
    obtain ⟨er4, q14, ls4, k14, cs4⟩ := R4
    obtain ⟨lz4, lc4⟩ := hl4
    dsimp only at lz4 lc4
    obtain ⟨n1, hn1⟩ : ∃ n, ls.length = n := ⟨_, rfl⟩
    obtain ⟨n2, hn2⟩ : ∃ n, cs.length = n := ⟨_, rfl⟩
    rw [hn1] at cL cO cS cP0 cP1 cP2 cP3 cP4 hbx ba h ⊢
    rw [hn2] at cL cO cS cP0 cP1 cP2 cP3 cP4 hbx ba h ⊢
    have N1 := Lib.hid hn1
    have N2 := Lib.hid hn2
    have HL := Lib.hid h
    have HE := Lib.hid hE
    have HB := Lib.hid hbx
    have HA := Lib.hid ba
    clear h hs hE hlong hbx ba hn1 hn2 hcs hls hf hR0 hR1 hR2 hR3 hR4
    go_enter Tryd.func5, Tryd.ntmps5
    go_upto_if 30 with (first
      | (go_at_call 9; ((with_reducible refine cL.mono ?_); rintro e w1 ⟨rfl, hb⟩; have bW := Lib.hid (HA.out.trans (hb.mono (by simp))); have B1 := Lib.hid (HB.out.below hb); obtain ⟨_, x0, x1, x2, x3, _, _, _, _⟩ := B1.out; clear hb))
      | (go_at_call 11; ((with_reducible refine (cO _ (HL.out.below bW.out)).mono ?_); rintro e w2 ⟨sl', sc', rfl, ho, hb⟩; have bW2 := Lib.hid (bW.out.trans (hb.mono bW.out.size)); have B2 := Lib.hid (B1.out.below hb); clear x0 x1 x2 x3; obtain ⟨a3, c3, e3⟩ := own_len ho.1; obtain ⟨a4, c4, e4⟩ := own_len ho.2; rw [N1.out] at e3; rw [N2.out] at e4; subst e3 e4; have HO := Lib.hid (lnAt_of_own ho); have hs2 : w.heap.size < w2.heap.size := B2.out.lt; have hn2 : w.heap.size ≠ w2.heap.size := Nat.ne_of_lt hs2; obtain ⟨_, x0, x1, x2, x3, _, _, _, _⟩ := B2.out; have A2 := Lib.hid ((Below.refl w2.heap.size w2).alloc (Nat.le_refl _) (.cells #[.int .i64 q, .slice a3 n1 c3, .int .i64 k, .slice a4 n2 c4] 25)); have B5 := Lib.hid (box_new w2 q k (.slice a3 n1 c3) (.slice a4 n2 c4)); have B2' := Lib.hid (B2.out.below A2.out); clear hb ho))
      | (go_at_call 24; ((with_reducible refine (cP0 _ (HL.out.below (bW2.out.alloc bW2.out.size _)) (HE.out.below (bW2.out.alloc bW2.out.size _))).mono ?_); rintro e w3 ⟨s3, d3, rfl, m3, hb⟩; dsimp only at m3; obtain ⟨b1, g1, e1⟩ := m3.z.here.len; obtain ⟨b2, g2, e2⟩ := m3.r.here.len; subst e1 e2; have M3 := Lib.hid m3; have hs3 := hb.size; have bW3 := Lib.hid ((bW2.out.alloc bW2.out.size _).trans (hb.mono (bW2.out.alloc bW2.out.size (.cells #[.int .i64 q, .slice a3 n1 c3, .int .i64 k, .slice a4 n2 c4] 25)).size)); have bR3 := Lib.hid (A2.out.trans (hb.mono A2.out.size)); have X3 := Lib.hid (B2'.out.below hb); have Y3 := Lib.hid (B5.out.below hb); clear x0 x1 x2 x3; obtain ⟨_, x0, x1, x2, x3, _, _, _, _⟩ := X3.out; obtain ⟨hs4, y0, y1, y2, y3, _, _, _, _⟩ := Y3.out; have A3 := Lib.hid ((Below.refl w3.heap.size w3).alloc (Nat.le_refl _) (.cells #[.int .i64 q10, .slice b1 ls0.length g1, .int .i64 k10, .slice b2 cs0.length g2] 25)); have B6 := Lib.hid (box_new w3 q10 k10 (.slice b1 ls0.length g1) (.slice b2 cs0.length g2)); clear hb m3))
      | (go_at_call 25; ((with_reducible refine (cD0 _ _ _ (HO.out.below (bR3.out.alloc bR3.out.size _))).mono ?_); rintro e w4 ⟨s4, d4, rfl, o4, hb⟩; dsimp only at o4; obtain ⟨b3, g3, e3⟩ := own_len o4.1; obtain ⟨b4, g4, e4⟩ := own_len o4.2; subst e3 e4; have O4 := Lib.hid o4; have h34 := Lib.hid (A3.out.trans (hb.mono A3.out.size)); have bW4 := Lib.hid (bW3.out.trans (h34.out.mono bW3.out.size)); have bR4 := Lib.hid (bR3.out.trans (h34.out.mono bR3.out.size)); have X4 := Lib.hid (X3.out.below h34.out); have Y4 := Lib.hid (Y3.out.below h34.out); have Z4 := Lib.hid (B6.out.below hb); clear x0 x1 x2 x3 y0 y1 y2 y3; have hs5 := Z4.out.lt; have A4 := Lib.hid ((Below.refl w4.heap.size w4).alloc (Nat.le_refl _) (.cells #[.int .i64 q10, .slice b3 ls0.length g3, .int .i64 k10, .slice b4 cs0.length g4] 25)); have B8 := Lib.hid (box_new w4 q10 k10 (.slice b3 ls0.length g3) (.slice b4 cs0.length g4)); have Z5 := Lib.hid (Z4.out.below A4.out); obtain ⟨_, z0, z1, z2, z3, _, _, _, _⟩ := Z4.out; clear hb o4))
      | (go_at_call 16; ((with_reducible refine (is_any q10 k10 er0 _ _ _ _ ls0 cs0 _ w3.heap.size _ ((M3.out.below h34.out).below A4.out) ((lnAt_of_own O4.out).below A4.out) (by simp; omega) lz0 lc0).mono ?_); rintro e w5 ⟨rfl, ht⟩; have HT := Lib.hid ht; clear ht z0 z1 z2 z3)))
    go_cut [] (fun wx => InvT w w2 w3.heap.size w4.heap.size q k (.slice a1 n1 c1) (.slice a2 n2 c2) (.slice a3 n1 c3) (.slice a4 n2 c4) wx)
    case first =>
      go_wp2_with fail
      go_meet
      exact ⟨HT.out.cells (X4.out.below A4.out) (.inl (by simp; omega)), HT.out.cells (Y4.out.below A4.out) (.inl (by simp)), ⟨_, _, _, _, HT.out.cells Z5.out (.inr (Nat.le_refl _))⟩, ⟨_, _, _, _, HT.out.cells B8.out (.inr (by omega))⟩, twixt_inv HT.out (bW4.out.trans (A4.out.mono (by omega))) (by simp; omega) (by simp at hs3 ⊢; omega), twixt_inv HT.out (bR4.out.trans (A4.out.mono (by omega))) (by simp) (by simp at hs3 ⊢; omega)⟩
    case rest =>
      have h23 : w2.heap.size < w3.heap.size := hs4
      have h34' : w3.heap.size < w4.heap.size := hs5
      clear X4 Y4 Z4 Z5 B8 A4 bW4 bR4 HT M3 O4 h34 A3 B6 X3 Y3 bW3 bR3 B5 B2' A2 B2 hs3 cL cO hs4 hs5
      obtain ⟨I2, I5, ⟨qa, sa, ka, da, I6⟩, ⟨qb, sb, kb, db, I8⟩, Ib, Ir⟩ := hcut
      have J2 := Lib.hid I2
      have J5 := Lib.hid I5
      have J6 := Lib.hid I6
      have J8 := Lib.hid I8
      have Jb := Lib.hid Ib
      have Jr := Lib.hid Ir
      have g2 := I2.lt
      have g5 := I5.lt
      have g6 := I6.lt
      have g8 := I8.lt
      obtain ⟨_, x0, x1, x2, x3, _, _, _, _⟩ := I2
      clear I5 I6 I8 Ib Ir
      have n25 : w.heap.size ≠ w2.heap.size := by omega
      have n26 : w.heap.size ≠ w3.heap.size := by omega
      have n28 : w.heap.size ≠ w4.heap.size := by omega
      have n56 : w2.heap.size ≠ w3.heap.size := by omega
      have n58 : w2.heap.size ≠ w4.heap.size := by omega
      have n68 : w3.heap.size ≠ w4.heap.size := by omega
      have n65 : w3.heap.size ≠ w2.heap.size := by omega
      have n85 : w4.heap.size ≠ w2.heap.size := by omega
      have n86 : w4.heap.size ≠ w3.heap.size := by omega
      have n62 : w3.heap.size ≠ w.heap.size := by omega
      have n82 : w4.heap.size ≠ w.heap.size := by omega
      go_upto_if 46 with (first
        | (go_at_call 26; ((with_reducible refine (cP1 _ (HL.out.below Jb.out) (HE.out.below Jb.out)).mono ?_); rintro e wA1 ⟨s3, d3, rfl, m3, hb⟩; dsimp only at m3; obtain ⟨b1, f1, e1⟩ := m3.z.here.len; obtain ⟨b2, f2, e2⟩ := m3.r.here.len; subst e1 e2; have M3 := Lib.hid m3; have hsA := hb.size; have bA := Lib.hid (Jb.out.trans (hb.mono (by omega))); have rA := Lib.hid (Jr.out.trans (hb.mono (by omega))); have K2 := Lib.hid (J2.out.below hb); have K5 := Lib.hid (J5.out.below hb); have K6 := Lib.hid (J6.out.below hb); have K8 := Lib.hid (J8.out.below hb); clear x0 x1 x2 x3; obtain ⟨_, y0, y1, y2, y3, _, _, _, _⟩ := K5.out; obtain ⟨_, z0, z1, z2, z3, z4, z5, z6, z7⟩ := K6.out; clear hb m3))
        | (go_at_call 27; ((with_reducible refine (cD1 _ _ _ (HO.out.below (put4_below rA.out (Nat.le_of_lt h23)))).mono ?_); rintro e wB1 ⟨s4, d4, rfl, o4, hb⟩; dsimp only at o4; obtain ⟨b3, f3, e3⟩ := own_len o4.1; obtain ⟨b4, f4, e4⟩ := own_len o4.2; subst e3 e4; have O4 := Lib.hid o4; have HAB := Lib.hid hb; have hsB := hb.size; rw [put4_size] at hsB; have bB := Lib.hid ((put4_below bA.out (show w.heap.size ≤ w3.heap.size by omega)).trans (hb.mono (by rw [put4_size]; omega))); have rB := Lib.hid ((put4_below rA.out (show w2.heap.size ≤ w3.heap.size by omega)).trans (hb.mono (by rw [put4_size]; omega))); have N2 := Lib.hid ((put4_far K2.out n26).below hb); have N5 := Lib.hid ((put4_far K5.out n56).below hb); have N6 := Lib.hid ((put4_box K6.out).below hb); have N8 := Lib.hid ((put4_far K8.out n86).below hb); clear y0 y1 y2 y3 z0 z1 z2 z3 z4 z5 z6 z7; obtain ⟨_, z0, z1, z2, z3, _, _, _, _⟩ := N6.out; obtain ⟨_, u0, u1, u2, u3, v0, v1, v2, v3⟩ := N8.out; clear hb o4))
        | (go_at_call 16; ((with_reducible refine (is_any q11 k11 er1 _ _ _ _ ls1 cs1 wc.heap.size wA1.heap.size _ ((((M3.out.kept (put4_kept (.inl g6))).below HAB.out).kept (put4_kept (.inl g8)))) (lnAt_of_own (put4_own O4.out (by rw [put4_size]; omega))) (by rw [put4_size]; exact hsB) lz1 lc1).mono ?_); rintro e wE1 ⟨rfl, ht⟩; have HT := Lib.hid ht; clear ht z0 z1 z2 z3 u0 u1 u2 u3 v0 v1 v2 v3)))
      go_cut [] (fun wx => InvT w w2 w3.heap.size w4.heap.size q k (.slice a1 n1 c1) (.slice a2 n2 c2) (.slice a3 n1 c3) (.slice a4 n2 c4) wx)
      case first =>
        go_wp2_with fail
        go_meet
        exact ⟨HT.out.cells (put4_far N2.out n28) (.inl g2), HT.out.cells (put4_far N5.out n58) (.inl g5), ⟨_, _, _, _, HT.out.cells (put4_far N6.out n68) (.inl g6)⟩, ⟨_, _, _, _, HT.out.cells (put4_box N8.out) (.inl g8)⟩, twixt_inv HT.out (put4_below bB.out (by omega)) (by omega) (by rw [put4_size]; omega), twixt_inv HT.out (put4_below rB.out (by omega)) (by omega) (by rw [put4_size]; omega)⟩
      case rest =>
        clear J2 J5 J6 J8 Jb Jr K2 K5 K6 K8 N2 N5 N6 N8 M3 O4 HAB HT bA rA bB rB hsA hsB g2 g5 g6 g8 n25 n26 n28 n56 n58 n68 n65 n85 n86 n62 n82
        obtain ⟨I2, I5, ⟨qa, sa, ka, da, I6⟩, ⟨qb, sb, kb, db, I8⟩, Ib, Ir⟩ := hcut
        have J2 := Lib.hid I2
        have J5 := Lib.hid I5
        have J6 := Lib.hid I6
        have J8 := Lib.hid I8
        have Jb := Lib.hid Ib
        have Jr := Lib.hid Ir
        have g2 := I2.lt
        have g5 := I5.lt
        have g6 := I6.lt
        have g8 := I8.lt
        obtain ⟨_, x0, x1, x2, x3, _, _, _, _⟩ := I2
        clear I5 I6 I8 Ib Ir
        have n25 : w.heap.size ≠ w2.heap.size := by omega
        have n26 : w.heap.size ≠ w3.heap.size := by omega
        have n28 : w.heap.size ≠ w4.heap.size := by omega
        have n56 : w2.heap.size ≠ w3.heap.size := by omega
        have n58 : w2.heap.size ≠ w4.heap.size := by omega
        have n68 : w3.heap.size ≠ w4.heap.size := by omega
        have n65 : w3.heap.size ≠ w2.heap.size := by omega
        have n85 : w4.heap.size ≠ w2.heap.size := by omega
        have n86 : w4.heap.size ≠ w3.heap.size := by omega
        have n62 : w3.heap.size ≠ w.heap.size := by omega
        have n82 : w4.heap.size ≠ w.heap.size := by omega
        go_upto_if 64 with (first
          | (go_at_call 28; ((with_reducible refine (cP2 _ (HL.out.below Jb.out) (HE.out.below Jb.out)).mono ?_); rintro e wA2 ⟨s3, d3, rfl, m3, hb⟩; dsimp only at m3; obtain ⟨b1, f1, e1⟩ := m3.z.here.len; obtain ⟨b2, f2, e2⟩ := m3.r.here.len; subst e1 e2; have M3 := Lib.hid m3; have hsA := hb.size; have bA := Lib.hid (Jb.out.trans (hb.mono (by omega))); have rA := Lib.hid (Jr.out.trans (hb.mono (by omega))); have K2 := Lib.hid (J2.out.below hb); have K5 := Lib.hid (J5.out.below hb); have K6 := Lib.hid (J6.out.below hb); have K8 := Lib.hid (J8.out.below hb); clear x0 x1 x2 x3; obtain ⟨_, y0, y1, y2, y3, _, _, _, _⟩ := K5.out; obtain ⟨_, z0, z1, z2, z3, z4, z5, z6, z7⟩ := K6.out; clear hb m3))
          | (go_at_call 29; ((with_reducible refine (cD2 _ _ _ (HO.out.below (put4_below rA.out (Nat.le_of_lt h23)))).mono ?_); rintro e wB2 ⟨s4, d4, rfl, o4, hb⟩; dsimp only at o4; obtain ⟨b3, f3, e3⟩ := own_len o4.1; obtain ⟨b4, f4, e4⟩ := own_len o4.2; subst e3 e4; have O4 := Lib.hid o4; have HAB := Lib.hid hb; have hsB := hb.size; rw [put4_size] at hsB; have bB := Lib.hid ((put4_below bA.out (show w.heap.size ≤ w3.heap.size by omega)).trans (hb.mono (by rw [put4_size]; omega))); have rB := Lib.hid ((put4_below rA.out (show w2.heap.size ≤ w3.heap.size by omega)).trans (hb.mono (by rw [put4_size]; omega))); have N2 := Lib.hid ((put4_far K2.out n26).below hb); have N5 := Lib.hid ((put4_far K5.out n56).below hb); have N6 := Lib.hid ((put4_box K6.out).below hb); have N8 := Lib.hid ((put4_far K8.out n86).below hb); clear y0 y1 y2 y3 z0 z1 z2 z3 z4 z5 z6 z7; obtain ⟨_, z0, z1, z2, z3, _, _, _, _⟩ := N6.out; obtain ⟨_, u0, u1, u2, u3, v0, v1, v2, v3⟩ := N8.out; clear hb o4))
          | (go_at_call 16; ((with_reducible refine (is_any q12 k12 er2 _ _ _ _ ls2 cs2 wc.heap.size wA2.heap.size _ ((((M3.out.kept (put4_kept (.inl g6))).below HAB.out).kept (put4_kept (.inl g8)))) (lnAt_of_own (put4_own O4.out (by rw [put4_size]; omega))) (by rw [put4_size]; exact hsB) lz2 lc2).mono ?_); rintro e wE2 ⟨rfl, ht⟩; have HT := Lib.hid ht; clear ht z0 z1 z2 z3 u0 u1 u2 u3 v0 v1 v2 v3)))
        go_cut [] (fun wx => InvT w w2 w3.heap.size w4.heap.size q k (.slice a1 n1 c1) (.slice a2 n2 c2) (.slice a3 n1 c3) (.slice a4 n2 c4) wx)
        case first =>
          go_wp2_with fail
          go_meet
          exact ⟨HT.out.cells (put4_far N2.out n28) (.inl g2), HT.out.cells (put4_far N5.out n58) (.inl g5), ⟨_, _, _, _, HT.out.cells (put4_far N6.out n68) (.inl g6)⟩, ⟨_, _, _, _, HT.out.cells (put4_box N8.out) (.inl g8)⟩, twixt_inv HT.out (put4_below bB.out (by omega)) (by omega) (by rw [put4_size]; omega), twixt_inv HT.out (put4_below rB.out (by omega)) (by omega) (by rw [put4_size]; omega)⟩
        case rest =>
          clear J2 J5 J6 J8 Jb Jr K2 K5 K6 K8 N2 N5 N6 N8 M3 O4 HAB HT bA rA bB rB hsA hsB g2 g5 g6 g8 n25 n26 n28 n56 n58 n68 n65 n85 n86 n62 n82
          obtain ⟨I2, I5, ⟨qa, sa, ka, da, I6⟩, ⟨qb, sb, kb, db, I8⟩, Ib, Ir⟩ := hcut
          have J2 := Lib.hid I2
          have J5 := Lib.hid I5
          have J6 := Lib.hid I6
          have J8 := Lib.hid I8
          have Jb := Lib.hid Ib
          have Jr := Lib.hid Ir
          have g2 := I2.lt
          have g5 := I5.lt
          have g6 := I6.lt
          have g8 := I8.lt
          obtain ⟨_, x0, x1, x2, x3, _, _, _, _⟩ := I2
          clear I5 I6 I8 Ib Ir
          have n25 : w.heap.size ≠ w2.heap.size := by omega
          have n26 : w.heap.size ≠ w3.heap.size := by omega
          have n28 : w.heap.size ≠ w4.heap.size := by omega
          have n56 : w2.heap.size ≠ w3.heap.size := by omega
          have n58 : w2.heap.size ≠ w4.heap.size := by omega
          have n68 : w3.heap.size ≠ w4.heap.size := by omega
          have n65 : w3.heap.size ≠ w2.heap.size := by omega
          have n85 : w4.heap.size ≠ w2.heap.size := by omega
          have n86 : w4.heap.size ≠ w3.heap.size := by omega
          have n62 : w3.heap.size ≠ w.heap.size := by omega
          have n82 : w4.heap.size ≠ w.heap.size := by omega
          go_upto_if 82 with (first
            | (go_at_call 30; ((with_reducible refine (cP3 _ (HL.out.below Jb.out) (HE.out.below Jb.out)).mono ?_); rintro e wA3 ⟨s3, d3, rfl, m3, hb⟩; dsimp only at m3; obtain ⟨b1, f1, e1⟩ := m3.z.here.len; obtain ⟨b2, f2, e2⟩ := m3.r.here.len; subst e1 e2; have M3 := Lib.hid m3; have hsA := hb.size; have bA := Lib.hid (Jb.out.trans (hb.mono (by omega))); have rA := Lib.hid (Jr.out.trans (hb.mono (by omega))); have K2 := Lib.hid (J2.out.below hb); have K5 := Lib.hid (J5.out.below hb); have K6 := Lib.hid (J6.out.below hb); have K8 := Lib.hid (J8.out.below hb); clear x0 x1 x2 x3; obtain ⟨_, y0, y1, y2, y3, _, _, _, _⟩ := K5.out; obtain ⟨_, z0, z1, z2, z3, z4, z5, z6, z7⟩ := K6.out; clear hb m3))
            | (go_at_call 31; ((with_reducible refine (cD3 _ _ _ (HO.out.below (put4_below rA.out (Nat.le_of_lt h23)))).mono ?_); rintro e wB3 ⟨s4, d4, rfl, o4, hb⟩; dsimp only at o4; obtain ⟨b3, f3, e3⟩ := own_len o4.1; obtain ⟨b4, f4, e4⟩ := own_len o4.2; subst e3 e4; have O4 := Lib.hid o4; have HAB := Lib.hid hb; have hsB := hb.size; rw [put4_size] at hsB; have bB := Lib.hid ((put4_below bA.out (show w.heap.size ≤ w3.heap.size by omega)).trans (hb.mono (by rw [put4_size]; omega))); have rB := Lib.hid ((put4_below rA.out (show w2.heap.size ≤ w3.heap.size by omega)).trans (hb.mono (by rw [put4_size]; omega))); have N2 := Lib.hid ((put4_far K2.out n26).below hb); have N5 := Lib.hid ((put4_far K5.out n56).below hb); have N6 := Lib.hid ((put4_box K6.out).below hb); have N8 := Lib.hid ((put4_far K8.out n86).below hb); clear y0 y1 y2 y3 z0 z1 z2 z3 z4 z5 z6 z7; obtain ⟨_, z0, z1, z2, z3, _, _, _, _⟩ := N6.out; obtain ⟨_, u0, u1, u2, u3, v0, v1, v2, v3⟩ := N8.out; clear hb o4))
            | (go_at_call 16; ((with_reducible refine (is_any q13 k13 er3 _ _ _ _ ls3 cs3 wc.heap.size wA3.heap.size _ ((((M3.out.kept (put4_kept (.inl g6))).below HAB.out).kept (put4_kept (.inl g8)))) (lnAt_of_own (put4_own O4.out (by rw [put4_size]; omega))) (by rw [put4_size]; exact hsB) lz3 lc3).mono ?_); rintro e wE3 ⟨rfl, ht⟩; have HT := Lib.hid ht; clear ht z0 z1 z2 z3 u0 u1 u2 u3 v0 v1 v2 v3)))
          go_cut [] (fun wx => InvT w w2 w3.heap.size w4.heap.size q k (.slice a1 n1 c1) (.slice a2 n2 c2) (.slice a3 n1 c3) (.slice a4 n2 c4) wx)
          case first =>
            go_wp2_with fail
            go_meet
            exact ⟨HT.out.cells (put4_far N2.out n28) (.inl g2), HT.out.cells (put4_far N5.out n58) (.inl g5), ⟨_, _, _, _, HT.out.cells (put4_far N6.out n68) (.inl g6)⟩, ⟨_, _, _, _, HT.out.cells (put4_box N8.out) (.inl g8)⟩, twixt_inv HT.out (put4_below bB.out (by omega)) (by omega) (by rw [put4_size]; omega), twixt_inv HT.out (put4_below rB.out (by omega)) (by omega) (by rw [put4_size]; omega)⟩
          case rest =>
            clear J2 J5 J6 J8 Jb Jr K2 K5 K6 K8 N2 N5 N6 N8 M3 O4 HAB HT bA rA bB rB hsA hsB g2 g5 g6 g8 n25 n26 n28 n56 n58 n68 n65 n85 n86 n62 n82
            obtain ⟨I2, I5, ⟨qa, sa, ka, da, I6⟩, ⟨qb, sb, kb, db, I8⟩, Ib, Ir⟩ := hcut
            have J2 := Lib.hid I2
            have J5 := Lib.hid I5
            have J6 := Lib.hid I6
            have J8 := Lib.hid I8
            have Jb := Lib.hid Ib
            have Jr := Lib.hid Ir
            have g2 := I2.lt
            have g5 := I5.lt
            have g6 := I6.lt
            have g8 := I8.lt
            obtain ⟨_, x0, x1, x2, x3, _, _, _, _⟩ := I2
            clear I5 I6 I8 Ib Ir
            have n25 : w.heap.size ≠ w2.heap.size := by omega
            have n26 : w.heap.size ≠ w3.heap.size := by omega
            have n28 : w.heap.size ≠ w4.heap.size := by omega
            have n56 : w2.heap.size ≠ w3.heap.size := by omega
            have n58 : w2.heap.size ≠ w4.heap.size := by omega
            have n68 : w3.heap.size ≠ w4.heap.size := by omega
            have n65 : w3.heap.size ≠ w2.heap.size := by omega
            have n85 : w4.heap.size ≠ w2.heap.size := by omega
            have n86 : w4.heap.size ≠ w3.heap.size := by omega
            have n62 : w3.heap.size ≠ w.heap.size := by omega
            have n82 : w4.heap.size ≠ w.heap.size := by omega
            go_wp2_with (first
              | (go_at_call 32; ((with_reducible refine (cP4 _ (HL.out.below Jb.out) (HE.out.below Jb.out)).mono ?_); rintro e wA4 ⟨s3, d3, rfl, m3, hb⟩; dsimp only at m3; obtain ⟨b1, f1, e1⟩ := m3.z.here.len; obtain ⟨b2, f2, e2⟩ := m3.r.here.len; subst e1 e2; have M3 := Lib.hid m3; have hsA := hb.size; have bA := Lib.hid (Jb.out.trans (hb.mono (by omega))); have rA := Lib.hid (Jr.out.trans (hb.mono (by omega))); have K2 := Lib.hid (J2.out.below hb); have K5 := Lib.hid (J5.out.below hb); have K6 := Lib.hid (J6.out.below hb); have K8 := Lib.hid (J8.out.below hb); clear x0 x1 x2 x3; obtain ⟨_, y0, y1, y2, y3, _, _, _, _⟩ := K5.out; obtain ⟨_, z0, z1, z2, z3, z4, z5, z6, z7⟩ := K6.out; clear hb m3))
              | (go_at_call 33; ((with_reducible refine (cD4 _ _ _ (HO.out.below (put4_below rA.out (Nat.le_of_lt h23)))).mono ?_); rintro e wB4 ⟨s4, d4, rfl, o4, hb⟩; dsimp only at o4; obtain ⟨b3, f3, e3⟩ := own_len o4.1; obtain ⟨b4, f4, e4⟩ := own_len o4.2; subst e3 e4; have O4 := Lib.hid o4; have HAB := Lib.hid hb; have hsB := hb.size; rw [put4_size] at hsB; have bB := Lib.hid ((put4_below bA.out (show w.heap.size ≤ w3.heap.size by omega)).trans (hb.mono (by rw [put4_size]; omega))); have rB := Lib.hid ((put4_below rA.out (show w2.heap.size ≤ w3.heap.size by omega)).trans (hb.mono (by rw [put4_size]; omega))); have N2 := Lib.hid ((put4_far K2.out n26).below hb); have N5 := Lib.hid ((put4_far K5.out n56).below hb); have N6 := Lib.hid ((put4_box K6.out).below hb); have N8 := Lib.hid ((put4_far K8.out n86).below hb); clear y0 y1 y2 y3 z0 z1 z2 z3 z4 z5 z6 z7; obtain ⟨_, z0, z1, z2, z3, _, _, _, _⟩ := N6.out; obtain ⟨_, u0, u1, u2, u3, v0, v1, v2, v3⟩ := N8.out; clear hb o4))
              | (go_at_call 16; ((with_reducible refine (is_any q14 k14 er4 _ _ _ _ ls4 cs4 wc.heap.size wA4.heap.size _ ((((M3.out.kept (put4_kept (.inl g6))).below HAB.out).kept (put4_kept (.inl g8)))) (lnAt_of_own (put4_own O4.out (by rw [put4_size]; omega))) (by rw [put4_size]; exact hsB) lz4 lc4).mono ?_); rintro e wE4 ⟨rfl, ht⟩; have HT := Lib.hid ht; clear ht z0 z1 z2 z3 u0 u1 u2 u3 v0 v1 v2 v3; obtain ⟨R2, R5, _, _, Rb, Rr⟩ := (show InvT w w2 w3.heap.size w4.heap.size q k (.slice a1 n1 c1) (.slice a2 n2 c2) (.slice a3 n1 c3) (.slice a4 n2 c4) _ from ⟨HT.out.cells (put4_far N2.out n28) (.inl g2), HT.out.cells (put4_far N5.out n58) (.inl g5), ⟨_, _, _, _, HT.out.cells (put4_far N6.out n68) (.inl g6)⟩, ⟨_, _, _, _, HT.out.cells (put4_box N8.out) (.inl g8)⟩, twixt_inv HT.out (put4_below bB.out (by omega)) (by omega) (by rw [put4_size]; omega), twixt_inv HT.out (put4_below rB.out (by omega)) (by omega) (by rw [put4_size]; omega)⟩); have RB := Lib.hid Rb; have RR := Lib.hid Rr; obtain ⟨_, x0, x1, x2, x3, _, _, _, _⟩ := R2; obtain ⟨_, y0, y1, y2, y3, _, _, _, _⟩ := R5; clear Rb Rr))
              | (go_at_call 15; ((with_reducible refine (cS _ _ _ (HL.out.below RB.out) (HO.out.below RR.out)).mono ?_); rintro e wF ⟨rfl, hb⟩; have RF := Lib.hid (RB.out.trans (hb.mono (by have := RB.out.size; omega))); clear hb))
              | (go_at_call 10; ((with_reducible refine (haw _ (HE.out.below RF.out)).mono ?_); rintro e wG ⟨rfl, hb⟩; have RG := Lib.hid (RF.out.trans (hb.mono RF.out.size)); clear hb)))
            go_ret
            exact ⟨rfl, RG.out⟩
end Go.Proofs.YtmlipcedkgfmiaaDoor
