/-
  The law of Split, Join.
-/
import Derived.Test.YtmlipcedkgfmiaaDoorAwakeL
import Derived.Test.YtmlipcedkgfmiaaDoorLongL
import Derived.Test.YtmlipcedkgfmiaaDoorIs
import Derived.Test.YtmlipcedkgfmiaaDoorDocSplit
namespace Go.Proofs.YtmlipcedkgfmiaaDoor
open Go.RowKit Go.Lib

theorem sameL_reflC (L : Ln) : sameL L L = true := decide_eq_true ⟨rfl, rfl, rfl, rfl⟩
theorem splitS_len (z : Int) (L : Ln) : ((splitS z L).2.1.ls.length ≤ L.ls.length ∧ (splitS z L).2.1.cs.length ≤ L.cs.length) ∧ (splitS z L).2.2.ls.length ≤ L.ls.length ∧ (splitS z L).2.2.cs.length ≤ L.cs.length := by
  unfold splitS splitO
  split <;> (try split) <;> simp [ln0] <;> omega
theorem joinS_len (M L : Ln) : (opS (joinS M) L).2.ls.length ≤ L.ls.length ∧ (opS (joinS M) L).2.cs.length ≤ L.cs.length + M.cs.length := by
  unfold opS joinS
  split <;> (try split) <;> simp [ln0]
/-- The two lines and their copies, in four variables. -/
structure CutI (w wq : World) (p7 p8 : Nat) (q k q' k' : Int) (s1 d1 s2 d2 s3 d3 s4 d4 : Value) (wx : World) : Prop where
  b3 : BoxAt wx w.heap.size q s1 k d1
  b4 : BoxAt wx (w.heap.size + 1) q' s2 k' d2
  b7 : BoxAt wx p7 q s3 k d3
  b8 : BoxAt wx p8 q' s4 k' d4
  hb : Below w.heap.size w wx
  hr : Below wq.heap.size wq wx
theorem Twixt.cellsC {B C : Nat} {w w' : World} (h : Twixt B C w w') {b : Nat} {q k : Int} {s c : Value} (hx : BoxAt w b q s k c) (hb : b < B ∨ C ≤ b) : BoxAt w' b q s k c := by
  have e := h.block b hx.lt hb
  obtain ⟨lt, c0, c1, c2, c3, f0, f1, f2, f3⟩ := hx
  exact ⟨Nat.lt_of_lt_of_le lt h.size, (World.cell?_of_block (w := w) (a := ⟨b, 0, none⟩) e).trans c0, (World.cell?_of_block (w := w) (a := ⟨b, 1, none⟩) e).trans c1, (World.cell?_of_block (w := w) (a := ⟨b, 2, none⟩) e).trans c2, (World.cell?_of_block (w := w) (a := ⟨b, 3, none⟩) e).trans c3,
    (World.frozen?_of_block (w := w) (a := ⟨b, 0, none⟩) e).trans f0, (World.frozen?_of_block (w := w) (a := ⟨b, 1, none⟩) e).trans f1, (World.frozen?_of_block (w := w) (a := ⟨b, 2, none⟩) e).trans f2, (World.frozen?_of_block (w := w) (a := ⟨b, 3, none⟩) e).trans f3⟩
theorem OwnLn.twixt {B C D : Nat} {w w' : World} {v d : Value} {ls : IRow} {cs : Row} (h : OwnLn D w v d ls cs) (ht : Twixt B C w w') (hD : C ≤ D) : OwnLn D w' v d ls cs :=
  ⟨own_other h.1 (fun k h1 h2 => ht.block k h2 (.inr (by omega))), own_other h.2 (fun k h1 h2 => ht.block k h2 (.inr (by omega)))⟩

theorem cut_below {wc wA wY wE wF : World} {D : Nat} (h1 : Below wc.heap.size wc wA) (h2 : Below wA.heap.size wA wY) (h3 : Twixt wc.heap.size D wY wE) (h4 : Twixt D wA.heap.size wE wF) (hD : wc.heap.size ≤ D) (hE : D ≤ wE.heap.size) : Below wc.heap.size wc wF := by
  have s1 := h1.size
  have s2 := h2.size
  exact ((h1.trans (h2.mono s1)).trans (h3.below (by omega))).trans ((h4.below hE).mono hD)

set_option maxRecDepth 20000 in
set_option maxHeartbeats 16000000 in
theorem lawCuts_walk (q k q' k' z : Int) (sl sc sl' sc' : Value) (ls ls' : IRow) (cs cs' : Row) (w : World) (hE : Tg.Env w) (h : LnAt w sl sc ls cs) (hs : Sized cs) (h' : LnAt w sl' sc' ls' cs') (hs' : Sized cs') :
    Calls Tryd.prog 4 #[.agg #[.int .i64 q, sl, .int .i64 k, sc], .agg #[.int .i64 q', sl', .int .i64 k', sc'], .int .i64 z] w fun e w' => e = .returned (.bool true) ∧ Below w.heap.size w w' := by
  obtain ⟨a1, c1, rfl⟩ := h.z.len
  obtain ⟨a2, c2, rfl⟩ := h.r.len
  obtain ⟨a7, c7, rfl⟩ := h'.z.len
  obtain ⟨a8, c8, rfl⟩ := h'.r.len
  have haw : ∀ w1, Below w.heap.size w w1 → Calls Tryd.prog 10 #[] w1 fun e w' => e = .returned (.bool true) ∧ Below w1.heap.size w1 w' := fun w1 h1 => awake_any w1 (hE.below h1)
  have cL : ∀ w1, Below w.heap.size w w1 → Calls Tryd.prog 9 #[.agg #[.int .i64 q, .slice a1 ls.length c1, .int .i64 k, .slice a2 cs.length c2]] w1 fun e w' => e = .returned (.bool (longL ⟨q, ls, k, cs⟩)) ∧ Below w1.heap.size w1 w' := fun w1 h1 => long_any q k _ _ ls cs w1 (h.below h1) hs
  have cK : ∀ w1, Below w.heap.size w w1 → Calls Tryd.prog 9 #[.agg #[.int .i64 q', .slice a7 ls'.length c7, .int .i64 k', .slice a8 cs'.length c8]] w1 fun e w' => e = .returned (.bool (longL ⟨q', ls', k', cs'⟩)) ∧ Below w1.heap.size w1 w' := fun w1 h1 => long_any q' k' _ _ ls' cs' w1 (h'.below h1) hs'
  have HX := Lib.hid (box_two w q k q' k' (.slice a1 ls.length c1) (.slice a2 cs.length c2) (.slice a7 ls'.length c7) (.slice a8 cs'.length c8))
  cases hl1 : longL ⟨q, ls, k, cs⟩ with
  | true =>
    rw [hl1] at cL
    obtain ⟨n1, hn1⟩ : ∃ n, ls.length = n := ⟨_, rfl⟩
    obtain ⟨n2, hn2⟩ : ∃ n, cs.length = n := ⟨_, rfl⟩
    obtain ⟨n7, hn7⟩ : ∃ n, ls'.length = n := ⟨_, rfl⟩
    obtain ⟨n8, hn8⟩ : ∃ n, cs'.length = n := ⟨_, rfl⟩
    have N1 := Lib.hid hn1
    have N2 := Lib.hid hn2
    rw [hn1, hn2] at cL
    rw [hn1, hn2, hn7, hn8] at HX ⊢
    clear h hs h' hs' hE hl1 hn1 hn2 hn7 hn8 cK
    go_enter Tryd.func4, Tryd.ntmps4
    go_wp2_with (first
      | (go_at_call 9; ((with_reducible refine (cL _ HX.out.1).mono ?_); rintro e w1 ⟨rfl, hb2⟩; obtain ⟨b2, B0, B1⟩ := HX.out; have hb := Lib.hid (b2.trans (hb2.mono b2.size)); have HB0 := Lib.hid (B0.below hb2); have HB1 := Lib.hid (B1.below hb2); obtain ⟨_, x0, x1, x2, x3, _, _, _, _⟩ := HB0.out; obtain ⟨_, y0, y1, y2, y3, _, _, _, _⟩ := HB1.out; clear b2 B0 B1 hb2))
      | (go_at_call 10; ((with_reducible refine (haw _ hb.out).mono ?_); rintro e w9 ⟨rfl, hb2⟩; have hs9 := hb.out.size; replace hb := Lib.hid (hb.out.trans (hb2.mono hs9)); clear hb2)))
    go_ret
    exact ⟨rfl, hb.out⟩
  | false =>
  rw [hl1] at cL
  cases hl2 : longL ⟨q', ls', k', cs'⟩ with
  | true =>
    rw [hl2] at cK
    obtain ⟨n1, hn1⟩ : ∃ n, ls.length = n := ⟨_, rfl⟩
    obtain ⟨n2, hn2⟩ : ∃ n, cs.length = n := ⟨_, rfl⟩
    obtain ⟨n7, hn7⟩ : ∃ n, ls'.length = n := ⟨_, rfl⟩
    obtain ⟨n8, hn8⟩ : ∃ n, cs'.length = n := ⟨_, rfl⟩
    have N1 := Lib.hid hn1
    have N2 := Lib.hid hn2
    rw [hn1, hn2] at cL
    rw [hn7, hn8] at cK
    rw [hn1, hn2, hn7, hn8] at HX ⊢
    clear h hs h' hs' hE hl1 hl2 hn1 hn2 hn7 hn8
    go_enter Tryd.func4, Tryd.ntmps4
    go_wp2_with (first
      | (go_at_call 9; ((with_reducible refine (cL _ HX.out.1).mono ?_); rintro e w1 ⟨rfl, hb2⟩; obtain ⟨b2, B0, B1⟩ := HX.out; have hb := Lib.hid (b2.trans (hb2.mono b2.size)); have HB0 := Lib.hid (B0.below hb2); have HB1 := Lib.hid (B1.below hb2); obtain ⟨_, x0, x1, x2, x3, _, _, _, _⟩ := HB0.out; obtain ⟨_, y0, y1, y2, y3, _, _, _, _⟩ := HB1.out; clear b2 B0 B1 hb2))
      | (go_at_call 9; ((with_reducible refine (cK _ hb.out).mono ?_); rintro e w2 ⟨rfl, hb2⟩; have hs2 := hb.out.size; replace hb := Lib.hid (hb.out.trans (hb2.mono hs2)); replace HB0 := Lib.hid (HB0.out.below hb2); replace HB1 := Lib.hid (HB1.out.below hb2); clear x0 x1 x2 x3 y0 y1 y2 y3; obtain ⟨_, x0, x1, x2, x3, _, _, _, _⟩ := HB0.out; obtain ⟨_, y0, y1, y2, y3, _, _, _, _⟩ := HB1.out; clear hb2))
      | (go_at_call 10; ((with_reducible refine (haw _ hb.out).mono ?_); rintro e w9 ⟨rfl, hb2⟩; have hs9 := hb.out.size; replace hb := Lib.hid (hb.out.trans (hb2.mono hs9)); clear hb2)))
    go_ret
    exact ⟨rfl, hb.out⟩
  | false =>
  rw [hl2] at cK
  obtain ⟨hcs, hls, hf⟩ := longL_false hl1
  obtain ⟨hcs', hls', hf'⟩ := longL_false hl2
  have cO : ∀ w1, Below w.heap.size w w1 → Calls Tryd.prog 11 #[.agg #[.int .i64 q, .slice a1 ls.length c1, .int .i64 k, .slice a2 cs.length c2]] w1 fun e w' => ∃ sl' sc', e = .returned (.agg #[.int .i64 q, sl', .int .i64 k, sc']) ∧ OwnLn w1.heap.size w' sl' sc' ls cs ∧ Below w1.heap.size w1 w' := fun w1 h1 => rlown_any q k _ _ ls cs w1 (h.below h1) (by omega) (by omega)
  have cQ : ∀ w1, Below w.heap.size w w1 → Calls Tryd.prog 11 #[.agg #[.int .i64 q', .slice a7 ls'.length c7, .int .i64 k', .slice a8 cs'.length c8]] w1 fun e w' => ∃ sl' sc', e = .returned (.agg #[.int .i64 q', sl', .int .i64 k', sc']) ∧ OwnLn w1.heap.size w' sl' sc' ls' cs' ∧ Below w1.heap.size w1 w' := fun w1 h1 => rlown_any q' k' _ _ ls' cs' w1 (h'.below h1) (by omega) (by omega)
  have cP : ∀ w1, Below w.heap.size w w1 → Calls Tryd.prog 20 #[.agg #[.int .i64 q, .slice a1 ls.length c1, .int .i64 k, .slice a2 cs.length c2], .int .i64 z] w1 (SplitPost (splitS z ⟨q, ls, k, cs⟩) w1) := fun w1 h1 => Split_any q k z _ _ ls cs w1 (h.below h1) (by omega) (by omega) hf (hE.below h1)
  have cD : ∀ (s1 s2 : Value) w1, LnAt w1 s1 s2 ls cs → Calls Tryd.prog 21 #[.agg #[.int .i64 q, s1, .int .i64 k, s2], .int .i64 z] w1 (SplitDoc (splitS z ⟨q, ls, k, cs⟩) w1) := fun s1 s2 w1 h1 => Split_doc q k z s1 s2 ls cs w1 h1 (by omega) (by omega) hf
  have cJ : ∀ w1, Below w.heap.size w w1 → Calls Tryd.prog 22 #[.agg #[.int .i64 q, .slice a1 ls.length c1, .int .i64 k, .slice a2 cs.length c2], .agg #[.int .i64 q', .slice a7 ls'.length c7, .int .i64 k', .slice a8 cs'.length c8]] w1 (AskPost (opS (joinS ⟨q', ls', k', cs'⟩) ⟨q, ls, k, cs⟩) w1) := fun w1 h1 => Join_any q k q' k' _ _ _ _ ls ls' cs cs' w1 (h.below h1) (by omega) (by omega) hf (hE.below h1) (h'.below h1) (by omega) (by omega) hf'
  have cG : ∀ (s1 s2 s3 s4 : Value) w1, LnAt w1 s1 s2 ls cs → LnAt w1 s3 s4 ls' cs' → Calls Tryd.prog 23 #[.agg #[.int .i64 q, s1, .int .i64 k, s2], .agg #[.int .i64 q', s3, .int .i64 k', s4]] w1 (DocPost (opS (joinS ⟨q', ls', k', cs'⟩) ⟨q, ls, k, cs⟩) w1) := fun s1 s2 s3 s4 w1 h1 h2 => Join_doc q k q' k' s1 s2 s3 s4 ls ls' cs cs' w1 h1 (by omega) (by omega) hf h2 (by omega) hf'
  have cS : ∀ (s1 s2 : Value) w1, Below w.heap.size w w1 → LnAt w1 s1 s2 ls cs → Calls Tryd.prog 15 #[.agg #[.int .i64 q, .slice a1 ls.length c1, .int .i64 k, .slice a2 cs.length c2], .agg #[.int .i64 q, s1, .int .i64 k, s2]] w1 fun e w' => e = .returned (.bool true) ∧ Below w1.heap.size w1 w' := fun s1 s2 w1 h1 h2 => by
    have h := rlsame_any q k q k _ _ s1 s2 ls ls cs cs w1 (h.below h1) h2 (by omega) (by omega)
    rwa [sameL_reflC] at h
  have cT : ∀ (s1 s2 : Value) w1, Below w.heap.size w w1 → LnAt w1 s1 s2 ls' cs' → Calls Tryd.prog 15 #[.agg #[.int .i64 q', .slice a7 ls'.length c7, .int .i64 k', .slice a8 cs'.length c8], .agg #[.int .i64 q', s1, .int .i64 k', s2]] w1 fun e w' => e = .returned (.bool true) ∧ Below w1.heap.size w1 w' := fun s1 s2 w1 h1 h2 => by
    have h := rlsame_any q' k' q' k' _ _ s1 s2 ls' ls' cs' cs' w1 (h'.below h1) h2 (by omega) (by omega)
    rwa [sameL_reflC] at h
  have hz := splitS_len z ⟨q, ls, k, cs⟩
  have hy := joinS_len ⟨q', ls', k', cs'⟩ ⟨q, ls, k, cs⟩
  obtain ⟨⟨es, ⟨qa, lsa, ka, csa⟩, ⟨qb, lsb, kb, csb⟩⟩, hR⟩ : ∃ R, splitS z ⟨q, ls, k, cs⟩ = R := ⟨_, rfl⟩
  obtain ⟨⟨eg, ⟨qj, lsj, kj, csj⟩⟩, hR2⟩ : ∃ R, opS (joinS ⟨q', ls', k', cs'⟩) ⟨q, ls, k, cs⟩ = R := ⟨_, rfl⟩
  rw [hR] at cP cD hz
  rw [hR2] at cJ cG hy
  dsimp only at hz hy
  have la1 : lsa.length ≤ 50000 := by omega
  have la2 : csa.length ≤ 50000 := by omega
  have lb1 : lsb.length ≤ 50000 := by omega
  have lb2 : csb.length ≤ 50000 := by omega
  have lj1 : lsj.length ≤ 50000 := by omega
  have lj2 : csj.length ≤ 50000 := by omega
  obtain ⟨n1, hn1⟩ : ∃ n, ls.length = n := ⟨_, rfl⟩
  obtain ⟨n2, hn2⟩ : ∃ n, cs.length = n := ⟨_, rfl⟩
  obtain ⟨n7, hn7⟩ : ∃ n, ls'.length = n := ⟨_, rfl⟩
  obtain ⟨n8, hn8⟩ : ∃ n, cs'.length = n := ⟨_, rfl⟩
  have N1 := Lib.hid hn1
  have N2 := Lib.hid hn2
  have N7 := Lib.hid hn7
  have N8 := Lib.hid hn8
  rw [hn1, hn2] at cL cO cP cJ cS
  rw [hn7, hn8] at cK cQ cJ cT
  rw [hn1, hn2, hn7, hn8] at HX ⊢
  clear h hs h' hs' hE hl1 hl2 hn1 hn2 hn7 hn8 hR hR2 hf hf' hcs hls hcs' hls' hz hy
  go_enter Tryd.func4, Tryd.ntmps4
  go_upto_region 3 with (first
    | (go_at_call 9; ((with_reducible refine (cL _ HX.out.1).mono ?_); rintro e w1 ⟨rfl, hb2⟩; obtain ⟨b2, B0, B1⟩ := HX.out; have hb := Lib.hid (b2.trans (hb2.mono b2.size)); have HB0 := Lib.hid (B0.below hb2); have HB1 := Lib.hid (B1.below hb2); obtain ⟨_, x0, x1, x2, x3, _, _, _, _⟩ := HB0.out; obtain ⟨_, y0, y1, y2, y3, _, _, _, _⟩ := HB1.out; clear b2 B0 B1 hb2))
    | (go_at_call 9; ((with_reducible refine (cK _ hb.out).mono ?_); rintro e w2 ⟨rfl, hb2⟩; have hs2 := hb.out.size; replace hb := Lib.hid (hb.out.trans (hb2.mono hs2)); replace HB0 := Lib.hid (HB0.out.below hb2); replace HB1 := Lib.hid (HB1.out.below hb2); clear x0 x1 x2 x3 y0 y1 y2 y3; obtain ⟨_, x0, x1, x2, x3, _, _, _, _⟩ := HB0.out; obtain ⟨_, y0, y1, y2, y3, _, _, _, _⟩ := HB1.out; clear hb2)))
  have hsw := hb.out.size
  have hB0' := HB0.out.lt
  have hB1' := HB1.out.lt
  go_cut [7, 8] (fun s7 s8 wx => TwoB w2.heap.size w2 s7 s8 q k q' k' ls ls' cs cs' wx)
  case first =>
    clear cP cD cJ cG cS cT HX cL cK la1 la2 lb1 lb2 lj1 lj2 haw
    have hS : w2.cell? ⟨w.heap.size, 0, none⟩ = some (.int .i64 q) ∧ w2.cell? ⟨w.heap.size, 1, none⟩ = some (.slice a1 n1 c1) ∧ w2.cell? ⟨w.heap.size, 2, none⟩ = some (.int .i64 k) ∧ w2.cell? ⟨w.heap.size, 3, none⟩ = some (.slice a2 n2 c2) ∧ w2.cell? ⟨w.heap.size + 1, 0, none⟩ = some (.int .i64 q') ∧ w2.cell? ⟨w.heap.size + 1, 1, none⟩ = some (.slice a7 n7 c7) ∧ w2.cell? ⟨w.heap.size + 1, 2, none⟩ = some (.int .i64 k') ∧ w2.cell? ⟨w.heap.size + 1, 3, none⟩ = some (.slice a8 n8 c8) := ⟨x0, x1, x2, x3, y0, y1, y2, y3⟩
    have KS : Hid (∀ w', Below w2.heap.size w2 w' → w'.cell? ⟨w.heap.size, 0, none⟩ = some (.int .i64 q) ∧ w'.cell? ⟨w.heap.size, 1, none⟩ = some (.slice a1 n1 c1) ∧ w'.cell? ⟨w.heap.size, 2, none⟩ = some (.int .i64 k) ∧ w'.cell? ⟨w.heap.size, 3, none⟩ = some (.slice a2 n2 c2) ∧ w'.cell? ⟨w.heap.size + 1, 0, none⟩ = some (.int .i64 q') ∧ w'.cell? ⟨w.heap.size + 1, 1, none⟩ = some (.slice a7 n7 c7) ∧ w'.cell? ⟨w.heap.size + 1, 2, none⟩ = some (.int .i64 k') ∧ w'.cell? ⟨w.heap.size + 1, 3, none⟩ = some (.slice a8 n8 c8)) := Lib.hid (fun w' h => ⟨(HB0.out.below h).c0, (HB0.out.below h).c1, (HB0.out.below h).c2, (HB0.out.below h).c3, (HB1.out.below h).c0, (HB1.out.below h).c1, (HB1.out.below h).c2, (HB1.out.below h).c3⟩)
    have bV : Hid (∀ w', Below w2.heap.size w2 w' → Below w.heap.size w w') := Lib.hid (fun w' h => hb.out.trans (h.mono hsw))
    clear hb x0 x1 x2 x3 y0 y1 y2 y3
    have hb : Hid (Below w2.heap.size w2 w2) := Lib.hid (Below.refl _ _)
    go_region_held3 (fun w' => w'.cell? ⟨w.heap.size, 0, none⟩ = some (.int .i64 q) ∧ w'.cell? ⟨w.heap.size, 1, none⟩ = some (.slice a1 n1 c1) ∧ w'.cell? ⟨w.heap.size, 2, none⟩ = some (.int .i64 k) ∧ w'.cell? ⟨w.heap.size, 3, none⟩ = some (.slice a2 n2 c2) ∧ w'.cell? ⟨w.heap.size + 1, 0, none⟩ = some (.int .i64 q') ∧ w'.cell? ⟨w.heap.size + 1, 1, none⟩ = some (.slice a7 n7 c7) ∧ w'.cell? ⟨w.heap.size + 1, 2, none⟩ = some (.int .i64 k') ∧ w'.cell? ⟨w.heap.size + 1, 3, none⟩ = some (.slice a8 n8 c8)) (first | (with_reducible exact hS) | exact KS.out _ (by (repeat (first | (with_reducible exact hb.out) | (with_reducible exact Below.refl _ _) | (with_reducible refine Below.drew ?_) | (with_reducible refine Below.alloc ?_ ?_ _) | (with_reducible refine Below.setCell ?_ ?_ _) | omega | (simp <;> omega))))) (first
      | (go_at_call 11; ((with_reducible refine (cO _ (bV.out _ ?hb)).mono ?_); (case hb => (repeat (first | (with_reducible exact hb.out) | (with_reducible exact Below.refl _ _) | (with_reducible refine Below.drew ?_) | (with_reducible refine Below.alloc ?_ ?_ _) | (with_reducible refine Below.setCell ?_ ?_ _) | omega | (simp <;> omega)))); rintro e w3 ⟨sl', sc', rfl, ho, hb2⟩; have hd := Lib.hid ((show Below w2.heap.size w2 _ by (repeat (first | (with_reducible exact hb.out) | (with_reducible exact Below.refl _ _) | (with_reducible refine Below.drew ?_) | (with_reducible refine Below.alloc ?_ ?_ _) | (with_reducible refine Below.setCell ?_ ?_ _) | omega | (simp <;> omega)))).trans (hb2.mono (by (first | omega | (simp; done) | (simp; omega))))); obtain ⟨hc3, hf3⟩ := bcell (B := w2.heap.size) hb2; have hz3 := hb2.size; (try simp at hz3); (try have hy3 : w2.heap.size < w3.heap.size := by omega); (try have hp3 : w2.heap.size + 1 < w3.heap.size := by omega); (try have hq3 : w3.heap.size ≠ w2.heap.size := by omega); (try have hr3 : w2.heap.size ≠ w3.heap.size := by omega); have hs3 : w2.heap.size ≤ w3.heap.size := hd.out.size; have hs5 : w2.heap.size ≤ w3.heap.size + 1 := Nat.le_succ_of_le hs3; have HO := Lib.hid ho; obtain ⟨a3, c3, e3⟩ := own_len ho.1; obtain ⟨a4, c4, e4⟩ := own_len ho.2; rw [N1.out] at e3; rw [N2.out] at e4; subst e3 e4; clear hb; have hb := hd; replace hS := KS.out _ hb.out; clear hd hb2 ho))
      | (go_at_call 11; ((with_reducible refine (cQ _ (bV.out _ ?hb)).mono ?_); (case hb => (repeat (first | (with_reducible exact hb.out) | (with_reducible exact Below.refl _ _) | (with_reducible refine Below.drew ?_) | (with_reducible refine Below.alloc ?_ ?_ _) | (with_reducible refine Below.setCell ?_ ?_ _) | omega | (simp <;> omega)))); rintro e w4 ⟨sl', sc', rfl, ho, hb2⟩; have hd := Lib.hid ((show Below w2.heap.size w2 _ by (repeat (first | (with_reducible exact hb.out) | (with_reducible exact Below.refl _ _) | (with_reducible refine Below.drew ?_) | (with_reducible refine Below.alloc ?_ ?_ _) | (with_reducible refine Below.setCell ?_ ?_ _) | omega | (simp <;> omega)))).trans (hb2.mono (by (first | omega | (simp; done) | (simp; omega))))); have h34 := Lib.hid ((show Below w3.heap.size w3 _ by (repeat (first | (with_reducible exact Below.refl _ _) | (with_reducible refine Below.drew ?_) | (with_reducible refine Below.alloc ?_ ?_ _) | omega | (simp; done) | (simp; omega)))).trans (hb2.mono (by (first | omega | (simp; done) | (simp; omega))))); obtain ⟨hc4, hf4⟩ := bcell (B := w2.heap.size) hb2; have hz4 := hb2.size; (try simp at hz4); (try have hy4 : w2.heap.size < w4.heap.size := by omega); (try have hp4 : w2.heap.size + 1 < w4.heap.size := by omega); (try have hx4 : w3.heap.size < w4.heap.size := by omega); (try have hu4 : w3.heap.size + 1 < w4.heap.size := by omega); (try have hq4 : w4.heap.size ≠ w2.heap.size := by omega); (try have hr4 : w2.heap.size ≠ w4.heap.size := by omega); (try have hq5 : w4.heap.size ≠ w3.heap.size := by omega); (try have hr5 : w3.heap.size ≠ w4.heap.size := by omega); have hs4 : w2.heap.size ≤ w4.heap.size := hd.out.size; have HP := Lib.hid ho; have HO4 := Lib.hid (HO.out.below h34.out); obtain ⟨a5, c5, e5⟩ := own_len ho.1; obtain ⟨a6, c6, e6⟩ := own_len ho.2; rw [N7.out] at e5; rw [N8.out] at e6; subst e5 e6; clear hb; have hb := hd; replace hS := KS.out _ hb.out; clear hd hb2 ho)))
    all_goals go_wp2_with fail
    all_goals go_meet
    all_goals first
      | (with_reducible refine two_put (q5 := 0) (s5 := .slice none 0 0) (k5 := 0) (c5 := .slice none 0 0) (q6 := 0) (s6 := .slice none 0 0) (k6 := 0) (c6 := .slice none 0 0) hb.out ?_ ?_ ?_ ?_ ?_ (HO4.out.mono ?_) (HP.out.mono ?_) ?_ ?_ ?_ ?_ <;> (first | ((with_reducible refine notB_lo HO4.out ?_); (first | omega | (simp; done) | (simp; omega))) | ((with_reducible refine notB_lo HP.out ?_); (first | omega | (simp; done) | (simp; omega))) | ((with_reducible refine notB_hi HO.out ?_); (first | omega | (simp; done) | (simp; omega))) | ((with_reducible refine notB_hi HP.out ?_); (first | omega | (simp; done) | (simp; omega))) | (first | omega | (simp; done) | (simp; omega)) | (constructor <;> (first | (first | omega | (simp; done) | (simp; omega)) | (simp [go_sem, *]; done)))))
      | (with_reducible refine two_mix7 (q5 := 0) (s5 := .slice none 0 0) (k5 := 0) (c5 := .slice none 0 0) hb.out ?_ ?_ ?_ (HO4.out.mono ?_) (HP.out.mono ?_) ?_ ?_ <;> (first | ((with_reducible refine notB_lo HO4.out ?_); (first | omega | (simp; done) | (simp; omega))) | ((with_reducible refine notB_lo HP.out ?_); (first | omega | (simp; done) | (simp; omega))) | ((with_reducible refine notB_hi HO.out ?_); (first | omega | (simp; done) | (simp; omega))) | ((with_reducible refine notB_hi HP.out ?_); (first | omega | (simp; done) | (simp; omega))) | (first | omega | (simp; done) | (simp; omega)) | (constructor <;> (first | (first | omega | (simp; done) | (simp; omega)) | (simp [go_sem, *]; done)))))
      | (with_reducible refine two_mix8 (q5 := 0) (s5 := .slice none 0 0) (k5 := 0) (c5 := .slice none 0 0) hb.out ?_ ?_ ?_ (HO4.out.mono ?_) (HP.out.mono ?_) ?_ ?_ <;> (first | ((with_reducible refine notB_lo HO4.out ?_); (first | omega | (simp; done) | (simp; omega))) | ((with_reducible refine notB_lo HP.out ?_); (first | omega | (simp; done) | (simp; omega))) | ((with_reducible refine notB_hi HO.out ?_); (first | omega | (simp; done) | (simp; omega))) | ((with_reducible refine notB_hi HP.out ?_); (first | omega | (simp; done) | (simp; omega))) | (first | omega | (simp; done) | (simp; omega)) | (constructor <;> (first | (first | omega | (simp; done) | (simp; omega)) | (simp [go_sem, *]; done)))))
      | (with_reducible refine two_new78 hb.out ?_ (HO4.out.mono ?_) (HP.out.mono ?_) <;> (first | ((with_reducible refine notB_lo HO4.out ?_); (first | omega | (simp; done) | (simp; omega))) | ((with_reducible refine notB_lo HP.out ?_); (first | omega | (simp; done) | (simp; omega))) | ((with_reducible refine notB_hi HO.out ?_); (first | omega | (simp; done) | (simp; omega))) | ((with_reducible refine notB_hi HP.out ?_); (first | omega | (simp; done) | (simp; omega))) | (first | omega | (simp; done) | (simp; omega)) | (constructor <;> (first | (first | omega | (simp; done) | (simp; omega)) | (simp [go_sem, *]; done)))))
      | (with_reducible refine two_new87 hb.out ?_ (HO4.out.mono ?_) (HP.out.mono ?_) <;> (first | ((with_reducible refine notB_lo HO4.out ?_); (first | omega | (simp; done) | (simp; omega))) | ((with_reducible refine notB_lo HP.out ?_); (first | omega | (simp; done) | (simp; omega))) | ((with_reducible refine notB_hi HO.out ?_); (first | omega | (simp; done) | (simp; omega))) | ((with_reducible refine notB_hi HP.out ?_); (first | omega | (simp; done) | (simp; omega))) | (first | omega | (simp; done) | (simp; omega)) | (constructor <;> (first | (first | omega | (simp; done) | (simp; omega)) | (simp [go_sem, *]; done)))))
  case rest =>
    clear HX cL cK cO cQ
    obtain ⟨p7, p8, t1, d1, t2, d2, rfl, rfl, hB7, hB8, hO1, hO2, hne, h7B, h8B, _, _, _, _, hBe⟩ := hcut
    obtain ⟨a3, c3, e3⟩ := own_len hO1.1
    obtain ⟨a4, c4, e4⟩ := own_len hO1.2
    obtain ⟨a5, c5, e5⟩ := own_len hO2.1
    obtain ⟨a6, c6, e6⟩ := own_len hO2.2
    rw [N1.out] at e3
    rw [N2.out] at e4
    rw [N7.out] at e5
    rw [N8.out] at e6
    subst e3 e4 e5 e6
    have O1 := Lib.hid (lnAt_of_own hO1)
    have O2 := Lib.hid (lnAt_of_own hO2)
    have J3 := Lib.hid (HB0.out.below hBe)
    have J4 := Lib.hid (HB1.out.below hBe)
    have J7 := Lib.hid hB7
    have J8 := Lib.hid hB8
    have Jb := Lib.hid (hb.out.trans (hBe.mono hsw))
    have g3 := J3.out.lt
    have g4 := J4.out.lt
    have g7 := hB7.lt
    have g8 := hB8.lt
    have hww := Jb.out.size
    clear hO1 hO2 hB7 hB8 hBe HB0 HB1 hb x0 x1 x2 x3 y0 y1 y2 y3
    obtain ⟨_, x0, x1, x2, x3, _, _, _, _⟩ := J3.out
    go_upto_if 57 with (first
      | (go_at_call 20; ((with_reducible refine (cP _ Jb.out).mono ?_); rintro e wA ⟨DD, s5, d5, s6, d6, rfl, m5, m6, hb2, hD1, hD2⟩; dsimp only at m5 m6; obtain ⟨b1, f1, e1⟩ := m5.z.here.len; obtain ⟨b2, f2, e2⟩ := m5.r.here.len; obtain ⟨b3, f3, e3⟩ := m6.z.here.len; obtain ⟨b4, f4, e4⟩ := m6.r.here.len; subst e1 e2 e3 e4; have M5 := Lib.hid m5; have M6 := Lib.hid m6; have rA := Lib.hid hb2; have bX := Lib.hid (box_two wA qa ka qb kb (.slice b1 lsa.length f1) (.slice b2 csa.length f2) (.slice b3 lsb.length f3) (.slice b4 csb.length f4)); have hsA := hb2.size; have h7A : p7 < wA.heap.size := Nat.lt_of_lt_of_le g7 hsA; have h8A : p8 < wA.heap.size := Nat.lt_of_lt_of_le g8 hsA; have K7 := Lib.hid (J7.out.below hb2); clear x0 x1 x2 x3 hb2 m5 m6; obtain ⟨_, x0, x1, x2, x3, _, _, _, _⟩ := K7.out))
      | (go_at_call 21; ((with_reducible refine (cD _ _ _ (O1.out.below (rA.out.trans (bX.out.1.mono hsA)))).mono ?_); rintro e wB ⟨s7, d7, s8, d8, rfl, o7, o8, hb2⟩; dsimp only at o7 o8; obtain ⟨b5, f5, e5⟩ := own_len o7.1; obtain ⟨b6, f6, e6⟩ := own_len o7.2; obtain ⟨b7, f7, e7⟩ := own_len o8.1; obtain ⟨b8, f8, e8⟩ := own_len o8.2; subst e5 e6 e7 e8; have O7 := Lib.hid o7; have O8 := Lib.hid o8; have bY := Lib.hid (box_two wB qa ka qb kb (.slice b5 lsa.length f5) (.slice b6 csa.length f6) (.slice b7 lsb.length f7) (.slice b8 csb.length f8)); have rB := Lib.hid (bX.out.1.trans (hb2.mono bX.out.1.size)); have hsB := rB.out.size; have K9 := Lib.hid (bX.out.2.1.below hb2); have K10 := Lib.hid (bX.out.2.2.below hb2); have h10 := K10.out.lt; clear x0 x1 x2 x3 hb2 o7 o8; obtain ⟨_, x0, x1, x2, x3, _, _, _, _⟩ := K9.out; have rC := Lib.hid (rB.out.trans (bY.out.1.mono hsB)); have hzY := bY.out.1.size))
      | (go_at_call 16; ((with_reducible refine (is_any qa ka es _ _ _ _ lsa csa wc.heap.size DD _ (M5.out.below rC.out) (lnAt_of_own (O7.out.below bY.out.1)) (by omega) la1 la2).mono ?_); rintro e wE ⟨rfl, ht⟩; have HT1 := Lib.hid ht; have K10' := Lib.hid (ht.cellsC (K10.out.below bY.out.1) (.inr (by omega))); have K13 := Lib.hid (ht.cellsC bY.out.2.2 (.inr (by omega))); clear ht x0 x1 x2 x3; obtain ⟨_, x0, x1, x2, x3, _, _, _, _⟩ := K10'.out; obtain ⟨_, y0, y1, y2, y3, _, _, _, _⟩ := K13.out))
      | (go_at_call 16; ((with_reducible refine (is_any qb kb es _ _ _ _ lsb csb DD wA.heap.size _ ((M6.out.below rC.out).kept (HT1.out.kept DD (Nat.le_refl _))) (lnAt_of_own ((O8.out.below bY.out.1).twixt HT1.out (by have := bX.out.1.size; omega))) (by have := HT1.out.size; omega) lb1 lb2).mono ?_); rintro e wF ⟨rfl, ht⟩; have hHT := HT1.out; have rCC := rC.out; have HI := Lib.hid (show CutI w wc p7 p8 q k q' k' (.slice a1 n1 c1) (.slice a2 n2 c2) (.slice a7 n7 c7) (.slice a8 n8 c8) (.slice a3 n1 c3) (.slice a4 n2 c4) (.slice a5 n7 c5) (.slice a6 n8 c6) wF from ⟨ht.cellsC (hHT.cellsC ((J3.out.below rA.out).below rCC) (.inl g3)) (.inl (by omega)), ht.cellsC (hHT.cellsC ((J4.out.below rA.out).below rCC) (.inl g4)) (.inl (by omega)), ht.cellsC (hHT.cellsC ((J7.out.below rA.out).below rCC) (.inl g7)) (.inl (by omega)), ht.cellsC (hHT.cellsC ((J8.out.below rA.out).below rCC) (.inl g8)) (.inl (by omega)), Jb.out.trans ((cut_below rA.out rCC hHT ht hD1 (by omega)).mono hww), cut_below rA.out rCC hHT ht hD1 (by omega)⟩); clear ht hHT rCC x0 x1 x2 x3 y0 y1 y2 y3)))
    go_cut [] (fun wx => CutI w wc p7 p8 q k q' k' (.slice a1 n1 c1) (.slice a2 n2 c2) (.slice a7 n7 c7) (.slice a8 n8 c8) (.slice a3 n1 c3) (.slice a4 n2 c4) (.slice a5 n7 c5) (.slice a6 n8 c6) wx)
    case first =>
      go_wp2_with fail
      go_meet
      exact HI.out
    case rest =>
      clear M5 M6 O7 O8 bX bY rA rB rC K7 K9 K10 K10' K13 HT1 HI J3 J4 J7 J8 cP cD hsA hsB h7A h8A h10 hzY hD1 hD2 g3 g4 g7 g8
      obtain ⟨I3, I4, I7, I8, Ib, Ir⟩ := hcut
      have J3 := Lib.hid I3
      have J4 := Lib.hid I4
      have J7 := Lib.hid I7
      have J8 := Lib.hid I8
      have Ub := Lib.hid Ib
      have Ur := Lib.hid Ir
      have g3 := I3.lt
      have g4 := I4.lt
      have g7 := I7.lt
      have g8 := I8.lt
      have hwu := Ib.size
      have hru := Ir.size
      obtain ⟨_, x0, x1, x2, x3, _, _, _, _⟩ := I3
      obtain ⟨_, y0, y1, y2, y3, _, _, _, _⟩ := I4
      clear I7 I8 Ib Ir
      go_wp2_with (first
        | (go_at_call 22; ((with_reducible refine (cJ _ Ub.out).mono ?_); rintro e wG ⟨s9, d9, rfl, m9, hb2⟩; dsimp only at m9; obtain ⟨b1, f1, e1⟩ := m9.z.here.len; obtain ⟨b2, f2, e2⟩ := m9.r.here.len; subst e1 e2; have M9 := Lib.hid m9; have rG := Lib.hid hb2; have hsG := hb2.size; have A15 := Lib.hid ((Below.refl wG.heap.size wG).alloc (Nat.le_refl _) (.cells #[.int .i64 qj, .slice b1 lsj.length f1, .int .i64 kj, .slice b2 csj.length f2] 25)); have B15 := Lib.hid (box_new wG qj kj (.slice b1 lsj.length f1) (.slice b2 csj.length f2)); have K7 := Lib.hid (J7.out.below hb2); have K8 := Lib.hid (J8.out.below hb2); have k7 := K7.out.lt; have k8 := K8.out.lt; clear x0 x1 x2 x3 y0 y1 y2 y3 hb2 m9; obtain ⟨_, x0, x1, x2, x3, _, _, _, _⟩ := K7.out; obtain ⟨_, y0, y1, y2, y3, _, _, _, _⟩ := K8.out))
        | (go_at_call 23; ((with_reducible refine (cG _ _ _ _ _ (O1.out.below (Ur.out.trans ((rG.out.trans (A15.out.mono hsG)).mono hru))) (O2.out.below (Ur.out.trans ((rG.out.trans (A15.out.mono hsG)).mono hru)))).mono ?_); rintro e wH ⟨s10, d10, rfl, o10, hb2⟩; dsimp only at o10; obtain ⟨b3, f3, e3⟩ := own_len o10.1; obtain ⟨b4, f4, e4⟩ := own_len o10.2; subst e3 e4; have O10 := Lib.hid o10; have rH := Lib.hid (A15.out.trans (hb2.mono A15.out.size)); have hsH := rH.out.size; have A17 := Lib.hid ((Below.refl wH.heap.size wH).alloc (Nat.le_refl _) (.cells #[.int .i64 qj, .slice b3 lsj.length f3, .int .i64 kj, .slice b4 csj.length f4] 25)); have K15 := Lib.hid (B15.out.below hb2); have k15 := K15.out.lt; have rI := Lib.hid (rH.out.trans (A17.out.mono hsH)); clear x0 x1 x2 x3 y0 y1 y2 y3 hb2 o10; obtain ⟨_, x0, x1, x2, x3, _, _, _, _⟩ := K15.out))
        | (go_at_call 16; ((with_reducible refine (is_any qj kj eg _ _ _ _ lsj csj wc.heap.size wG.heap.size _ (M9.out.below rI.out) (lnAt_of_own (O10.out.below A17.out)) (by have := rI.out.size; omega) lj1 lj2).mono ?_); rintro e wI ⟨rfl, ht⟩; have rGI := Lib.hid ((rG.out.trans (rI.out.mono hsG)).trans (ht.below (by have := rI.out.size; omega))); have L3 := Lib.hid (J3.out.below rGI.out); have L4 := Lib.hid (J4.out.below rGI.out); have L7 := Lib.hid (J7.out.below rGI.out); have L8 := Lib.hid (J8.out.below rGI.out); have QBI := Lib.hid (Ub.out.trans (rGI.out.mono hwu)); have QRI := Lib.hid (Ur.out.trans (rGI.out.mono hru)); clear ht x0 x1 x2 x3; obtain ⟨_, x0, x1, x2, x3, _, _, _, _⟩ := L3.out; obtain ⟨_, y0, y1, y2, y3, _, _, _, _⟩ := L7.out))
        | (go_at_call 15; ((with_reducible refine (cS _ _ _ QBI.out (O1.out.below QRI.out)).mono ?_); rintro e wJ ⟨rfl, hb2⟩; have hsI := QBI.out.size; have hrI := QRI.out.size; have QBJ := Lib.hid (QBI.out.trans (hb2.mono hsI)); have QRJ := Lib.hid (QRI.out.trans (hb2.mono hrI)); clear x0 x1 x2 x3 y0 y1 y2 y3; obtain ⟨_, x0, x1, x2, x3, _, _, _, _⟩ := L4.out.below hb2; obtain ⟨_, y0, y1, y2, y3, _, _, _, _⟩ := L8.out.below hb2; clear hb2))
        | (go_at_call 15; ((with_reducible refine (cT _ _ _ QBJ.out (O2.out.below QRJ.out)).mono ?_); rintro e wK ⟨rfl, hb2⟩; have hsJ := QBJ.out.size; have QBK := Lib.hid (QBJ.out.trans (hb2.mono hsJ)); clear hb2))
        | (go_at_call 10; ((with_reducible refine (haw _ QBK.out).mono ?_); rintro e wZ ⟨rfl, hb2⟩; have hsK := QBK.out.size; have QBZ := Lib.hid (QBK.out.trans (hb2.mono hsK)); clear hb2)))
      go_ret
      exact ⟨rfl, QBZ.out⟩

end Go.Proofs.YtmlipcedkgfmiaaDoor
