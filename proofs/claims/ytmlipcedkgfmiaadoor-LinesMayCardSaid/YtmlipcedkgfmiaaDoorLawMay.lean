/-
  The law of May, Same, Own, Frame.
-/
import Derived.Test.YtmlipcedkgfmiaaDoorAwakeL
import Derived.Test.YtmlipcedkgfmiaaDoorLongL
import Derived.Test.YtmlipcedkgfmiaaDoorIs
import Derived.Test.YtmlipcedkgfmiaaDoorDocLn
namespace Go.Proofs.YtmlipcedkgfmiaaDoor
open Go.RowKit Go.Lib

theorem sameL_refl (L : Ln) : sameL L L = true := decide_eq_true ⟨rfl, rfl, rfl, rfl⟩

set_option maxRecDepth 20000 in
set_option maxHeartbeats 16000000 in
theorem lawMay_walk (q k q' k' : Int) (sl sc sl' sc' : Value) (ls ls' : IRow) (cs cs' : Row) (w : World) (hE : Tg.Env w) (h : LnAt w sl sc ls cs) (hs : Sized cs) (h' : LnAt w sl' sc' ls' cs') (hs' : Sized cs') :
    Calls Tryd.prog 3 #[.agg #[.int .i64 q, sl, .int .i64 k, sc], .agg #[.int .i64 q', sl', .int .i64 k', sc']] w fun e w' => e = .returned (.bool true) ∧ Below w.heap.size w w' := by
  obtain ⟨a1, c1, rfl⟩ := h.z.len
  obtain ⟨a2, c2, rfl⟩ := h.r.len
  obtain ⟨a7, c7, rfl⟩ := h'.z.len
  obtain ⟨a8, c8, rfl⟩ := h'.r.len
  have haw : ∀ w1, Below w.heap.size w w1 → Calls Tryd.prog 10 #[] w1 fun e w' => e = .returned (.bool true) ∧ Below w1.heap.size w1 w' := fun w1 h1 => awake_any w1 (hE.below h1)
  have cL : ∀ w1, Below w.heap.size w w1 → Calls Tryd.prog 9 #[.agg #[.int .i64 q, .slice a1 ls.length c1, .int .i64 k, .slice a2 cs.length c2]] w1 fun e w' => e = .returned (.bool (longL ⟨q, ls, k, cs⟩)) ∧ Below w1.heap.size w1 w' := fun w1 h1 => long_any q k _ _ ls cs w1 (h.below h1) hs
  have cK : ∀ w1, Below w.heap.size w w1 → Calls Tryd.prog 9 #[.agg #[.int .i64 q', .slice a7 ls'.length c7, .int .i64 k', .slice a8 cs'.length c8]] w1 fun e w' => e = .returned (.bool (longL ⟨q', ls', k', cs'⟩)) ∧ Below w1.heap.size w1 w' := fun w1 h1 => long_any q' k' _ _ ls' cs' w1 (h'.below h1) hs'
  have HX := Lib.hid (box_two w q k q' k' (.slice a1 ls.length c1) (.slice a2 cs.length c2) (.slice a7 ls'.length c7) (.slice a8 cs'.length c8))
  cases hl1 : longL ⟨q, ls, k, cs⟩ with
  | true =>
    rw [hl1] at cL
    obtain ⟨n1, hn1⟩ : ∃ n, ls.length = n := ⟨_, rfl⟩
    obtain ⟨n2, hn2⟩ : ∃ n, cs.length = n := ⟨_, rfl⟩
    obtain ⟨n7, hn7⟩ : ∃ n, ls'.length = n := ⟨_, rfl⟩
    obtain ⟨n8, hn8⟩ : ∃ n, cs'.length = n := ⟨_, rfl⟩
    have N1 := Lib.hid hn1
    have N2 := Lib.hid hn2
    rw [hn1, hn2] at cL
    rw [hn1, hn2, hn7, hn8] at HX ⊢
    clear h hs h' hs' hE hl1 hn1 hn2 hn7 hn8 cK
    go_enter Tryd.func3, Tryd.ntmps3
    go_wp2_with (first
      | (go_at_call 9; ((with_reducible refine (cL _ HX.out.1).mono ?_); rintro e w1 ⟨rfl, hb2⟩; obtain ⟨b2, B0, B1⟩ := HX.out; have hb := Lib.hid (b2.trans (hb2.mono b2.size)); have HB0 := Lib.hid (B0.below hb2); have HB1 := Lib.hid (B1.below hb2); obtain ⟨_, x0, x1, x2, x3, _, _, _, _⟩ := HB0.out; obtain ⟨_, y0, y1, y2, y3, _, _, _, _⟩ := HB1.out; clear b2 B0 B1 hb2))
      | (go_at_call 10; ((with_reducible refine (haw _ hb.out).mono ?_); rintro e w9 ⟨rfl, hb2⟩; have hs9 := hb.out.size; replace hb := Lib.hid (hb.out.trans (hb2.mono hs9)); clear hb2)))
    go_ret
    exact ⟨rfl, hb.out⟩
  | false =>
  rw [hl1] at cL
  cases hl2 : longL ⟨q', ls', k', cs'⟩ with
  | true =>
    rw [hl2] at cK
    obtain ⟨n1, hn1⟩ : ∃ n, ls.length = n := ⟨_, rfl⟩
    obtain ⟨n2, hn2⟩ : ∃ n, cs.length = n := ⟨_, rfl⟩
    obtain ⟨n7, hn7⟩ : ∃ n, ls'.length = n := ⟨_, rfl⟩
    obtain ⟨n8, hn8⟩ : ∃ n, cs'.length = n := ⟨_, rfl⟩
    have N1 := Lib.hid hn1
    have N2 := Lib.hid hn2
    rw [hn1, hn2] at cL
    rw [hn7, hn8] at cK
    rw [hn1, hn2, hn7, hn8] at HX ⊢
    clear h hs h' hs' hE hl1 hl2 hn1 hn2 hn7 hn8
    go_enter Tryd.func3, Tryd.ntmps3
    go_wp2_with (first
      | (go_at_call 9; ((with_reducible refine (cL _ HX.out.1).mono ?_); rintro e w1 ⟨rfl, hb2⟩; obtain ⟨b2, B0, B1⟩ := HX.out; have hb := Lib.hid (b2.trans (hb2.mono b2.size)); have HB0 := Lib.hid (B0.below hb2); have HB1 := Lib.hid (B1.below hb2); obtain ⟨_, x0, x1, x2, x3, _, _, _, _⟩ := HB0.out; obtain ⟨_, y0, y1, y2, y3, _, _, _, _⟩ := HB1.out; clear b2 B0 B1 hb2))
      | (go_at_call 9; ((with_reducible refine (cK _ hb.out).mono ?_); rintro e w2 ⟨rfl, hb2⟩; have hs2 := hb.out.size; replace hb := Lib.hid (hb.out.trans (hb2.mono hs2)); replace HB0 := Lib.hid (HB0.out.below hb2); replace HB1 := Lib.hid (HB1.out.below hb2); clear x0 x1 x2 x3 y0 y1 y2 y3; obtain ⟨_, x0, x1, x2, x3, _, _, _, _⟩ := HB0.out; obtain ⟨_, y0, y1, y2, y3, _, _, _, _⟩ := HB1.out; clear hb2))
      | (go_at_call 10; ((with_reducible refine (haw _ hb.out).mono ?_); rintro e w9 ⟨rfl, hb2⟩; have hs9 := hb.out.size; replace hb := Lib.hid (hb.out.trans (hb2.mono hs9)); clear hb2)))
    go_ret
    exact ⟨rfl, hb.out⟩
  | false =>
  rw [hl2] at cK
  obtain ⟨hcs, hls, hf⟩ := longL_false hl1
  obtain ⟨hcs', hls', hf'⟩ := longL_false hl2
  have cO : ∀ w1, Below w.heap.size w w1 → Calls Tryd.prog 11 #[.agg #[.int .i64 q, .slice a1 ls.length c1, .int .i64 k, .slice a2 cs.length c2]] w1 fun e w' => ∃ sl' sc', e = .returned (.agg #[.int .i64 q, sl', .int .i64 k, sc']) ∧ OwnLn w1.heap.size w' sl' sc' ls cs ∧ Below w1.heap.size w1 w' := fun w1 h1 => rlown_any q k _ _ ls cs w1 (h.below h1) (by omega) (by omega)
  have cA : ∀ w1, Below w.heap.size w w1 → Calls Tryd.prog 12 #[.agg #[.int .i64 q, .slice a1 ls.length c1, .int .i64 k, .slice a2 cs.length c2]] w1 fun e w' => e = .returned (.bool (mayS ⟨q, ls, k, cs⟩)) ∧ Below w1.heap.size w1 w' := fun w1 h1 => lmay_any q k _ _ ls cs w1 (h.below h1) (by omega) (by omega) hf (hE.below h1)
  have cB : ∀ (s1 s2 : Value) w1, LnAt w1 s1 s2 ls cs → Calls Tryd.prog 13 #[.agg #[.int .i64 q, s1, .int .i64 k, s2]] w1 fun e w' => e = .returned (.bool (mayS ⟨q, ls, k, cs⟩)) ∧ Below w1.heap.size w1 w' := fun s1 s2 w1 h1 => rlmay_any q k s1 s2 ls cs w1 h1 (by omega) hf
  have cC : ∀ w1, Below w.heap.size w w1 → Calls Tryd.prog 14 #[.agg #[.int .i64 q, .slice a1 ls.length c1, .int .i64 k, .slice a2 cs.length c2], .agg #[.int .i64 q', .slice a7 ls'.length c7, .int .i64 k', .slice a8 cs'.length c8]] w1 fun e w' => e = .returned (.bool (sameL ⟨q, ls, k, cs⟩ ⟨q', ls', k', cs'⟩)) ∧ Below w1.heap.size w1 w' := fun w1 h1 => lsame_any q k q' k' _ _ _ _ ls ls' cs cs' w1 (h.below h1) (h'.below h1) (by omega) (by omega)
  have cD : ∀ w1, Below w.heap.size w w1 → Calls Tryd.prog 15 #[.agg #[.int .i64 q, .slice a1 ls.length c1, .int .i64 k, .slice a2 cs.length c2], .agg #[.int .i64 q', .slice a7 ls'.length c7, .int .i64 k', .slice a8 cs'.length c8]] w1 fun e w' => e = .returned (.bool (sameL ⟨q, ls, k, cs⟩ ⟨q', ls', k', cs'⟩)) ∧ Below w1.heap.size w1 w' := fun w1 h1 => rlsame_any q k q' k' _ _ _ _ ls ls' cs cs' w1 (h.below h1) (h'.below h1) (by omega) (by omega)
  have cE : ∀ w1, Below w.heap.size w w1 → Calls Tryd.prog 14 #[.agg #[.int .i64 q, .slice a1 ls.length c1, .int .i64 k, .slice a2 cs.length c2], .agg #[.int .i64 q, .slice a1 ls.length c1, .int .i64 k, .slice a2 cs.length c2]] w1 fun e w' => e = .returned (.bool true) ∧ Below w1.heap.size w1 w' := fun w1 h1 => by
    have h := lsame_any q k q k _ _ _ _ ls ls cs cs w1 (h.below h1) (h.below h1) (by omega) (by omega)
    rwa [sameL_refl] at h
  have cF : ∀ w1, Below w.heap.size w w1 → Calls Tryd.prog 17 #[.agg #[.int .i64 q, .slice a1 ls.length c1, .int .i64 k, .slice a2 cs.length c2]] w1 fun e w' => ∃ sl' sc', e = .returned (.agg #[.int .i64 q, sl', .int .i64 k, sc']) ∧ OwnLn w1.heap.size w' sl' sc' ls cs ∧ Below w1.heap.size w1 w' := fun w1 h1 => lown_any q k _ _ ls cs w1 (h.z.below h1) (h.r.below h1) (by omega) (by omega)
  have cG : ∀ w1, Below w.heap.size w w1 → Calls Tryd.prog 18 #[.agg #[.int .i64 q, .slice a1 ls.length c1, .int .i64 k, .slice a2 cs.length c2]] w1 fun e w' => ∃ sl' sc', e = .returned (.agg #[.int .i64 q, sl', .int .i64 k, sc']) ∧ OwnLn w1.heap.size w' sl' sc' ls [] ∧ Below w1.heap.size w1 w' := fun w1 h1 => lframe_any q k _ _ ls cs w1 (h.below h1) (by omega)
  have cH : ∀ (s1 s2 : Value) w1, LnAt w1 s1 s2 ls cs → Calls Tryd.prog 19 #[.agg #[.int .i64 q, s1, .int .i64 k, s2]] w1 fun e w' => ∃ sl' sc', e = .returned (.agg #[.int .i64 q, sl', .int .i64 k, sc']) ∧ OwnLn w1.heap.size w' sl' sc' ls [] ∧ Below w1.heap.size w1 w' := fun s1 s2 w1 h1 => rlframe_any q k s1 s2 ls cs w1 h1 (by omega)
  have cI : ∀ (s1 s2 : Value) w1, Below w.heap.size w w1 → LnAt w1 s1 s2 ls cs → Calls Tryd.prog 15 #[.agg #[.int .i64 q, .slice a1 ls.length c1, .int .i64 k, .slice a2 cs.length c2], .agg #[.int .i64 q, s1, .int .i64 k, s2]] w1 fun e w' => e = .returned (.bool true) ∧ Below w1.heap.size w1 w' := fun s1 s2 w1 h1 h2 => by
    have h := rlsame_any q k q k _ _ s1 s2 ls ls cs cs w1 (h.below h1) h2 (by omega) (by omega)
    rwa [sameL_refl] at h
  have hz1 : ls.length ≤ 50000 := by omega
  have hz2 : cs.length ≤ 50000 := by omega
  have hz3 : ([] : Row).length ≤ 50000 := by decide
  obtain ⟨M, hM⟩ : ∃ M, mayS ⟨q, ls, k, cs⟩ = M := ⟨_, rfl⟩
  obtain ⟨S, hS0⟩ : ∃ S, sameL ⟨q, ls, k, cs⟩ ⟨q', ls', k', cs'⟩ = S := ⟨_, rfl⟩
  rw [hM] at cA cB
  rw [hS0] at cC cD
  obtain ⟨n1, hn1⟩ : ∃ n, ls.length = n := ⟨_, rfl⟩
  obtain ⟨n2, hn2⟩ : ∃ n, cs.length = n := ⟨_, rfl⟩
  obtain ⟨n7, hn7⟩ : ∃ n, ls'.length = n := ⟨_, rfl⟩
  obtain ⟨n8, hn8⟩ : ∃ n, cs'.length = n := ⟨_, rfl⟩
  have N1 := Lib.hid hn1
  have N2 := Lib.hid hn2
  rw [hn1, hn2] at cL cO cA cE cF cG cI
  rw [hn7, hn8] at cK
  rw [hn1, hn2, hn7, hn8] at cC cD HX ⊢
  have eM : (M != M) = false := by simp
  have eS : (S != S) = false := by simp
  clear h hs h' hs' hE hl1 hl2 hn1 hn2 hn7 hn8 hM hS0 hf hf' hcs hls hcs' hls'
  go_enter Tryd.func3, Tryd.ntmps3
  go_wp2_with (first
    | (go_at_call 9; ((with_reducible refine (cL _ HX.out.1).mono ?_); rintro e w1 ⟨rfl, hb2⟩; obtain ⟨b2, B0, B1⟩ := HX.out; have hb := Lib.hid (b2.trans (hb2.mono b2.size)); have HB0 := Lib.hid (B0.below hb2); have HB1 := Lib.hid (B1.below hb2); obtain ⟨_, x0, x1, x2, x3, _, _, _, _⟩ := HB0.out; obtain ⟨_, y0, y1, y2, y3, _, _, _, _⟩ := HB1.out; clear b2 B0 B1 hb2))
    | (go_at_call 9; ((with_reducible refine (cK _ hb.out).mono ?_); rintro e w2 ⟨rfl, hb2⟩; have hs2 := hb.out.size; replace hb := Lib.hid (hb.out.trans (hb2.mono hs2)); replace HB0 := Lib.hid (HB0.out.below hb2); replace HB1 := Lib.hid (HB1.out.below hb2); clear x0 x1 x2 x3 y0 y1 y2 y3; obtain ⟨_, x0, x1, x2, x3, _, _, _, _⟩ := HB0.out; obtain ⟨_, y0, y1, y2, y3, _, _, _, _⟩ := HB1.out; clear hb2))
    | (go_at_call 11; ((with_reducible refine (cO _ hb.out).mono ?_); rintro e w3 ⟨sl', sc', rfl, ho, hb2⟩; have hs3 := hb.out.size; replace hb := Lib.hid (hb.out.trans (hb2.mono hs3)); replace HB0 := Lib.hid (HB0.out.below hb2); replace HB1 := Lib.hid (HB1.out.below hb2); obtain ⟨a3, c3, e3⟩ := own_len ho.1; obtain ⟨a4, c4, e4⟩ := own_len ho.2; rw [N1.out] at e3; rw [N2.out] at e4; subst e3 e4; have HO := Lib.hid (lnAt_of_own ho); have hs4 := hb.out.size; clear x0 x1 x2 x3 y0 y1 y2 y3 hb2 ho)))
  have A3 := (Below.refl w3.heap.size w3).alloc (Nat.le_refl _) (.cells #[.int .i64 q, .slice a3 n1 c3, .int .i64 k, .slice a4 n2 c4] 25)
  have B5 := box_new w3 q k (.slice a3 n1 c3) (.slice a4 n2 c4)
  obtain ⟨W, hW⟩ : ∃ W, w3.alloc (.cells #[.int .i64 q, .slice a3 n1 c3, .int .i64 k, .slice a4 n2 c4] 25) = W := ⟨_, rfl⟩
  rw [hW] at A3 B5 ⊢
  have bW := Lib.hid (hb.out.trans (A3.mono hs4))
  replace HB0 := Lib.hid (HB0.out.below A3)
  replace HB1 := Lib.hid (HB1.out.below A3)
  have HB5 := Lib.hid B5
  have HOW := Lib.hid (HO.out.below A3)
  have hsW := bW.out.size
  have hs5 := B5.lt
  have KS : Hid (∀ WW : World, Below W.heap.size W WW → WW.cell? ⟨w.heap.size, 0, none⟩ = some (.int .i64 q) ∧ WW.cell? ⟨w.heap.size, 1, none⟩ = some (.slice a1 n1 c1) ∧ WW.cell? ⟨w.heap.size, 2, none⟩ = some (.int .i64 k) ∧ WW.cell? ⟨w.heap.size, 3, none⟩ = some (.slice a2 n2 c2) ∧ WW.cell? ⟨w.heap.size + 1, 0, none⟩ = some (.int .i64 q') ∧ WW.cell? ⟨w.heap.size + 1, 1, none⟩ = some (.slice a7 n7 c7) ∧ WW.cell? ⟨w.heap.size + 1, 2, none⟩ = some (.int .i64 k') ∧ WW.cell? ⟨w.heap.size + 1, 3, none⟩ = some (.slice a8 n8 c8) ∧ WW.cell? ⟨w3.heap.size, 0, none⟩ = some (.int .i64 q) ∧ WW.cell? ⟨w3.heap.size, 1, none⟩ = some (.slice a3 n1 c3) ∧ WW.cell? ⟨w3.heap.size, 2, none⟩ = some (.int .i64 k) ∧ WW.cell? ⟨w3.heap.size, 3, none⟩ = some (.slice a4 n2 c4)) := Lib.hid (fun WW h => ⟨(HB0.out.below h).c0, (HB0.out.below h).c1, (HB0.out.below h).c2, (HB0.out.below h).c3, (HB1.out.below h).c0, (HB1.out.below h).c1, (HB1.out.below h).c2, (HB1.out.below h).c3, (HB5.out.below h).c0, (HB5.out.below h).c1, (HB5.out.below h).c2, (HB5.out.below h).c3⟩)
  have hS := KS.out _ (Below.refl _ _)
  have bV : Hid (∀ WW : World, Below W.heap.size W WW → Below w.heap.size w WW) := Lib.hid (fun WW h => bW.out.trans (h.mono hsW))
  clear hb hW A3 B5 HO
  have hb : Hid (Below W.heap.size W W) := Lib.hid (Below.refl _ _)
  go_region_held3 (fun WW => WW.cell? ⟨w.heap.size, 0, none⟩ = some (.int .i64 q) ∧ WW.cell? ⟨w.heap.size, 1, none⟩ = some (.slice a1 n1 c1) ∧ WW.cell? ⟨w.heap.size, 2, none⟩ = some (.int .i64 k) ∧ WW.cell? ⟨w.heap.size, 3, none⟩ = some (.slice a2 n2 c2) ∧ WW.cell? ⟨w.heap.size + 1, 0, none⟩ = some (.int .i64 q') ∧ WW.cell? ⟨w.heap.size + 1, 1, none⟩ = some (.slice a7 n7 c7) ∧ WW.cell? ⟨w.heap.size + 1, 2, none⟩ = some (.int .i64 k') ∧ WW.cell? ⟨w.heap.size + 1, 3, none⟩ = some (.slice a8 n8 c8) ∧ WW.cell? ⟨w3.heap.size, 0, none⟩ = some (.int .i64 q) ∧ WW.cell? ⟨w3.heap.size, 1, none⟩ = some (.slice a3 n1 c3) ∧ WW.cell? ⟨w3.heap.size, 2, none⟩ = some (.int .i64 k) ∧ WW.cell? ⟨w3.heap.size, 3, none⟩ = some (.slice a4 n2 c4)) (first | (with_reducible exact hS) | exact KS.out _ (by (repeat (first | (with_reducible exact hb.out) | (with_reducible refine Below.drew ?_) | (with_reducible refine Below.alloc ?_ ?_ _) | omega | (simp <;> omega))))) (first
    | (go_at_call 12; ((with_reducible refine (cA _ (bV.out _ ?hb)).mono ?_); (case hb => (repeat (first | (with_reducible exact hb.out) | (with_reducible refine Below.drew ?_) | (with_reducible refine Below.alloc ?_ ?_ _) | omega | (simp <;> omega)))); rintro e wN ⟨rfl, hb2⟩; have hzz := hb.out.size; have hd := Lib.hid ((show Below W.heap.size W _ by (repeat (first | (with_reducible exact hb.out) | (with_reducible refine Below.drew ?_) | (with_reducible refine Below.alloc ?_ ?_ _) | omega | (simp <;> omega)))).trans (hb2.mono (by first | exact hzz | (simp <;> omega)))); clear hb; have hb := hd; replace hS := KS.out _ hb.out; clear hzz hd hb2))
    | (go_at_call 13; ((with_reducible refine (cB _ _ _ (HOW.out.below ?hb)).mono ?_); (case hb => (repeat (first | (with_reducible exact hb.out) | (with_reducible refine Below.drew ?_) | (with_reducible refine Below.alloc ?_ ?_ _) | omega | (simp <;> omega)))); rintro e wN ⟨rfl, hb2⟩; have hzz := hb.out.size; have hd := Lib.hid ((show Below W.heap.size W _ by (repeat (first | (with_reducible exact hb.out) | (with_reducible refine Below.drew ?_) | (with_reducible refine Below.alloc ?_ ?_ _) | omega | (simp <;> omega)))).trans (hb2.mono (by first | exact hzz | (simp <;> omega)))); clear hb; have hb := hd; replace hS := KS.out _ hb.out; clear hzz hd hb2))
    | (go_at_call 14; ((with_reducible refine (cC _ (bV.out _ ?hb)).mono ?_); (case hb => (repeat (first | (with_reducible exact hb.out) | (with_reducible refine Below.drew ?_) | (with_reducible refine Below.alloc ?_ ?_ _) | omega | (simp <;> omega)))); rintro e wN ⟨rfl, hb2⟩; have hzz := hb.out.size; have hd := Lib.hid ((show Below W.heap.size W _ by (repeat (first | (with_reducible exact hb.out) | (with_reducible refine Below.drew ?_) | (with_reducible refine Below.alloc ?_ ?_ _) | omega | (simp <;> omega)))).trans (hb2.mono (by first | exact hzz | (simp <;> omega)))); clear hb; have hb := hd; replace hS := KS.out _ hb.out; clear hzz hd hb2))
    | (go_at_call 15; ((with_reducible refine (cD _ (bV.out _ ?hb)).mono ?_); (case hb => (repeat (first | (with_reducible exact hb.out) | (with_reducible refine Below.drew ?_) | (with_reducible refine Below.alloc ?_ ?_ _) | omega | (simp <;> omega)))); rintro e wN ⟨rfl, hb2⟩; have hzz := hb.out.size; have hd := Lib.hid ((show Below W.heap.size W _ by (repeat (first | (with_reducible exact hb.out) | (with_reducible refine Below.drew ?_) | (with_reducible refine Below.alloc ?_ ?_ _) | omega | (simp <;> omega)))).trans (hb2.mono (by first | exact hzz | (simp <;> omega)))); clear hb; have hb := hd; replace hS := KS.out _ hb.out; clear hzz hd hb2))
    | (go_at_call 14; ((with_reducible refine (cE _ (bV.out _ ?hb)).mono ?_); (case hb => (repeat (first | (with_reducible exact hb.out) | (with_reducible refine Below.drew ?_) | (with_reducible refine Below.alloc ?_ ?_ _) | omega | (simp <;> omega)))); rintro e wN ⟨rfl, hb2⟩; have hzz := hb.out.size; have hd := Lib.hid ((show Below W.heap.size W _ by (repeat (first | (with_reducible exact hb.out) | (with_reducible refine Below.drew ?_) | (with_reducible refine Below.alloc ?_ ?_ _) | omega | (simp <;> omega)))).trans (hb2.mono (by first | exact hzz | (simp <;> omega)))); clear hb; have hb := hd; replace hS := KS.out _ hb.out; clear hzz hd hb2)))
  all_goals clear cL cK cO cA cB cC cD cE
  all_goals go_wp2
  all_goals go_region_held3 (fun WW => WW.cell? ⟨w.heap.size, 0, none⟩ = some (.int .i64 q) ∧ WW.cell? ⟨w.heap.size, 1, none⟩ = some (.slice a1 n1 c1) ∧ WW.cell? ⟨w.heap.size, 2, none⟩ = some (.int .i64 k) ∧ WW.cell? ⟨w.heap.size, 3, none⟩ = some (.slice a2 n2 c2) ∧ WW.cell? ⟨w.heap.size + 1, 0, none⟩ = some (.int .i64 q') ∧ WW.cell? ⟨w.heap.size + 1, 1, none⟩ = some (.slice a7 n7 c7) ∧ WW.cell? ⟨w.heap.size + 1, 2, none⟩ = some (.int .i64 k') ∧ WW.cell? ⟨w.heap.size + 1, 3, none⟩ = some (.slice a8 n8 c8) ∧ WW.cell? ⟨w3.heap.size, 0, none⟩ = some (.int .i64 q) ∧ WW.cell? ⟨w3.heap.size, 1, none⟩ = some (.slice a3 n1 c3) ∧ WW.cell? ⟨w3.heap.size, 2, none⟩ = some (.int .i64 k) ∧ WW.cell? ⟨w3.heap.size, 3, none⟩ = some (.slice a4 n2 c4)) (first | (with_reducible exact hS) | exact KS.out _ (by (repeat (first | (with_reducible exact hb.out) | (with_reducible refine Below.drew ?_) | (with_reducible refine Below.alloc ?_ ?_ _) | omega | (simp <;> omega))))) (first
    | (go_at_call 17; ((with_reducible refine (cF _ (bV.out _ ?hb)).mono ?_); (case hb => (repeat (first | (with_reducible exact hb.out) | (with_reducible refine Below.drew ?_) | (with_reducible refine Below.alloc ?_ ?_ _) | omega | (simp <;> omega)))); rintro e wA ⟨sl', sc', rfl, ho, hb2⟩; have hzz := hb.out.size; have OA := Lib.hid ((mine_of_own ho).mono (show W.heap.size ≤ _ by first | exact hzz | (simp <;> omega)) (Nat.le_refl _)); obtain ⟨a11, c11, e11⟩ := own_len ho.1; obtain ⟨a12, c12, e12⟩ := own_len ho.2; rw [N1.out] at e11; rw [N2.out] at e12; subst e11 e12; have hd := Lib.hid ((show Below W.heap.size W _ by (repeat (first | (with_reducible exact hb.out) | (with_reducible refine Below.drew ?_) | (with_reducible refine Below.alloc ?_ ?_ _) | omega | (simp <;> omega)))).trans (hb2.mono (by first | exact hzz | (simp <;> omega)))); clear hb; have hb := hd; replace hS := KS.out _ hb.out; clear hzz hd hb2 ho))
    | (go_at_call 16; ((with_reducible refine (is_any q k 0 (.slice a11 n1 c11) (.slice a12 n2 c12) _ _ ls cs W.heap.size wA.heap.size _ (OA.out.below ?hd) (HOW.out.below ?hb) ?hc hz1 hz2).mono ?_); (case hd => (repeat (first | (with_reducible exact Below.refl _ _) | (with_reducible refine Below.drew ?_)))); (case hb => (repeat (first | (with_reducible exact hb.out) | (with_reducible refine Below.drew ?_) | (with_reducible refine Below.alloc ?_ ?_ _) | omega | (simp <;> omega)))); (case hc => simp); rintro e wT ⟨rfl, hb2⟩; have hzz := hb.out.size; have hd := Lib.hid ((show Below W.heap.size W _ by (repeat (first | (with_reducible exact hb.out) | (with_reducible refine Below.drew ?_) | (with_reducible refine Below.alloc ?_ ?_ _) | omega | (simp <;> omega)))).trans (hb2.below (by first | exact hzz | (simp <;> omega)))); clear hb; have hb := hd; replace hS := KS.out _ hb.out; clear hzz hd hb2))
    | (go_at_call 18; ((with_reducible refine (cG _ (bV.out _ ?hb)).mono ?_); (case hb => (repeat (first | (with_reducible exact hb.out) | (with_reducible refine Below.drew ?_) | (with_reducible refine Below.alloc ?_ ?_ _) | omega | (simp <;> omega)))); rintro e wB ⟨sl', sc', rfl, ho, hb2⟩; have hzz := hb.out.size; have OB := Lib.hid ((mine_of_own ho).mono (show W.heap.size ≤ _ by first | exact hzz | (simp <;> omega)) (Nat.le_refl _)); obtain ⟨a13, c13, e13⟩ := own_len ho.1; obtain ⟨a14, c14, e14⟩ : ∃ a c, sc' = .slice a 0 c := own_len ho.2; rw [N1.out] at e13; subst e13 e14; have hd := Lib.hid ((show Below W.heap.size W _ by (repeat (first | (with_reducible exact hb.out) | (with_reducible refine Below.drew ?_) | (with_reducible refine Below.alloc ?_ ?_ _) | omega | (simp <;> omega)))).trans (hb2.mono (by first | exact hzz | (simp <;> omega)))); clear hb; have hb := hd; replace hS := KS.out _ hb.out; clear hzz hd hb2 ho))
    | (go_at_call 19; ((with_reducible refine (cH _ _ _ (HOW.out.below ?hb)).mono ?_); (case hb => (repeat (first | (with_reducible exact hb.out) | (with_reducible refine Below.drew ?_) | (with_reducible refine Below.alloc ?_ ?_ _) | omega | (simp <;> omega)))); rintro e wC ⟨sl', sc', rfl, ho, hb2⟩; have hzz := hb.out.size; have OC := Lib.hid (lnAt_of_own ho); replace OB := Lib.hid (OB.out.below ((show Below wB.heap.size wB _ by (repeat (first | (with_reducible exact Below.refl _ _) | (with_reducible refine Below.drew ?_)))).trans (hb2.mono (by simp)))); have hzBC : wB.heap.size ≤ wC.heap.size := (by have := hb2.size; simpa using this); obtain ⟨a15, c15, e15⟩ := own_len ho.1; obtain ⟨a16, c16, e16⟩ : ∃ a c, sc' = .slice a 0 c := own_len ho.2; rw [N1.out] at e15; subst e15 e16; have hd := Lib.hid ((show Below W.heap.size W _ by (repeat (first | (with_reducible exact hb.out) | (with_reducible refine Below.drew ?_) | (with_reducible refine Below.alloc ?_ ?_ _) | omega | (simp <;> omega)))).trans (hb2.mono (by first | exact hzz | (simp <;> omega)))); clear hb; have hb := hd; replace hS := KS.out _ hb.out; clear hzz hd hb2 ho))
    | (go_at_call 16; ((with_reducible refine (is_any q k 0 (.slice a13 n1 c13) (.slice a14 0 c14) _ _ ls [] W.heap.size wB.heap.size _ (OB.out.below ?hd) (OC.out.below ?hb) ?hc hz1 hz3).mono ?_); (case hd => (repeat (first | (with_reducible exact Below.refl _ _) | (with_reducible refine Below.drew ?_)))); (case hb => (repeat (first | (with_reducible exact Below.refl _ _) | (with_reducible refine Below.drew ?_)))); (case hc => first | exact hzBC | (simp <;> omega)); rintro e wU ⟨rfl, hb2⟩; have hzz := hb.out.size; have hd := Lib.hid ((show Below W.heap.size W _ by (repeat (first | (with_reducible exact hb.out) | (with_reducible refine Below.drew ?_) | (with_reducible refine Below.alloc ?_ ?_ _) | omega | (simp <;> omega)))).trans (hb2.below (by first | exact hzz | (simp <;> omega)))); clear hb; have hb := hd; replace hS := KS.out _ hb.out; clear hzz hd hb2))
    | (go_at_call 15; ((with_reducible refine (cI _ _ _ (bV.out _ ?hb) (HOW.out.below ?hc)).mono ?_); (case hb => (repeat (first | (with_reducible exact hb.out) | (with_reducible refine Below.drew ?_) | (with_reducible refine Below.alloc ?_ ?_ _) | omega | (simp <;> omega)))); (case hc => (repeat (first | (with_reducible exact hb.out) | (with_reducible refine Below.drew ?_) | (with_reducible refine Below.alloc ?_ ?_ _) | omega | (simp <;> omega)))); rintro e wS ⟨rfl, hb2⟩; have hzz := hb.out.size; have hd := Lib.hid ((show Below W.heap.size W _ by (repeat (first | (with_reducible exact hb.out) | (with_reducible refine Below.drew ?_) | (with_reducible refine Below.alloc ?_ ?_ _) | omega | (simp <;> omega)))).trans (hb2.mono (by first | exact hzz | (simp <;> omega)))); clear hb; have hb := hd; replace hS := KS.out _ hb.out; clear hzz hd hb2))
    | (go_at_call 10; ((with_reducible refine (haw _ (bV.out _ ?hb)).mono ?_); (case hb => (repeat (first | (with_reducible exact hb.out) | (with_reducible refine Below.drew ?_) | (with_reducible refine Below.alloc ?_ ?_ _) | omega | (simp <;> omega)))); rintro e wZ ⟨rfl, hb2⟩; have hzz := hb.out.size; have hd := Lib.hid ((show Below W.heap.size W _ by (repeat (first | (with_reducible exact hb.out) | (with_reducible refine Below.drew ?_) | (with_reducible refine Below.alloc ?_ ?_ _) | omega | (simp <;> omega)))).trans (hb2.mono (by first | exact hzz | (simp <;> omega)))); clear hb; have hb := hd; replace hS := KS.out _ hb.out; clear hzz hd hb2)))
  all_goals go_wp2
  all_goals go_ret
  all_goals exact ⟨rfl, bV.out _ hb.out⟩

end Go.Proofs.YtmlipcedkgfmiaaDoor
