/-
  What all calls ask first: asking's closure, for each thing that is done to a line.
-/
import Derived.Test.YtmlipcedkgfmiaaDoorLMay
import Derived.Test.YtmlipcedkgfmiaaDoorDoC
namespace Go.Proofs.YtmlipcedkgfmiaaDoor
open Go.RowKit Go.Lib

/-- What a call answers: a code, and a line whose rows are new. -/
def AskPost (r : Int × Ln) (w : World) (e : Ending) (w' : World) : Prop :=
  ∃ sl sc, e = .returned (.tuple #[.agg #[.int .i64 r.2.q, sl, .int .i64 r.2.k, sc], .int .i64 r.1]) ∧ MineLn w.heap.size w'.heap.size w' sl sc r.2.ls r.2.cs ∧ Below w.heap.size w w'
theorem mine_nil (B C : Nat) (w : World) : MineLn B C w (.slice none 0 0) (.slice none 0 0) [] [] :=
  ⟨⟨.inl ⟨none, 0, rfl, fun _ => rfl, by decide, rfl⟩, fun h => absurd h (by decide)⟩, ⟨.inl ⟨none, 0, rfl, fun _ => rfl, by decide, rfl⟩, fun h => absurd h (by decide)⟩, fun h => absurd h (by decide)⟩
theorem mine_put4 {A B C r : Nat} {w1 : World} {q k : Int} {s c sl sc : Value} {ls : IRow} {cs : Row} (h : MineLn B C w1 sl sc ls cs) (hC : C ≤ w1.heap.size) (hA : A ≤ B) (hr : r < B) : MineLn A (put4 w1 r q s k c).heap.size (put4 w1 r q s k c) sl sc ls cs :=
  (h.kept (put4_kept (.inl hr))).mono hA (by rw [put4_size]; exact hC)

set_option maxRecDepth 20000 in
set_option maxHeartbeats 8000000 in
theorem ask_indent (q k : Int) (sl sc : Value) (ls : IRow) (cs : Row) (D : Nat) (w : World) (h : LnAt w sl sc ls cs) (hls : ls.length ≤ 50000) (hcs : cs.length ≤ 50000) (hf : Fair cs) (hE : Tg.Env w)
    (hD : w.cell? ⟨D, 0, none⟩ = some (.func (.func 52) #[] #[])) (R : Int × Ln) (hR : R.1 ≠ 0 → R.2 = ln0)
    (cD : mayS ⟨q, ls, k, cs⟩ = true → ∀ (w1 : World) (b B C : Nat) (sl' sc' : Value), Below w.heap.size w w1 → BoxAt w1 b q sl' k sc' → MineLn B C w1 sl' sc' ls cs → B ≤ C → C ≤ b → w.heap.size ≤ B → Calls Tryd.prog 52 #[.pointer (some ⟨b, 0, none⟩)] w1 (DoPost B b R w1)) :
    Calls Tryd.prog 66 #[.agg #[.int .i64 q, sl, .int .i64 k, sc], .pointer (some ⟨D, 0, none⟩)] w (AskPost (if mayS ⟨q, ls, k, cs⟩ = true then R else (1, ln0)) w) := by
  obtain ⟨a1, c1, rfl⟩ := h.z.len
  obtain ⟨a2, c2, rfl⟩ := h.r.len
  have hDl : D < w.heap.size := lt_of_cell' hD
  have cM : ∀ w1, Below w.heap.size w w1 → Calls Tryd.prog 12 #[.agg #[.int .i64 q, .slice a1 ls.length c1, .int .i64 k, .slice a2 cs.length c2]] w1 fun e w' => e = .returned (.bool (mayS ⟨q, ls, k, cs⟩)) ∧ Below w1.heap.size w1 w' := fun w1 h1 => lmay_any q k _ _ ls cs w1 (h.below h1) hls hcs hf (hE.below h1)
  have cO : ∀ w1, Below w.heap.size w w1 → Calls Tryd.prog 17 #[.agg #[.int .i64 q, .slice a1 ls.length c1, .int .i64 k, .slice a2 cs.length c2]] w1 fun e w' => ∃ sl' sc', e = .returned (.agg #[.int .i64 q, sl', .int .i64 k, sc']) ∧ OwnLn w1.heap.size w' sl' sc' ls cs ∧ Below w1.heap.size w1 w' := fun w1 h1 => lown_any q k _ _ ls cs w1 (h.z.below h1) (h.r.below h1) hls hcs
  have HX := Lib.hid (box_two w q k 0 0 (.slice a1 ls.length c1) (.slice a2 cs.length c2) (.slice none 0 0) (.slice none 0 0))
  obtain ⟨n1, hn1⟩ : ∃ n, ls.length = n := ⟨_, rfl⟩
  obtain ⟨n2, hn2⟩ : ∃ n, cs.length = n := ⟨_, rfl⟩
  rw [hn1] at cM cO HX ⊢
  rw [hn2] at cM cO HX ⊢
  have N1 := Lib.hid hn1
  have N2 := Lib.hid hn2
  have HD := Lib.hid hD
  obtain ⟨M, hM⟩ : ∃ M, mayS ⟨q, ls, k, cs⟩ = M := ⟨_, rfl⟩
  rw [hM] at cM cD ⊢
  clear h hls hcs hf hE hn1 hn2 hM hD
  have hu : w.heap.size < w.heap.size + 1 := by omega
  cases M with
  | false =>
    rw [if_neg (by decide)]
    clear cD cO
    go_enter Tryd.func66, Tryd.ntmps66
    go_wp2_with (go_at_call 12; ((with_reducible refine (cM _ HX.out.1).mono ?_); rintro e w1 ⟨rfl, hb⟩; obtain ⟨b2, B0, B1⟩ := HX.out; have bW := Lib.hid (b2.trans (hb.mono b2.size)); obtain ⟨l0, x0, x1, x2, x3, y0, y1, y2, y3⟩ := B1.below hb; clear b2 B0 B1 hb))
    exact bodyPost_ret (v := .tuple #[.agg #[.int .i64 0, .slice none 0 0, .int .i64 0, .slice none 0 0], .int .i64 1]) (by simp [results, Tryd.results66, go_sem, *]) rfl ⟨_, _, rfl, mine_nil _ _ _, put4_below bW.out (Nat.le_of_lt hu)⟩
  | true =>
    rw [if_pos rfl]
    replace cD := cD rfl
    obtain ⟨code, L'⟩ := R
    by_cases hc : code = 0
    · subst hc
      clear hR
      obtain ⟨q', ls', k', cs'⟩ := L'
      go_enter Tryd.func66, Tryd.ntmps66
      go_wp2_with (first
        | (go_at_call 12; ((with_reducible refine (cM _ HX.out.1).mono ?_); rintro e w1 ⟨rfl, hb⟩; obtain ⟨b2, B0, B1⟩ := HX.out; have bW := Lib.hid (b2.trans (hb.mono b2.size)); have HB1 := Lib.hid (B1.below hb); have hs1 : w.heap.size + 1 < w1.heap.size := HB1.out.lt; obtain ⟨l0, x0, x1, x2, x3, y0, y1, y2, y3⟩ := B0.below hb; clear b2 B0 B1 hb))
        | (go_at_call 17; ((with_reducible refine (cO _ bW.out).mono ?_); rintro e w2 ⟨sl', sc', rfl, ho, hb2⟩; have hb12 := Lib.hid hb2; have hs2 := hb2.size; have bW2 := Lib.hid (bW.out.trans (hb2.mono (by omega))); have HO := Lib.hid (mine_of_own ho); obtain ⟨a3, c3, e3⟩ := own_len ho.1; obtain ⟨a4, c4, e4⟩ := own_len ho.2; rw [N1.out] at e3; rw [N2.out] at e4; subst e3 e4; have hD2 : w2.cell? ⟨D, 0, none⟩ = _ := (bW2.out.cell (p := ⟨D, 0, none⟩) hDl).trans HD.out; have hD3 : D < w2.heap.size := (by omega); clear ho hb2))
        | (go_at_call 52; ((with_reducible refine (cD _ w2.heap.size w1.heap.size w2.heap.size (.slice a3 n1 c3) (.slice a4 n2 c4) ?hb ?hx ?hm ?h1 ?h2 ?h3).mono ?_); (case hb => exact bW2.out.alloc (by omega) _); (case hx => exact box_new w2 q k _ _); (case hm => exact HO.out.below ((Below.refl _ w2).alloc (Nat.le_refl _) _)); (case h1 => omega); (case h2 => omega); (case h3 => omega); rintro e w3 ⟨rfl, hbd, hr⟩; obtain ⟨sl3, sc3, hbx, hm3⟩ := hr rfl; dsimp only at hbx hm3; obtain ⟨a5, c5, e5⟩ := hm3.z.here.len; obtain ⟨a6, c6, e6⟩ := hm3.r.here.len; subst e5 e6; have HM3 := Lib.hid hm3; obtain ⟨m0, z0, z1, z2, z3, _, _, _, _⟩ := hbx; have hbw3 := Lib.hid ((hb12.out.alloc (by omega) _).trans hbd); obtain ⟨l1, u0, u1, u2, u3, v0, v1, v2, v3⟩ := HB1.out.below hbw3.out; clear hm3 hbd hr)))
      exact bodyPost_ret (v := .tuple #[.agg #[.int .i64 q', .slice a5 ls'.length c5, .int .i64 k', .slice a6 cs'.length c6], .int .i64 0]) (by simp [results, Tryd.results66, go_sem, *]) rfl ⟨_, _, rfl, mine_put4 HM3.out (Nat.le_refl _) (by omega) (by omega), put4_below (bW.out.trans (hbw3.out.mono (by omega))) (Nat.le_of_lt hu)⟩
    · have hc2 : (code != 0) = true := by simpa using hc
      obtain rfl : L' = ln0 := hR hc
      have hcode : (code == 0) = false := by simpa using hc
      clear hR
      go_enter Tryd.func66, Tryd.ntmps66
      go_wp2_with (first
        | (go_at_call 12; ((with_reducible refine (cM _ HX.out.1).mono ?_); rintro e w1 ⟨rfl, hb⟩; obtain ⟨b2, B0, B1⟩ := HX.out; have bW := Lib.hid (b2.trans (hb.mono b2.size)); have HB1 := Lib.hid (B1.below hb); have hs1 : w.heap.size + 1 < w1.heap.size := HB1.out.lt; obtain ⟨l0, x0, x1, x2, x3, y0, y1, y2, y3⟩ := B0.below hb; clear b2 B0 B1 hb))
        | (go_at_call 17; ((with_reducible refine (cO _ bW.out).mono ?_); rintro e w2 ⟨sl', sc', rfl, ho, hb2⟩; have hb12 := Lib.hid hb2; have hs2 := hb2.size; have bW2 := Lib.hid (bW.out.trans (hb2.mono (by omega))); have HO := Lib.hid (mine_of_own ho); obtain ⟨a3, c3, e3⟩ := own_len ho.1; obtain ⟨a4, c4, e4⟩ := own_len ho.2; rw [N1.out] at e3; rw [N2.out] at e4; subst e3 e4; have hD2 : w2.cell? ⟨D, 0, none⟩ = _ := (bW2.out.cell (p := ⟨D, 0, none⟩) hDl).trans HD.out; have hD3 : D < w2.heap.size := (by omega); clear ho hb2))
        | (go_at_call 52; ((with_reducible refine (cD _ w2.heap.size w1.heap.size w2.heap.size (.slice a3 n1 c3) (.slice a4 n2 c4) ?hb ?hx ?hm ?h1 ?h2 ?h3).mono ?_); (case hb => exact bW2.out.alloc (by omega) _); (case hx => exact box_new w2 q k _ _); (case hm => exact HO.out.below ((Below.refl _ w2).alloc (Nat.le_refl _) _)); (case h1 => omega); (case h2 => omega); (case h3 => omega); rintro e w3 ⟨rfl, hbd, hr⟩; have hbw3 := Lib.hid ((hb12.out.alloc (by omega) _).trans hbd); obtain ⟨l1, u0, u1, u2, u3, v0, v1, v2, v3⟩ := HB1.out.below hbw3.out; clear hbd hr)))
      exact bodyPost_ret (v := .tuple #[.agg #[.int .i64 0, .slice none 0 0, .int .i64 0, .slice none 0 0], .int .i64 code]) (by simp [results, Tryd.results66, go_sem, *]) rfl ⟨_, _, rfl, mine_nil _ _ _, put4_below (bW.out.trans (hbw3.out.mono (by omega))) (Nat.le_of_lt hu)⟩

set_option maxRecDepth 20000 in
set_option maxHeartbeats 8000000 in
theorem ask_outdent (q k : Int) (sl sc : Value) (ls : IRow) (cs : Row) (D : Nat) (w : World) (h : LnAt w sl sc ls cs) (hls : ls.length ≤ 50000) (hcs : cs.length ≤ 50000) (hf : Fair cs) (hE : Tg.Env w)
    (hD : w.cell? ⟨D, 0, none⟩ = some (.func (.func 53) #[] #[])) (R : Int × Ln) (hR : R.1 ≠ 0 → R.2 = ln0)
    (cD : mayS ⟨q, ls, k, cs⟩ = true → ∀ (w1 : World) (b B C : Nat) (sl' sc' : Value), Below w.heap.size w w1 → BoxAt w1 b q sl' k sc' → MineLn B C w1 sl' sc' ls cs → B ≤ C → C ≤ b → w.heap.size ≤ B → Calls Tryd.prog 53 #[.pointer (some ⟨b, 0, none⟩)] w1 (DoPost B b R w1)) :
    Calls Tryd.prog 66 #[.agg #[.int .i64 q, sl, .int .i64 k, sc], .pointer (some ⟨D, 0, none⟩)] w (AskPost (if mayS ⟨q, ls, k, cs⟩ = true then R else (1, ln0)) w) := by
  obtain ⟨a1, c1, rfl⟩ := h.z.len
  obtain ⟨a2, c2, rfl⟩ := h.r.len
  have hDl : D < w.heap.size := lt_of_cell' hD
  have cM : ∀ w1, Below w.heap.size w w1 → Calls Tryd.prog 12 #[.agg #[.int .i64 q, .slice a1 ls.length c1, .int .i64 k, .slice a2 cs.length c2]] w1 fun e w' => e = .returned (.bool (mayS ⟨q, ls, k, cs⟩)) ∧ Below w1.heap.size w1 w' := fun w1 h1 => lmay_any q k _ _ ls cs w1 (h.below h1) hls hcs hf (hE.below h1)
  have cO : ∀ w1, Below w.heap.size w w1 → Calls Tryd.prog 17 #[.agg #[.int .i64 q, .slice a1 ls.length c1, .int .i64 k, .slice a2 cs.length c2]] w1 fun e w' => ∃ sl' sc', e = .returned (.agg #[.int .i64 q, sl', .int .i64 k, sc']) ∧ OwnLn w1.heap.size w' sl' sc' ls cs ∧ Below w1.heap.size w1 w' := fun w1 h1 => lown_any q k _ _ ls cs w1 (h.z.below h1) (h.r.below h1) hls hcs
  have HX := Lib.hid (box_two w q k 0 0 (.slice a1 ls.length c1) (.slice a2 cs.length c2) (.slice none 0 0) (.slice none 0 0))
  obtain ⟨n1, hn1⟩ : ∃ n, ls.length = n := ⟨_, rfl⟩
  obtain ⟨n2, hn2⟩ : ∃ n, cs.length = n := ⟨_, rfl⟩
  rw [hn1] at cM cO HX ⊢
  rw [hn2] at cM cO HX ⊢
  have N1 := Lib.hid hn1
  have N2 := Lib.hid hn2
  have HD := Lib.hid hD
  obtain ⟨M, hM⟩ : ∃ M, mayS ⟨q, ls, k, cs⟩ = M := ⟨_, rfl⟩
  rw [hM] at cM cD ⊢
  clear h hls hcs hf hE hn1 hn2 hM hD
  have hu : w.heap.size < w.heap.size + 1 := by omega
  cases M with
  | false =>
    rw [if_neg (by decide)]
    clear cD cO
    go_enter Tryd.func66, Tryd.ntmps66
    go_wp2_with (go_at_call 12; ((with_reducible refine (cM _ HX.out.1).mono ?_); rintro e w1 ⟨rfl, hb⟩; obtain ⟨b2, B0, B1⟩ := HX.out; have bW := Lib.hid (b2.trans (hb.mono b2.size)); obtain ⟨l0, x0, x1, x2, x3, y0, y1, y2, y3⟩ := B1.below hb; clear b2 B0 B1 hb))
    exact bodyPost_ret (v := .tuple #[.agg #[.int .i64 0, .slice none 0 0, .int .i64 0, .slice none 0 0], .int .i64 1]) (by simp [results, Tryd.results66, go_sem, *]) rfl ⟨_, _, rfl, mine_nil _ _ _, put4_below bW.out (Nat.le_of_lt hu)⟩
  | true =>
    rw [if_pos rfl]
    replace cD := cD rfl
    obtain ⟨code, L'⟩ := R
    by_cases hc : code = 0
    · subst hc
      clear hR
      obtain ⟨q', ls', k', cs'⟩ := L'
      go_enter Tryd.func66, Tryd.ntmps66
      go_wp2_with (first
        | (go_at_call 12; ((with_reducible refine (cM _ HX.out.1).mono ?_); rintro e w1 ⟨rfl, hb⟩; obtain ⟨b2, B0, B1⟩ := HX.out; have bW := Lib.hid (b2.trans (hb.mono b2.size)); have HB1 := Lib.hid (B1.below hb); have hs1 : w.heap.size + 1 < w1.heap.size := HB1.out.lt; obtain ⟨l0, x0, x1, x2, x3, y0, y1, y2, y3⟩ := B0.below hb; clear b2 B0 B1 hb))
        | (go_at_call 17; ((with_reducible refine (cO _ bW.out).mono ?_); rintro e w2 ⟨sl', sc', rfl, ho, hb2⟩; have hb12 := Lib.hid hb2; have hs2 := hb2.size; have bW2 := Lib.hid (bW.out.trans (hb2.mono (by omega))); have HO := Lib.hid (mine_of_own ho); obtain ⟨a3, c3, e3⟩ := own_len ho.1; obtain ⟨a4, c4, e4⟩ := own_len ho.2; rw [N1.out] at e3; rw [N2.out] at e4; subst e3 e4; have hD2 : w2.cell? ⟨D, 0, none⟩ = _ := (bW2.out.cell (p := ⟨D, 0, none⟩) hDl).trans HD.out; have hD3 : D < w2.heap.size := (by omega); clear ho hb2))
        | (go_at_call 53; ((with_reducible refine (cD _ w2.heap.size w1.heap.size w2.heap.size (.slice a3 n1 c3) (.slice a4 n2 c4) ?hb ?hx ?hm ?h1 ?h2 ?h3).mono ?_); (case hb => exact bW2.out.alloc (by omega) _); (case hx => exact box_new w2 q k _ _); (case hm => exact HO.out.below ((Below.refl _ w2).alloc (Nat.le_refl _) _)); (case h1 => omega); (case h2 => omega); (case h3 => omega); rintro e w3 ⟨rfl, hbd, hr⟩; obtain ⟨sl3, sc3, hbx, hm3⟩ := hr rfl; dsimp only at hbx hm3; obtain ⟨a5, c5, e5⟩ := hm3.z.here.len; obtain ⟨a6, c6, e6⟩ := hm3.r.here.len; subst e5 e6; have HM3 := Lib.hid hm3; obtain ⟨m0, z0, z1, z2, z3, _, _, _, _⟩ := hbx; have hbw3 := Lib.hid ((hb12.out.alloc (by omega) _).trans hbd); obtain ⟨l1, u0, u1, u2, u3, v0, v1, v2, v3⟩ := HB1.out.below hbw3.out; clear hm3 hbd hr)))
      exact bodyPost_ret (v := .tuple #[.agg #[.int .i64 q', .slice a5 ls'.length c5, .int .i64 k', .slice a6 cs'.length c6], .int .i64 0]) (by simp [results, Tryd.results66, go_sem, *]) rfl ⟨_, _, rfl, mine_put4 HM3.out (Nat.le_refl _) (by omega) (by omega), put4_below (bW.out.trans (hbw3.out.mono (by omega))) (Nat.le_of_lt hu)⟩
    · have hc2 : (code != 0) = true := by simpa using hc
      obtain rfl : L' = ln0 := hR hc
      have hcode : (code == 0) = false := by simpa using hc
      clear hR
      go_enter Tryd.func66, Tryd.ntmps66
      go_wp2_with (first
        | (go_at_call 12; ((with_reducible refine (cM _ HX.out.1).mono ?_); rintro e w1 ⟨rfl, hb⟩; obtain ⟨b2, B0, B1⟩ := HX.out; have bW := Lib.hid (b2.trans (hb.mono b2.size)); have HB1 := Lib.hid (B1.below hb); have hs1 : w.heap.size + 1 < w1.heap.size := HB1.out.lt; obtain ⟨l0, x0, x1, x2, x3, y0, y1, y2, y3⟩ := B0.below hb; clear b2 B0 B1 hb))
        | (go_at_call 17; ((with_reducible refine (cO _ bW.out).mono ?_); rintro e w2 ⟨sl', sc', rfl, ho, hb2⟩; have hb12 := Lib.hid hb2; have hs2 := hb2.size; have bW2 := Lib.hid (bW.out.trans (hb2.mono (by omega))); have HO := Lib.hid (mine_of_own ho); obtain ⟨a3, c3, e3⟩ := own_len ho.1; obtain ⟨a4, c4, e4⟩ := own_len ho.2; rw [N1.out] at e3; rw [N2.out] at e4; subst e3 e4; have hD2 : w2.cell? ⟨D, 0, none⟩ = _ := (bW2.out.cell (p := ⟨D, 0, none⟩) hDl).trans HD.out; have hD3 : D < w2.heap.size := (by omega); clear ho hb2))
        | (go_at_call 53; ((with_reducible refine (cD _ w2.heap.size w1.heap.size w2.heap.size (.slice a3 n1 c3) (.slice a4 n2 c4) ?hb ?hx ?hm ?h1 ?h2 ?h3).mono ?_); (case hb => exact bW2.out.alloc (by omega) _); (case hx => exact box_new w2 q k _ _); (case hm => exact HO.out.below ((Below.refl _ w2).alloc (Nat.le_refl _) _)); (case h1 => omega); (case h2 => omega); (case h3 => omega); rintro e w3 ⟨rfl, hbd, hr⟩; have hbw3 := Lib.hid ((hb12.out.alloc (by omega) _).trans hbd); obtain ⟨l1, u0, u1, u2, u3, v0, v1, v2, v3⟩ := HB1.out.below hbw3.out; clear hbd hr)))
      exact bodyPost_ret (v := .tuple #[.agg #[.int .i64 0, .slice none 0 0, .int .i64 0, .slice none 0 0], .int .i64 code]) (by simp [results, Tryd.results66, go_sem, *]) rfl ⟨_, _, rfl, mine_nil _ _ _, put4_below (bW.out.trans (hbw3.out.mono (by omega))) (Nat.le_of_lt hu)⟩

set_option maxRecDepth 20000 in
set_option maxHeartbeats 8000000 in
theorem ask_free (q k : Int) (sl sc : Value) (ls : IRow) (cs : Row) (D : Nat) (w : World) (h : LnAt w sl sc ls cs) (hls : ls.length ≤ 50000) (hcs : cs.length ≤ 50000) (hf : Fair cs) (hE : Tg.Env w)
    (hD : w.cell? ⟨D, 0, none⟩ = some (.func (.func 57) #[] #[])) (R : Int × Ln) (hR : R.1 ≠ 0 → R.2 = ln0)
    (cD : mayS ⟨q, ls, k, cs⟩ = true → ∀ (w1 : World) (b B C : Nat) (sl' sc' : Value), Below w.heap.size w w1 → BoxAt w1 b q sl' k sc' → MineLn B C w1 sl' sc' ls cs → B ≤ C → C ≤ b → w.heap.size ≤ B → Calls Tryd.prog 57 #[.pointer (some ⟨b, 0, none⟩)] w1 (DoPost B b R w1)) :
    Calls Tryd.prog 66 #[.agg #[.int .i64 q, sl, .int .i64 k, sc], .pointer (some ⟨D, 0, none⟩)] w (AskPost (if mayS ⟨q, ls, k, cs⟩ = true then R else (1, ln0)) w) := by
  obtain ⟨a1, c1, rfl⟩ := h.z.len
  obtain ⟨a2, c2, rfl⟩ := h.r.len
  have hDl : D < w.heap.size := lt_of_cell' hD
  have cM : ∀ w1, Below w.heap.size w w1 → Calls Tryd.prog 12 #[.agg #[.int .i64 q, .slice a1 ls.length c1, .int .i64 k, .slice a2 cs.length c2]] w1 fun e w' => e = .returned (.bool (mayS ⟨q, ls, k, cs⟩)) ∧ Below w1.heap.size w1 w' := fun w1 h1 => lmay_any q k _ _ ls cs w1 (h.below h1) hls hcs hf (hE.below h1)
  have cO : ∀ w1, Below w.heap.size w w1 → Calls Tryd.prog 17 #[.agg #[.int .i64 q, .slice a1 ls.length c1, .int .i64 k, .slice a2 cs.length c2]] w1 fun e w' => ∃ sl' sc', e = .returned (.agg #[.int .i64 q, sl', .int .i64 k, sc']) ∧ OwnLn w1.heap.size w' sl' sc' ls cs ∧ Below w1.heap.size w1 w' := fun w1 h1 => lown_any q k _ _ ls cs w1 (h.z.below h1) (h.r.below h1) hls hcs
  have HX := Lib.hid (box_two w q k 0 0 (.slice a1 ls.length c1) (.slice a2 cs.length c2) (.slice none 0 0) (.slice none 0 0))
  obtain ⟨n1, hn1⟩ : ∃ n, ls.length = n := ⟨_, rfl⟩
  obtain ⟨n2, hn2⟩ : ∃ n, cs.length = n := ⟨_, rfl⟩
  rw [hn1] at cM cO HX ⊢
  rw [hn2] at cM cO HX ⊢
  have N1 := Lib.hid hn1
  have N2 := Lib.hid hn2
  have HD := Lib.hid hD
  obtain ⟨M, hM⟩ : ∃ M, mayS ⟨q, ls, k, cs⟩ = M := ⟨_, rfl⟩
  rw [hM] at cM cD ⊢
  clear h hls hcs hf hE hn1 hn2 hM hD
  have hu : w.heap.size < w.heap.size + 1 := by omega
  cases M with
  | false =>
    rw [if_neg (by decide)]
    clear cD cO
    go_enter Tryd.func66, Tryd.ntmps66
    go_wp2_with (go_at_call 12; ((with_reducible refine (cM _ HX.out.1).mono ?_); rintro e w1 ⟨rfl, hb⟩; obtain ⟨b2, B0, B1⟩ := HX.out; have bW := Lib.hid (b2.trans (hb.mono b2.size)); obtain ⟨l0, x0, x1, x2, x3, y0, y1, y2, y3⟩ := B1.below hb; clear b2 B0 B1 hb))
    exact bodyPost_ret (v := .tuple #[.agg #[.int .i64 0, .slice none 0 0, .int .i64 0, .slice none 0 0], .int .i64 1]) (by simp [results, Tryd.results66, go_sem, *]) rfl ⟨_, _, rfl, mine_nil _ _ _, put4_below bW.out (Nat.le_of_lt hu)⟩
  | true =>
    rw [if_pos rfl]
    replace cD := cD rfl
    obtain ⟨code, L'⟩ := R
    by_cases hc : code = 0
    · subst hc
      clear hR
      obtain ⟨q', ls', k', cs'⟩ := L'
      go_enter Tryd.func66, Tryd.ntmps66
      go_wp2_with (first
        | (go_at_call 12; ((with_reducible refine (cM _ HX.out.1).mono ?_); rintro e w1 ⟨rfl, hb⟩; obtain ⟨b2, B0, B1⟩ := HX.out; have bW := Lib.hid (b2.trans (hb.mono b2.size)); have HB1 := Lib.hid (B1.below hb); have hs1 : w.heap.size + 1 < w1.heap.size := HB1.out.lt; obtain ⟨l0, x0, x1, x2, x3, y0, y1, y2, y3⟩ := B0.below hb; clear b2 B0 B1 hb))
        | (go_at_call 17; ((with_reducible refine (cO _ bW.out).mono ?_); rintro e w2 ⟨sl', sc', rfl, ho, hb2⟩; have hb12 := Lib.hid hb2; have hs2 := hb2.size; have bW2 := Lib.hid (bW.out.trans (hb2.mono (by omega))); have HO := Lib.hid (mine_of_own ho); obtain ⟨a3, c3, e3⟩ := own_len ho.1; obtain ⟨a4, c4, e4⟩ := own_len ho.2; rw [N1.out] at e3; rw [N2.out] at e4; subst e3 e4; have hD2 : w2.cell? ⟨D, 0, none⟩ = _ := (bW2.out.cell (p := ⟨D, 0, none⟩) hDl).trans HD.out; have hD3 : D < w2.heap.size := (by omega); clear ho hb2))
        | (go_at_call 57; ((with_reducible refine (cD _ w2.heap.size w1.heap.size w2.heap.size (.slice a3 n1 c3) (.slice a4 n2 c4) ?hb ?hx ?hm ?h1 ?h2 ?h3).mono ?_); (case hb => exact bW2.out.alloc (by omega) _); (case hx => exact box_new w2 q k _ _); (case hm => exact HO.out.below ((Below.refl _ w2).alloc (Nat.le_refl _) _)); (case h1 => omega); (case h2 => omega); (case h3 => omega); rintro e w3 ⟨rfl, hbd, hr⟩; obtain ⟨sl3, sc3, hbx, hm3⟩ := hr rfl; dsimp only at hbx hm3; obtain ⟨a5, c5, e5⟩ := hm3.z.here.len; obtain ⟨a6, c6, e6⟩ := hm3.r.here.len; subst e5 e6; have HM3 := Lib.hid hm3; obtain ⟨m0, z0, z1, z2, z3, _, _, _, _⟩ := hbx; have hbw3 := Lib.hid ((hb12.out.alloc (by omega) _).trans hbd); obtain ⟨l1, u0, u1, u2, u3, v0, v1, v2, v3⟩ := HB1.out.below hbw3.out; clear hm3 hbd hr)))
      exact bodyPost_ret (v := .tuple #[.agg #[.int .i64 q', .slice a5 ls'.length c5, .int .i64 k', .slice a6 cs'.length c6], .int .i64 0]) (by simp [results, Tryd.results66, go_sem, *]) rfl ⟨_, _, rfl, mine_put4 HM3.out (Nat.le_refl _) (by omega) (by omega), put4_below (bW.out.trans (hbw3.out.mono (by omega))) (Nat.le_of_lt hu)⟩
    · have hc2 : (code != 0) = true := by simpa using hc
      obtain rfl : L' = ln0 := hR hc
      have hcode : (code == 0) = false := by simpa using hc
      clear hR
      go_enter Tryd.func66, Tryd.ntmps66
      go_wp2_with (first
        | (go_at_call 12; ((with_reducible refine (cM _ HX.out.1).mono ?_); rintro e w1 ⟨rfl, hb⟩; obtain ⟨b2, B0, B1⟩ := HX.out; have bW := Lib.hid (b2.trans (hb.mono b2.size)); have HB1 := Lib.hid (B1.below hb); have hs1 : w.heap.size + 1 < w1.heap.size := HB1.out.lt; obtain ⟨l0, x0, x1, x2, x3, y0, y1, y2, y3⟩ := B0.below hb; clear b2 B0 B1 hb))
        | (go_at_call 17; ((with_reducible refine (cO _ bW.out).mono ?_); rintro e w2 ⟨sl', sc', rfl, ho, hb2⟩; have hb12 := Lib.hid hb2; have hs2 := hb2.size; have bW2 := Lib.hid (bW.out.trans (hb2.mono (by omega))); have HO := Lib.hid (mine_of_own ho); obtain ⟨a3, c3, e3⟩ := own_len ho.1; obtain ⟨a4, c4, e4⟩ := own_len ho.2; rw [N1.out] at e3; rw [N2.out] at e4; subst e3 e4; have hD2 : w2.cell? ⟨D, 0, none⟩ = _ := (bW2.out.cell (p := ⟨D, 0, none⟩) hDl).trans HD.out; have hD3 : D < w2.heap.size := (by omega); clear ho hb2))
        | (go_at_call 57; ((with_reducible refine (cD _ w2.heap.size w1.heap.size w2.heap.size (.slice a3 n1 c3) (.slice a4 n2 c4) ?hb ?hx ?hm ?h1 ?h2 ?h3).mono ?_); (case hb => exact bW2.out.alloc (by omega) _); (case hx => exact box_new w2 q k _ _); (case hm => exact HO.out.below ((Below.refl _ w2).alloc (Nat.le_refl _) _)); (case h1 => omega); (case h2 => omega); (case h3 => omega); rintro e w3 ⟨rfl, hbd, hr⟩; have hbw3 := Lib.hid ((hb12.out.alloc (by omega) _).trans hbd); obtain ⟨l1, u0, u1, u2, u3, v0, v1, v2, v3⟩ := HB1.out.below hbw3.out; clear hbd hr)))
      exact bodyPost_ret (v := .tuple #[.agg #[.int .i64 0, .slice none 0 0, .int .i64 0, .slice none 0 0], .int .i64 code]) (by simp [results, Tryd.results66, go_sem, *]) rfl ⟨_, _, rfl, mine_nil _ _ _, put4_below (bW.out.trans (hbw3.out.mono (by omega))) (Nat.le_of_lt hu)⟩

set_option maxRecDepth 20000 in
set_option maxHeartbeats 8000000 in
theorem ask_list (q k : Int) (sl sc : Value) (ls : IRow) (cs : Row) (D K : Nat) (w : World) (h : LnAt w sl sc ls cs) (hls : ls.length ≤ 50000) (hcs : cs.length ≤ 50000) (hf : Fair cs) (hE : Tg.Env w)
    (hD : w.cell? ⟨D, 0, none⟩ = some (.func (.func 54) #[] #[.pointer (some ⟨K, 0, none⟩)])) (R : Int × Ln) (hR : R.1 ≠ 0 → R.2 = ln0)
    (cD : mayS ⟨q, ls, k, cs⟩ = true → ∀ (w1 : World) (b B C : Nat) (sl' sc' : Value), Below w.heap.size w w1 → BoxAt w1 b q sl' k sc' → MineLn B C w1 sl' sc' ls cs → B ≤ C → C ≤ b → w.heap.size ≤ B → Calls Tryd.prog 54 #[.pointer (some ⟨b, 0, none⟩), .pointer (some ⟨K, 0, none⟩)] w1 (DoPost B b R w1)) :
    Calls Tryd.prog 66 #[.agg #[.int .i64 q, sl, .int .i64 k, sc], .pointer (some ⟨D, 0, none⟩)] w (AskPost (if mayS ⟨q, ls, k, cs⟩ = true then R else (1, ln0)) w) := by
  obtain ⟨a1, c1, rfl⟩ := h.z.len
  obtain ⟨a2, c2, rfl⟩ := h.r.len
  have hDl : D < w.heap.size := lt_of_cell' hD
  have cM : ∀ w1, Below w.heap.size w w1 → Calls Tryd.prog 12 #[.agg #[.int .i64 q, .slice a1 ls.length c1, .int .i64 k, .slice a2 cs.length c2]] w1 fun e w' => e = .returned (.bool (mayS ⟨q, ls, k, cs⟩)) ∧ Below w1.heap.size w1 w' := fun w1 h1 => lmay_any q k _ _ ls cs w1 (h.below h1) hls hcs hf (hE.below h1)
  have cO : ∀ w1, Below w.heap.size w w1 → Calls Tryd.prog 17 #[.agg #[.int .i64 q, .slice a1 ls.length c1, .int .i64 k, .slice a2 cs.length c2]] w1 fun e w' => ∃ sl' sc', e = .returned (.agg #[.int .i64 q, sl', .int .i64 k, sc']) ∧ OwnLn w1.heap.size w' sl' sc' ls cs ∧ Below w1.heap.size w1 w' := fun w1 h1 => lown_any q k _ _ ls cs w1 (h.z.below h1) (h.r.below h1) hls hcs
  have HX := Lib.hid (box_two w q k 0 0 (.slice a1 ls.length c1) (.slice a2 cs.length c2) (.slice none 0 0) (.slice none 0 0))
  obtain ⟨n1, hn1⟩ : ∃ n, ls.length = n := ⟨_, rfl⟩
  obtain ⟨n2, hn2⟩ : ∃ n, cs.length = n := ⟨_, rfl⟩
  rw [hn1] at cM cO HX ⊢
  rw [hn2] at cM cO HX ⊢
  have N1 := Lib.hid hn1
  have N2 := Lib.hid hn2
  have HD := Lib.hid hD
  obtain ⟨M, hM⟩ : ∃ M, mayS ⟨q, ls, k, cs⟩ = M := ⟨_, rfl⟩
  rw [hM] at cM cD ⊢
  clear h hls hcs hf hE hn1 hn2 hM hD
  have hu : w.heap.size < w.heap.size + 1 := by omega
  cases M with
  | false =>
    rw [if_neg (by decide)]
    clear cD cO
    go_enter Tryd.func66, Tryd.ntmps66
    go_wp2_with (go_at_call 12; ((with_reducible refine (cM _ HX.out.1).mono ?_); rintro e w1 ⟨rfl, hb⟩; obtain ⟨b2, B0, B1⟩ := HX.out; have bW := Lib.hid (b2.trans (hb.mono b2.size)); obtain ⟨l0, x0, x1, x2, x3, y0, y1, y2, y3⟩ := B1.below hb; clear b2 B0 B1 hb))
    exact bodyPost_ret (v := .tuple #[.agg #[.int .i64 0, .slice none 0 0, .int .i64 0, .slice none 0 0], .int .i64 1]) (by simp [results, Tryd.results66, go_sem, *]) rfl ⟨_, _, rfl, mine_nil _ _ _, put4_below bW.out (Nat.le_of_lt hu)⟩
  | true =>
    rw [if_pos rfl]
    replace cD := cD rfl
    obtain ⟨code, L'⟩ := R
    by_cases hc : code = 0
    · subst hc
      clear hR
      obtain ⟨q', ls', k', cs'⟩ := L'
      go_enter Tryd.func66, Tryd.ntmps66
      go_wp2_with (first
        | (go_at_call 12; ((with_reducible refine (cM _ HX.out.1).mono ?_); rintro e w1 ⟨rfl, hb⟩; obtain ⟨b2, B0, B1⟩ := HX.out; have bW := Lib.hid (b2.trans (hb.mono b2.size)); have HB1 := Lib.hid (B1.below hb); have hs1 : w.heap.size + 1 < w1.heap.size := HB1.out.lt; obtain ⟨l0, x0, x1, x2, x3, y0, y1, y2, y3⟩ := B0.below hb; clear b2 B0 B1 hb))
        | (go_at_call 17; ((with_reducible refine (cO _ bW.out).mono ?_); rintro e w2 ⟨sl', sc', rfl, ho, hb2⟩; have hb12 := Lib.hid hb2; have hs2 := hb2.size; have bW2 := Lib.hid (bW.out.trans (hb2.mono (by omega))); have HO := Lib.hid (mine_of_own ho); obtain ⟨a3, c3, e3⟩ := own_len ho.1; obtain ⟨a4, c4, e4⟩ := own_len ho.2; rw [N1.out] at e3; rw [N2.out] at e4; subst e3 e4; have hD2 : w2.cell? ⟨D, 0, none⟩ = _ := (bW2.out.cell (p := ⟨D, 0, none⟩) hDl).trans HD.out; have hD3 : D < w2.heap.size := (by omega); clear ho hb2))
        | (go_at_call 54; ((with_reducible refine (cD _ w2.heap.size w1.heap.size w2.heap.size (.slice a3 n1 c3) (.slice a4 n2 c4) ?hb ?hx ?hm ?h1 ?h2 ?h3).mono ?_); (case hb => exact bW2.out.alloc (by omega) _); (case hx => exact box_new w2 q k _ _); (case hm => exact HO.out.below ((Below.refl _ w2).alloc (Nat.le_refl _) _)); (case h1 => omega); (case h2 => omega); (case h3 => omega); rintro e w3 ⟨rfl, hbd, hr⟩; obtain ⟨sl3, sc3, hbx, hm3⟩ := hr rfl; dsimp only at hbx hm3; obtain ⟨a5, c5, e5⟩ := hm3.z.here.len; obtain ⟨a6, c6, e6⟩ := hm3.r.here.len; subst e5 e6; have HM3 := Lib.hid hm3; obtain ⟨m0, z0, z1, z2, z3, _, _, _, _⟩ := hbx; have hbw3 := Lib.hid ((hb12.out.alloc (by omega) _).trans hbd); obtain ⟨l1, u0, u1, u2, u3, v0, v1, v2, v3⟩ := HB1.out.below hbw3.out; clear hm3 hbd hr)))
      exact bodyPost_ret (v := .tuple #[.agg #[.int .i64 q', .slice a5 ls'.length c5, .int .i64 k', .slice a6 cs'.length c6], .int .i64 0]) (by simp [results, Tryd.results66, go_sem, *]) rfl ⟨_, _, rfl, mine_put4 HM3.out (Nat.le_refl _) (by omega) (by omega), put4_below (bW.out.trans (hbw3.out.mono (by omega))) (Nat.le_of_lt hu)⟩
    · have hc2 : (code != 0) = true := by simpa using hc
      obtain rfl : L' = ln0 := hR hc
      have hcode : (code == 0) = false := by simpa using hc
      clear hR
      go_enter Tryd.func66, Tryd.ntmps66
      go_wp2_with (first
        | (go_at_call 12; ((with_reducible refine (cM _ HX.out.1).mono ?_); rintro e w1 ⟨rfl, hb⟩; obtain ⟨b2, B0, B1⟩ := HX.out; have bW := Lib.hid (b2.trans (hb.mono b2.size)); have HB1 := Lib.hid (B1.below hb); have hs1 : w.heap.size + 1 < w1.heap.size := HB1.out.lt; obtain ⟨l0, x0, x1, x2, x3, y0, y1, y2, y3⟩ := B0.below hb; clear b2 B0 B1 hb))
        | (go_at_call 17; ((with_reducible refine (cO _ bW.out).mono ?_); rintro e w2 ⟨sl', sc', rfl, ho, hb2⟩; have hb12 := Lib.hid hb2; have hs2 := hb2.size; have bW2 := Lib.hid (bW.out.trans (hb2.mono (by omega))); have HO := Lib.hid (mine_of_own ho); obtain ⟨a3, c3, e3⟩ := own_len ho.1; obtain ⟨a4, c4, e4⟩ := own_len ho.2; rw [N1.out] at e3; rw [N2.out] at e4; subst e3 e4; have hD2 : w2.cell? ⟨D, 0, none⟩ = _ := (bW2.out.cell (p := ⟨D, 0, none⟩) hDl).trans HD.out; have hD3 : D < w2.heap.size := (by omega); clear ho hb2))
        | (go_at_call 54; ((with_reducible refine (cD _ w2.heap.size w1.heap.size w2.heap.size (.slice a3 n1 c3) (.slice a4 n2 c4) ?hb ?hx ?hm ?h1 ?h2 ?h3).mono ?_); (case hb => exact bW2.out.alloc (by omega) _); (case hx => exact box_new w2 q k _ _); (case hm => exact HO.out.below ((Below.refl _ w2).alloc (Nat.le_refl _) _)); (case h1 => omega); (case h2 => omega); (case h3 => omega); rintro e w3 ⟨rfl, hbd, hr⟩; have hbw3 := Lib.hid ((hb12.out.alloc (by omega) _).trans hbd); obtain ⟨l1, u0, u1, u2, u3, v0, v1, v2, v3⟩ := HB1.out.below hbw3.out; clear hbd hr)))
      exact bodyPost_ret (v := .tuple #[.agg #[.int .i64 0, .slice none 0 0, .int .i64 0, .slice none 0 0], .int .i64 code]) (by simp [results, Tryd.results66, go_sem, *]) rfl ⟨_, _, rfl, mine_nil _ _ _, put4_below (bW.out.trans (hbw3.out.mono (by omega))) (Nat.le_of_lt hu)⟩

set_option maxRecDepth 20000 in
set_option maxHeartbeats 8000000 in
theorem ask_format (q k : Int) (sl sc : Value) (ls : IRow) (cs : Row) (D K : Nat) (w : World) (h : LnAt w sl sc ls cs) (hls : ls.length ≤ 50000) (hcs : cs.length ≤ 50000) (hf : Fair cs) (hE : Tg.Env w)
    (hD : w.cell? ⟨D, 0, none⟩ = some (.func (.func 56) #[] #[.pointer (some ⟨K, 0, none⟩)])) (R : Int × Ln) (hR : R.1 ≠ 0 → R.2 = ln0)
    (cD : mayS ⟨q, ls, k, cs⟩ = true → ∀ (w1 : World) (b B C : Nat) (sl' sc' : Value), Below w.heap.size w w1 → BoxAt w1 b q sl' k sc' → MineLn B C w1 sl' sc' ls cs → B ≤ C → C ≤ b → w.heap.size ≤ B → Calls Tryd.prog 56 #[.pointer (some ⟨b, 0, none⟩), .pointer (some ⟨K, 0, none⟩)] w1 (DoPost B b R w1)) :
    Calls Tryd.prog 66 #[.agg #[.int .i64 q, sl, .int .i64 k, sc], .pointer (some ⟨D, 0, none⟩)] w (AskPost (if mayS ⟨q, ls, k, cs⟩ = true then R else (1, ln0)) w) := by
  obtain ⟨a1, c1, rfl⟩ := h.z.len
  obtain ⟨a2, c2, rfl⟩ := h.r.len
  have hDl : D < w.heap.size := lt_of_cell' hD
  have cM : ∀ w1, Below w.heap.size w w1 → Calls Tryd.prog 12 #[.agg #[.int .i64 q, .slice a1 ls.length c1, .int .i64 k, .slice a2 cs.length c2]] w1 fun e w' => e = .returned (.bool (mayS ⟨q, ls, k, cs⟩)) ∧ Below w1.heap.size w1 w' := fun w1 h1 => lmay_any q k _ _ ls cs w1 (h.below h1) hls hcs hf (hE.below h1)
  have cO : ∀ w1, Below w.heap.size w w1 → Calls Tryd.prog 17 #[.agg #[.int .i64 q, .slice a1 ls.length c1, .int .i64 k, .slice a2 cs.length c2]] w1 fun e w' => ∃ sl' sc', e = .returned (.agg #[.int .i64 q, sl', .int .i64 k, sc']) ∧ OwnLn w1.heap.size w' sl' sc' ls cs ∧ Below w1.heap.size w1 w' := fun w1 h1 => lown_any q k _ _ ls cs w1 (h.z.below h1) (h.r.below h1) hls hcs
  have HX := Lib.hid (box_two w q k 0 0 (.slice a1 ls.length c1) (.slice a2 cs.length c2) (.slice none 0 0) (.slice none 0 0))
  obtain ⟨n1, hn1⟩ : ∃ n, ls.length = n := ⟨_, rfl⟩
  obtain ⟨n2, hn2⟩ : ∃ n, cs.length = n := ⟨_, rfl⟩
  rw [hn1] at cM cO HX ⊢
  rw [hn2] at cM cO HX ⊢
  have N1 := Lib.hid hn1
  have N2 := Lib.hid hn2
  have HD := Lib.hid hD
  obtain ⟨M, hM⟩ : ∃ M, mayS ⟨q, ls, k, cs⟩ = M := ⟨_, rfl⟩
  rw [hM] at cM cD ⊢
  clear h hls hcs hf hE hn1 hn2 hM hD
  have hu : w.heap.size < w.heap.size + 1 := by omega
  cases M with
  | false =>
    rw [if_neg (by decide)]
    clear cD cO
    go_enter Tryd.func66, Tryd.ntmps66
    go_wp2_with (go_at_call 12; ((with_reducible refine (cM _ HX.out.1).mono ?_); rintro e w1 ⟨rfl, hb⟩; obtain ⟨b2, B0, B1⟩ := HX.out; have bW := Lib.hid (b2.trans (hb.mono b2.size)); obtain ⟨l0, x0, x1, x2, x3, y0, y1, y2, y3⟩ := B1.below hb; clear b2 B0 B1 hb))
    exact bodyPost_ret (v := .tuple #[.agg #[.int .i64 0, .slice none 0 0, .int .i64 0, .slice none 0 0], .int .i64 1]) (by simp [results, Tryd.results66, go_sem, *]) rfl ⟨_, _, rfl, mine_nil _ _ _, put4_below bW.out (Nat.le_of_lt hu)⟩
  | true =>
    rw [if_pos rfl]
    replace cD := cD rfl
    obtain ⟨code, L'⟩ := R
    by_cases hc : code = 0
    · subst hc
      clear hR
      obtain ⟨q', ls', k', cs'⟩ := L'
      go_enter Tryd.func66, Tryd.ntmps66
      go_wp2_with (first
        | (go_at_call 12; ((with_reducible refine (cM _ HX.out.1).mono ?_); rintro e w1 ⟨rfl, hb⟩; obtain ⟨b2, B0, B1⟩ := HX.out; have bW := Lib.hid (b2.trans (hb.mono b2.size)); have HB1 := Lib.hid (B1.below hb); have hs1 : w.heap.size + 1 < w1.heap.size := HB1.out.lt; obtain ⟨l0, x0, x1, x2, x3, y0, y1, y2, y3⟩ := B0.below hb; clear b2 B0 B1 hb))
        | (go_at_call 17; ((with_reducible refine (cO _ bW.out).mono ?_); rintro e w2 ⟨sl', sc', rfl, ho, hb2⟩; have hb12 := Lib.hid hb2; have hs2 := hb2.size; have bW2 := Lib.hid (bW.out.trans (hb2.mono (by omega))); have HO := Lib.hid (mine_of_own ho); obtain ⟨a3, c3, e3⟩ := own_len ho.1; obtain ⟨a4, c4, e4⟩ := own_len ho.2; rw [N1.out] at e3; rw [N2.out] at e4; subst e3 e4; have hD2 : w2.cell? ⟨D, 0, none⟩ = _ := (bW2.out.cell (p := ⟨D, 0, none⟩) hDl).trans HD.out; have hD3 : D < w2.heap.size := (by omega); clear ho hb2))
        | (go_at_call 56; ((with_reducible refine (cD _ w2.heap.size w1.heap.size w2.heap.size (.slice a3 n1 c3) (.slice a4 n2 c4) ?hb ?hx ?hm ?h1 ?h2 ?h3).mono ?_); (case hb => exact bW2.out.alloc (by omega) _); (case hx => exact box_new w2 q k _ _); (case hm => exact HO.out.below ((Below.refl _ w2).alloc (Nat.le_refl _) _)); (case h1 => omega); (case h2 => omega); (case h3 => omega); rintro e w3 ⟨rfl, hbd, hr⟩; obtain ⟨sl3, sc3, hbx, hm3⟩ := hr rfl; dsimp only at hbx hm3; obtain ⟨a5, c5, e5⟩ := hm3.z.here.len; obtain ⟨a6, c6, e6⟩ := hm3.r.here.len; subst e5 e6; have HM3 := Lib.hid hm3; obtain ⟨m0, z0, z1, z2, z3, _, _, _, _⟩ := hbx; have hbw3 := Lib.hid ((hb12.out.alloc (by omega) _).trans hbd); obtain ⟨l1, u0, u1, u2, u3, v0, v1, v2, v3⟩ := HB1.out.below hbw3.out; clear hm3 hbd hr)))
      exact bodyPost_ret (v := .tuple #[.agg #[.int .i64 q', .slice a5 ls'.length c5, .int .i64 k', .slice a6 cs'.length c6], .int .i64 0]) (by simp [results, Tryd.results66, go_sem, *]) rfl ⟨_, _, rfl, mine_put4 HM3.out (Nat.le_refl _) (by omega) (by omega), put4_below (bW.out.trans (hbw3.out.mono (by omega))) (Nat.le_of_lt hu)⟩
    · have hc2 : (code != 0) = true := by simpa using hc
      obtain rfl : L' = ln0 := hR hc
      have hcode : (code == 0) = false := by simpa using hc
      clear hR
      go_enter Tryd.func66, Tryd.ntmps66
      go_wp2_with (first
        | (go_at_call 12; ((with_reducible refine (cM _ HX.out.1).mono ?_); rintro e w1 ⟨rfl, hb⟩; obtain ⟨b2, B0, B1⟩ := HX.out; have bW := Lib.hid (b2.trans (hb.mono b2.size)); have HB1 := Lib.hid (B1.below hb); have hs1 : w.heap.size + 1 < w1.heap.size := HB1.out.lt; obtain ⟨l0, x0, x1, x2, x3, y0, y1, y2, y3⟩ := B0.below hb; clear b2 B0 B1 hb))
        | (go_at_call 17; ((with_reducible refine (cO _ bW.out).mono ?_); rintro e w2 ⟨sl', sc', rfl, ho, hb2⟩; have hb12 := Lib.hid hb2; have hs2 := hb2.size; have bW2 := Lib.hid (bW.out.trans (hb2.mono (by omega))); have HO := Lib.hid (mine_of_own ho); obtain ⟨a3, c3, e3⟩ := own_len ho.1; obtain ⟨a4, c4, e4⟩ := own_len ho.2; rw [N1.out] at e3; rw [N2.out] at e4; subst e3 e4; have hD2 : w2.cell? ⟨D, 0, none⟩ = _ := (bW2.out.cell (p := ⟨D, 0, none⟩) hDl).trans HD.out; have hD3 : D < w2.heap.size := (by omega); clear ho hb2))
        | (go_at_call 56; ((with_reducible refine (cD _ w2.heap.size w1.heap.size w2.heap.size (.slice a3 n1 c3) (.slice a4 n2 c4) ?hb ?hx ?hm ?h1 ?h2 ?h3).mono ?_); (case hb => exact bW2.out.alloc (by omega) _); (case hx => exact box_new w2 q k _ _); (case hm => exact HO.out.below ((Below.refl _ w2).alloc (Nat.le_refl _) _)); (case h1 => omega); (case h2 => omega); (case h3 => omega); rintro e w3 ⟨rfl, hbd, hr⟩; have hbw3 := Lib.hid ((hb12.out.alloc (by omega) _).trans hbd); obtain ⟨l1, u0, u1, u2, u3, v0, v1, v2, v3⟩ := HB1.out.below hbw3.out; clear hbd hr)))
      exact bodyPost_ret (v := .tuple #[.agg #[.int .i64 0, .slice none 0 0, .int .i64 0, .slice none 0 0], .int .i64 code]) (by simp [results, Tryd.results66, go_sem, *]) rfl ⟨_, _, rfl, mine_nil _ _ _, put4_below (bW.out.trans (hbw3.out.mono (by omega))) (Nat.le_of_lt hu)⟩

set_option maxRecDepth 20000 in
set_option maxHeartbeats 8000000 in
theorem ask_join (q k : Int) (sl sc : Value) (ls : IRow) (cs : Row) (D K : Nat) (w : World) (h : LnAt w sl sc ls cs) (hls : ls.length ≤ 50000) (hcs : cs.length ≤ 50000) (hf : Fair cs) (hE : Tg.Env w)
    (hD : w.cell? ⟨D, 0, none⟩ = some (.func (.func 50) #[] #[.pointer (some ⟨K, 0, none⟩)])) (R : Int × Ln) (hR : R.1 ≠ 0 → R.2 = ln0)
    (cD : mayS ⟨q, ls, k, cs⟩ = true → ∀ (w1 : World) (b B C : Nat) (sl' sc' : Value), Below w.heap.size w w1 → BoxAt w1 b q sl' k sc' → MineLn B C w1 sl' sc' ls cs → B ≤ C → C ≤ b → w.heap.size ≤ B → Calls Tryd.prog 50 #[.pointer (some ⟨b, 0, none⟩), .pointer (some ⟨K, 0, none⟩)] w1 (DoPost B b R w1)) :
    Calls Tryd.prog 66 #[.agg #[.int .i64 q, sl, .int .i64 k, sc], .pointer (some ⟨D, 0, none⟩)] w (AskPost (if mayS ⟨q, ls, k, cs⟩ = true then R else (1, ln0)) w) := by
  obtain ⟨a1, c1, rfl⟩ := h.z.len
  obtain ⟨a2, c2, rfl⟩ := h.r.len
  have hDl : D < w.heap.size := lt_of_cell' hD
  have cM : ∀ w1, Below w.heap.size w w1 → Calls Tryd.prog 12 #[.agg #[.int .i64 q, .slice a1 ls.length c1, .int .i64 k, .slice a2 cs.length c2]] w1 fun e w' => e = .returned (.bool (mayS ⟨q, ls, k, cs⟩)) ∧ Below w1.heap.size w1 w' := fun w1 h1 => lmay_any q k _ _ ls cs w1 (h.below h1) hls hcs hf (hE.below h1)
  have cO : ∀ w1, Below w.heap.size w w1 → Calls Tryd.prog 17 #[.agg #[.int .i64 q, .slice a1 ls.length c1, .int .i64 k, .slice a2 cs.length c2]] w1 fun e w' => ∃ sl' sc', e = .returned (.agg #[.int .i64 q, sl', .int .i64 k, sc']) ∧ OwnLn w1.heap.size w' sl' sc' ls cs ∧ Below w1.heap.size w1 w' := fun w1 h1 => lown_any q k _ _ ls cs w1 (h.z.below h1) (h.r.below h1) hls hcs
  have HX := Lib.hid (box_two w q k 0 0 (.slice a1 ls.length c1) (.slice a2 cs.length c2) (.slice none 0 0) (.slice none 0 0))
  obtain ⟨n1, hn1⟩ : ∃ n, ls.length = n := ⟨_, rfl⟩
  obtain ⟨n2, hn2⟩ : ∃ n, cs.length = n := ⟨_, rfl⟩
  rw [hn1] at cM cO HX ⊢
  rw [hn2] at cM cO HX ⊢
  have N1 := Lib.hid hn1
  have N2 := Lib.hid hn2
  have HD := Lib.hid hD
  obtain ⟨M, hM⟩ : ∃ M, mayS ⟨q, ls, k, cs⟩ = M := ⟨_, rfl⟩
  rw [hM] at cM cD ⊢
  clear h hls hcs hf hE hn1 hn2 hM hD
  have hu : w.heap.size < w.heap.size + 1 := by omega
  cases M with
  | false =>
    rw [if_neg (by decide)]
    clear cD cO
    go_enter Tryd.func66, Tryd.ntmps66
    go_wp2_with (go_at_call 12; ((with_reducible refine (cM _ HX.out.1).mono ?_); rintro e w1 ⟨rfl, hb⟩; obtain ⟨b2, B0, B1⟩ := HX.out; have bW := Lib.hid (b2.trans (hb.mono b2.size)); obtain ⟨l0, x0, x1, x2, x3, y0, y1, y2, y3⟩ := B1.below hb; clear b2 B0 B1 hb))
    exact bodyPost_ret (v := .tuple #[.agg #[.int .i64 0, .slice none 0 0, .int .i64 0, .slice none 0 0], .int .i64 1]) (by simp [results, Tryd.results66, go_sem, *]) rfl ⟨_, _, rfl, mine_nil _ _ _, put4_below bW.out (Nat.le_of_lt hu)⟩
  | true =>
    rw [if_pos rfl]
    replace cD := cD rfl
    obtain ⟨code, L'⟩ := R
    by_cases hc : code = 0
    · subst hc
      clear hR
      obtain ⟨q', ls', k', cs'⟩ := L'
      go_enter Tryd.func66, Tryd.ntmps66
      go_wp2_with (first
        | (go_at_call 12; ((with_reducible refine (cM _ HX.out.1).mono ?_); rintro e w1 ⟨rfl, hb⟩; obtain ⟨b2, B0, B1⟩ := HX.out; have bW := Lib.hid (b2.trans (hb.mono b2.size)); have HB1 := Lib.hid (B1.below hb); have hs1 : w.heap.size + 1 < w1.heap.size := HB1.out.lt; obtain ⟨l0, x0, x1, x2, x3, y0, y1, y2, y3⟩ := B0.below hb; clear b2 B0 B1 hb))
        | (go_at_call 17; ((with_reducible refine (cO _ bW.out).mono ?_); rintro e w2 ⟨sl', sc', rfl, ho, hb2⟩; have hb12 := Lib.hid hb2; have hs2 := hb2.size; have bW2 := Lib.hid (bW.out.trans (hb2.mono (by omega))); have HO := Lib.hid (mine_of_own ho); obtain ⟨a3, c3, e3⟩ := own_len ho.1; obtain ⟨a4, c4, e4⟩ := own_len ho.2; rw [N1.out] at e3; rw [N2.out] at e4; subst e3 e4; have hD2 : w2.cell? ⟨D, 0, none⟩ = _ := (bW2.out.cell (p := ⟨D, 0, none⟩) hDl).trans HD.out; have hD3 : D < w2.heap.size := (by omega); clear ho hb2))
        | (go_at_call 50; ((with_reducible refine (cD _ w2.heap.size w1.heap.size w2.heap.size (.slice a3 n1 c3) (.slice a4 n2 c4) ?hb ?hx ?hm ?h1 ?h2 ?h3).mono ?_); (case hb => exact bW2.out.alloc (by omega) _); (case hx => exact box_new w2 q k _ _); (case hm => exact HO.out.below ((Below.refl _ w2).alloc (Nat.le_refl _) _)); (case h1 => omega); (case h2 => omega); (case h3 => omega); rintro e w3 ⟨rfl, hbd, hr⟩; obtain ⟨sl3, sc3, hbx, hm3⟩ := hr rfl; dsimp only at hbx hm3; obtain ⟨a5, c5, e5⟩ := hm3.z.here.len; obtain ⟨a6, c6, e6⟩ := hm3.r.here.len; subst e5 e6; have HM3 := Lib.hid hm3; obtain ⟨m0, z0, z1, z2, z3, _, _, _, _⟩ := hbx; have hbw3 := Lib.hid ((hb12.out.alloc (by omega) _).trans hbd); obtain ⟨l1, u0, u1, u2, u3, v0, v1, v2, v3⟩ := HB1.out.below hbw3.out; clear hm3 hbd hr)))
      exact bodyPost_ret (v := .tuple #[.agg #[.int .i64 q', .slice a5 ls'.length c5, .int .i64 k', .slice a6 cs'.length c6], .int .i64 0]) (by simp [results, Tryd.results66, go_sem, *]) rfl ⟨_, _, rfl, mine_put4 HM3.out (Nat.le_refl _) (by omega) (by omega), put4_below (bW.out.trans (hbw3.out.mono (by omega))) (Nat.le_of_lt hu)⟩
    · have hc2 : (code != 0) = true := by simpa using hc
      obtain rfl : L' = ln0 := hR hc
      have hcode : (code == 0) = false := by simpa using hc
      clear hR
      go_enter Tryd.func66, Tryd.ntmps66
      go_wp2_with (first
        | (go_at_call 12; ((with_reducible refine (cM _ HX.out.1).mono ?_); rintro e w1 ⟨rfl, hb⟩; obtain ⟨b2, B0, B1⟩ := HX.out; have bW := Lib.hid (b2.trans (hb.mono b2.size)); have HB1 := Lib.hid (B1.below hb); have hs1 : w.heap.size + 1 < w1.heap.size := HB1.out.lt; obtain ⟨l0, x0, x1, x2, x3, y0, y1, y2, y3⟩ := B0.below hb; clear b2 B0 B1 hb))
        | (go_at_call 17; ((with_reducible refine (cO _ bW.out).mono ?_); rintro e w2 ⟨sl', sc', rfl, ho, hb2⟩; have hb12 := Lib.hid hb2; have hs2 := hb2.size; have bW2 := Lib.hid (bW.out.trans (hb2.mono (by omega))); have HO := Lib.hid (mine_of_own ho); obtain ⟨a3, c3, e3⟩ := own_len ho.1; obtain ⟨a4, c4, e4⟩ := own_len ho.2; rw [N1.out] at e3; rw [N2.out] at e4; subst e3 e4; have hD2 : w2.cell? ⟨D, 0, none⟩ = _ := (bW2.out.cell (p := ⟨D, 0, none⟩) hDl).trans HD.out; have hD3 : D < w2.heap.size := (by omega); clear ho hb2))
        | (go_at_call 50; ((with_reducible refine (cD _ w2.heap.size w1.heap.size w2.heap.size (.slice a3 n1 c3) (.slice a4 n2 c4) ?hb ?hx ?hm ?h1 ?h2 ?h3).mono ?_); (case hb => exact bW2.out.alloc (by omega) _); (case hx => exact box_new w2 q k _ _); (case hm => exact HO.out.below ((Below.refl _ w2).alloc (Nat.le_refl _) _)); (case h1 => omega); (case h2 => omega); (case h3 => omega); rintro e w3 ⟨rfl, hbd, hr⟩; have hbw3 := Lib.hid ((hb12.out.alloc (by omega) _).trans hbd); obtain ⟨l1, u0, u1, u2, u3, v0, v1, v2, v3⟩ := HB1.out.below hbw3.out; clear hbd hr)))
      exact bodyPost_ret (v := .tuple #[.agg #[.int .i64 0, .slice none 0 0, .int .i64 0, .slice none 0 0], .int .i64 code]) (by simp [results, Tryd.results66, go_sem, *]) rfl ⟨_, _, rfl, mine_nil _ _ _, put4_below (bW.out.trans (hbw3.out.mono (by omega))) (Nat.le_of_lt hu)⟩

end Go.Proofs.YtmlipcedkgfmiaaDoor
