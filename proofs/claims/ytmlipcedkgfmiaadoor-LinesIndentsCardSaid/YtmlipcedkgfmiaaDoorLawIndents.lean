/-
  The law of lines that are indented, and outdented.
-/
import Derived.Test.YtmlipcedkgfmiaaDoorOff
namespace Go.Proofs.YtmlipcedkgfmiaaDoor
open Go.RowKit Go.Lib

/-- What the line has become. -/
def IndR (w : World) (p : Nat) (q k : Int) (sl sc : Value) (M : Ln) (wr : World) : Prop :=
  ∃ s c, BoxAt wr w.heap.size q sl k sc ∧ BoxAt wr p M.q s M.k c ∧ LnAt wr s c M.ls M.cs ∧ Off p s c M.ls M.cs ∧ Below w.heap.size w wr
theorem indR_step {w wr w5 : World} {p B : Nat} {q k q' k' q5 k5 : Int} {sl sc s c s5 c5 : Value} {ls5 : IRow} {cs : Row} (hX : BoxAt wr w.heap.size q sl k sc) (hY : BoxAt wr p q' s k' c) (h0 : Below w.heap.size w wr) (hb : Below wr.heap.size wr w5)
    (hm : MineLn B w5.heap.size w5 s5 c5 ls5 cs) (hB : wr.heap.size ≤ B) (hn : w.heap.size ≠ p) (hp : w.heap.size ≤ p) (o : Obj) : IndR w p q k sl sc ⟨q5, ls5, k5, cs⟩ ((put4 w5 p q5 s5 k5 c5).alloc o) := by
  have h1 := hY.lt
  have h2 := hb.size
  have h3 := h0.size
  have A := (Below.refl (put4 w5 p q5 s5 k5 c5).heap.size (put4 w5 p q5 s5 k5 c5)).alloc (Nat.le_refl _) o
  have hof := off_mine hm (b := p) (.inl (by omega))
  have hbp := put4_below (q := q5) (k := k5) (sl := s5) (sc := c5) (h0.trans (hb.mono h3)) hp
  exact ⟨s5, c5, (put4_far (hX.below hb) hn).below A, (put4_box (hY.below hb)).below A, (lnAt_put4 hm.at hof).below A, hof, hbp.trans (A.mono hbp.size)⟩

set_option maxRecDepth 20000 in
set_option maxHeartbeats 16000000 in
theorem lawIndents_walk (q k : Int) (sl sc : Value) (ls : IRow) (cs : Row) (w : World) (hE : Tg.Env w) (h : LnAt w sl sc ls cs) (hs : Sized cs) :
    Calls Tryd.prog 8 #[.agg #[.int .i64 q, sl, .int .i64 k, sc]] w fun e w' => e = .returned (.bool true) ∧ Below w.heap.size w w' := by
  obtain ⟨a1, c1, rfl⟩ := h.z.len
  obtain ⟨a2, c2, rfl⟩ := h.r.len
  have haw : ∀ w1, Below w.heap.size w w1 → Calls Tryd.prog 10 #[] w1 fun e w' => e = .returned (.bool true) ∧ Below w1.heap.size w1 w' := fun w1 h1 => awake_any w1 (hE.below h1)
  have cL : ∀ w1, Below w.heap.size w w1 → Calls Tryd.prog 9 #[.agg #[.int .i64 q, .slice a1 ls.length c1, .int .i64 k, .slice a2 cs.length c2]] w1 fun e w' => e = .returned (.bool (longL ⟨q, ls, k, cs⟩)) ∧ Below w1.heap.size w1 w' := fun w1 h1 => long_any q k _ _ ls cs w1 (h.below h1) hs
  have HB := Lib.hid (box_new w q k (.slice a1 ls.length c1) (.slice a2 cs.length c2))
  have HA := Lib.hid ((Below.refl w.heap.size w).alloc (Nat.le_refl _) (.cells #[.int .i64 q, .slice a1 ls.length c1, .int .i64 k, .slice a2 cs.length c2] 25))
  cases hl1 : longL ⟨q, ls, k, cs⟩ with
  | true =>
    rw [hl1] at cL
    obtain ⟨n1, hn1⟩ : ∃ n, ls.length = n := ⟨_, rfl⟩
    obtain ⟨n2, hn2⟩ : ∃ n, cs.length = n := ⟨_, rfl⟩
    rw [hn1, hn2] at cL HB HA ⊢
    clear h hs hE hl1 hn1 hn2
    go_enter Tryd.func8, Tryd.ntmps8
    go_wp2_with (first
      | (go_at_call 9; ((with_reducible refine (cL _ HA.out).mono ?_); rintro e w1 ⟨rfl, hb2⟩; have hb := Lib.hid (HA.out.trans (hb2.mono HA.out.size)); have HB1 := Lib.hid (HB.out.below hb2); obtain ⟨_, x0, x1, x2, x3, _, _, _, _⟩ := HB1.out; clear hb2))
      | (go_at_call 10; ((with_reducible refine (haw _ hb.out).mono ?_); rintro e w9 ⟨rfl, hb2⟩; have hs9 := hb.out.size; replace hb := Lib.hid (hb.out.trans (hb2.mono hs9)); clear hb2)))
    go_ret
    exact ⟨rfl, hb.out⟩
  | false =>
  rw [hl1] at cL
  obtain ⟨hcs, hls, hf⟩ := longL_false hl1
  have cM : ∀ w1, Below w.heap.size w w1 → Calls Tryd.prog 12 #[.agg #[.int .i64 q, .slice a1 ls.length c1, .int .i64 k, .slice a2 cs.length c2]] w1 fun e w' => e = .returned (.bool (mayS ⟨q, ls, k, cs⟩)) ∧ Below w1.heap.size w1 w' := fun w1 h1 => lmay_any q k _ _ ls cs w1 (h.below h1) (by omega) (by omega) hf (hE.below h1)
  cases hM : mayS ⟨q, ls, k, cs⟩ with
  | false =>
    rw [hM] at cM
    obtain ⟨n1, hn1⟩ : ∃ n, ls.length = n := ⟨_, rfl⟩
    obtain ⟨n2, hn2⟩ : ∃ n, cs.length = n := ⟨_, rfl⟩
    rw [hn1, hn2] at cL cM HB HA ⊢
    clear h hs hE hl1 hn1 hn2 hM hcs hls hf
    go_enter Tryd.func8, Tryd.ntmps8
    go_wp2_with (first
      | (go_at_call 9; ((with_reducible refine (cL _ HA.out).mono ?_); rintro e w1 ⟨rfl, hb2⟩; have hb := Lib.hid (HA.out.trans (hb2.mono HA.out.size)); have HB1 := Lib.hid (HB.out.below hb2); obtain ⟨_, x0, x1, x2, x3, _, _, _, _⟩ := HB1.out; clear hb2))
      | (go_at_call 12; ((with_reducible refine (cM _ hb.out).mono ?_); rintro e w2 ⟨rfl, hb2⟩; have hs2 := hb.out.size; replace hb := Lib.hid (hb.out.trans (hb2.mono hs2)); replace HB1 := Lib.hid (HB1.out.below hb2); clear x0 x1 x2 x3; obtain ⟨_, x0, x1, x2, x3, _, _, _, _⟩ := HB1.out; clear hb2))
      | (go_at_call 10; ((with_reducible refine (haw _ hb.out).mono ?_); rintro e w9 ⟨rfl, hb2⟩; have hs9 := hb.out.size; replace hb := Lib.hid (hb.out.trans (hb2.mono hs9)); clear hb2)))
    go_ret
    exact ⟨rfl, hb.out⟩
  | true =>
  rw [hM] at cM
  have hmF : mayF q ls k = true ∧ mayR cs = true := by rw [mayS_F, Bool.and_eq_true] at hM; exact hM
  obtain ⟨hm1, hmR⟩ := hmF
  have hls6 := mayF_len hm1
  have cI : ∀ (q' k' : Int) (s c : Value) (ls' : IRow) (R : Int × Ln) w1, Below w.heap.size w w1 → LnAt w1 s c ls' cs → mayF q' ls' k' = true → indentS ⟨q', ls', k', cs⟩ = R → Calls Tryd.prog 24 #[.agg #[.int .i64 q', s, .int .i64 k', c]] w1 (AskPost R w1) := fun q' k' s c ls' R w1 h1 h2 h3 h4 => by
    have h := Indent_any q' k' s c ls' cs w1 h2 (by have := mayF_len h3; omega) (by omega) hf (hE.below h1)
    unfold opS at h
    rwa [if_pos (mayS_of h3 hmR), h4] at h
  have cU : ∀ (q' k' : Int) (s c : Value) (ls' : IRow) (R : Int × Ln) w1, Below w.heap.size w w1 → LnAt w1 s c ls' cs → mayF q' ls' k' = true → outdentS ⟨q', ls', k', cs⟩ = R → Calls Tryd.prog 26 #[.agg #[.int .i64 q', s, .int .i64 k', c]] w1 (AskPost R w1) := fun q' k' s c ls' R w1 h1 h2 h3 h4 => by
    have h := Outdent_any q' k' s c ls' cs w1 h2 (by have := mayF_len h3; omega) (by omega) hf (hE.below h1)
    unfold opS at h
    rwa [if_pos (mayS_of h3 hmR), h4] at h
  have cS : ∀ (s3 d3 : Value) w1, Below w.heap.size w w1 → LnAt w1 s3 d3 ls cs → Calls Tryd.prog 14 #[.agg #[.int .i64 q, s3, .int .i64 k, d3], .agg #[.int .i64 q, .slice a1 ls.length c1, .int .i64 k, .slice a2 cs.length c2]] w1 fun e w' => e = .returned (.bool true) ∧ Below w1.heap.size w1 w' := fun s3 d3 w1 h1 h2 => by
    have h := lsame_any q k q k s3 d3 _ _ ls ls cs cs w1 h2 (h.below h1) (by omega) (by omega)
    rwa [sameL_refl'] at h
  have HF := Lib.hid hm1
  have HL := Lib.hid h
  obtain ⟨hq1, hq2⟩ := (mayF_iff.1 hm1).1
  obtain ⟨N, hN⟩ : ∃ N, indM q ls = N := ⟨_, rfl⟩
  have HN := Lib.hid hN
  have hNI : (0 < ls.length ∧ (6 : Int) - (ls.length : Int) = (N : Int)) ∨ (ls.length = 0 ∧ (6 : Int) - q = (N : Int)) := by
    rw [← hN]
    unfold indM
    by_cases h0 : 0 < ls.length
    · rw [if_pos h0]; exact .inl ⟨h0, by omega⟩
    · rw [if_neg h0]; exact .inr ⟨by omega, by omega⟩
  obtain ⟨n1, hn1⟩ : ∃ n, ls.length = n := ⟨_, rfl⟩
  obtain ⟨n2, hn2⟩ : ∃ n, cs.length = n := ⟨_, rfl⟩
  have N1 := Lib.hid hn1
  have N2 := Lib.hid hn2
  rw [hn1, hn2] at cL cM cS HB HA HL ⊢
  rw [hn1] at hls6 hNI
  clear h hs hE hl1 hn1 hn2 hM hcs hls hf hm1 hmR hN
  rcases hNI with ⟨h0, hE0⟩ | ⟨h0, hE0⟩
  · have h0I : (0 : Int) < (n1 : Int) := by omega
    have HNI := Lib.hid hE0
    clear hE0
    go_enter Tryd.func8, Tryd.ntmps8
    go_wp2_with (first
      | (go_at_call 9; ((with_reducible refine (cL _ HA.out).mono ?_); rintro e w1 ⟨rfl, hb2⟩; have hb := Lib.hid (HA.out.trans (hb2.mono HA.out.size)); have HB1 := Lib.hid (HB.out.below hb2); obtain ⟨_, x0, x1, x2, x3, _, _, _, _⟩ := HB1.out; clear hb2))
      | (go_at_call 12; ((with_reducible refine (cM _ hb.out).mono ?_); rintro e w2 ⟨rfl, hb2⟩; have hs2 := hb.out.size; replace hb := Lib.hid (hb.out.trans (hb2.mono hs2)); replace HB1 := Lib.hid (HB1.out.below hb2); clear x0 x1 x2 x3; obtain ⟨_, x0, x1, x2, x3, _, _, _, _⟩ := HB1.out; clear hb2)))
    have A4 := Lib.hid ((Below.refl w2.heap.size w2).alloc (Nat.le_refl _) (.cells #[.int .i64 q, .slice a1 n1 c1, .int .i64 k, .slice a2 n2 c2] 25))
    have hwp := hb.out.size
    have hnw : w.heap.size ≠ w2.heap.size := Nat.ne_of_lt HB1.out.lt
    have HI : Hid (IndR w w2.heap.size q k (.slice a1 n1 c1) (.slice a2 n2 c2) (indN q ls k cs 0) (w2.alloc (.cells #[.int .i64 q, .slice a1 n1 c1, .int .i64 k, .slice a2 n2 c2] 25))) := Lib.hid (by rw [indN_zero]; exact ⟨_, _, HB1.out.below A4.out, box_new w2 q k _ _, (HL.out.below hb.out).below A4.out, off_low HL.out hwp, hb.out.trans (A4.out.mono hwp)⟩)
    clear A4 HB1 hb HB HA cL cM x0 x1 x2 x3 hs2
    go_loopw [5] (fun i wr => ∃ j : Nat, j ≤ N ∧ i = .int .i64 j ∧ Hid (IndR w w2.heap.size q k (.slice a1 n1 c1) (.slice a2 n2 c2) (indN q ls k cs j) wr)) (fun i _ => N - (RowKit.intOf i).toNat)
    case atStart => exact ⟨0, Nat.zero_le _, rfl, HI⟩
    case round =>
      obtain ⟨j, hj, rfl, HR⟩ := hrel
      obtain ⟨s, c, hX, hY, hLn, hOf, hBe⟩ := HR.out
      by_cases hlt : j < N
      · have hst := indN_step (cs := cs) HF.out (i := j) (by rw [HN.out]; exact hlt)
        obtain ⟨hmj, hcj⟩ := indN_may (cs := cs) HF.out (i := j) (by rw [HN.out]; omega)
        obtain ⟨hmk, hck⟩ := indN_may (cs := cs) HF.out (i := j + 1) (by rw [HN.out]; omega)
        obtain ⟨Mj, hMj⟩ : ∃ M, indN q ls k cs (j) = M := ⟨_, rfl⟩
        obtain ⟨Mk, hMk⟩ : ∃ M, indN q ls k cs (j + 1) = M := ⟨_, rfl⟩
        rw [hMj] at hst hmj hcj hY hLn hOf
        rw [hMk] at hst hmk hck
        obtain ⟨q', ls', k', cs'⟩ := Mj
        obtain ⟨q9, ls9, k9, cs9⟩ := Mk
        dsimp only at hst hmj hcj hY hLn hOf hmk hck
        have hcj' := hcj.symm
        subst hcj'
        have hck' := hck.symm
        subst hck'
        have hkI : (j : Int) < (6 : Int) - (n1 : Int) := by rw [HNI.out]; omega
        have HX := Lib.hid hX
        have HY := Lib.hid hY
        have HLn := Lib.hid hLn
        have HMf := Lib.hid hmj
        have Hf9 := Lib.hid hst
        have HM9 := Lib.hid hMk
        have hb0 := Lib.hid hBe
        obtain ⟨b1, f1, e1⟩ := hLn.z.len
        obtain ⟨b2, f2, e2⟩ := hLn.r.len
        subst e1 e2
        obtain ⟨_, y0, y1, y2, y3, _, _, _, _⟩ := hY
        clear hX hLn hOf hmj hmk hBe HR hst hMk hMj hcj hck
        go_wp2_with (go_at_call 24; ((with_reducible refine (cI q' k' _ _ ls' _ _ hb0.out HLn.out HMf.out Hf9.out).mono ?_); rintro e w5 ⟨s5, d5, rfl, m5, hb2⟩; dsimp only at m5; obtain ⟨b5, f5, e5⟩ := m5.z.here.len; obtain ⟨b6, f6, e6⟩ := m5.r.here.len; subst e5 e6; have HS := Lib.hid (fun o => indR_step (q5 := q9) (k5 := k9) (o := o) HX.out HY.out hb0.out hb2 m5 (Nat.le_refl _) hnw hwp); have Y5 := Lib.hid (HY.out.below hb2); have hy5 := Y5.out.lt; clear y0 y1 y2 y3 hb2 m5; obtain ⟨_, y0, y1, y2, y3, y4, y5, y6, y7⟩ := Y5.out))
        go_roundw
        case rel => exact ⟨j + 1, hlt, by go_num, Lib.hid (by rw [HM9.out]; exact HS.out _)⟩
        case measure => simp [RowKit.intOf]; omega
      · have hjn : N = j := by omega
        subst hjn
        have hst := indN_end (cs := cs) HF.out
        rw [HN.out] at hst
        obtain ⟨hmj, hcj⟩ := indN_may (cs := cs) HF.out (i := N) (by rw [HN.out]; omega)
        obtain ⟨Mj, hMj⟩ : ∃ M, indN q ls k cs N = M := ⟨_, rfl⟩
        rw [hMj] at hst hmj hcj hY hLn hOf
        obtain ⟨q', ls', k', cs'⟩ := Mj
        dsimp only at hst hmj hcj hY hLn hOf
        have hcj' := hcj.symm
        subst hcj'
        have hkI : ¬ (N : Int) < (6 : Int) - (n1 : Int) := by rw [HNI.out]; omega
        have HX := Lib.hid hX
        have HY := Lib.hid hY
        have HLn := Lib.hid hLn
        have HOf := Lib.hid hOf
        have HMf := Lib.hid hmj
        have Hf9 := Lib.hid hst
        have HMj := Lib.hid hMj
        have hb0 := Lib.hid hBe
        obtain ⟨b1, f1, e1⟩ := hLn.z.len
        obtain ⟨b2, f2, e2⟩ := hLn.r.len
        subst e1 e2
        obtain ⟨_, y0, y1, y2, y3, _, _, _, _⟩ := hY
        clear hX hLn hOf hmj hBe HR hst hMj hcj
        go_wp2_with (go_at_call 24; ((with_reducible refine (cI q' k' _ _ ls' _ _ hb0.out HLn.out HMf.out Hf9.out).mono ?_); rintro e w5 ⟨s5, d5, rfl, m5, hb2⟩; dsimp only [ln0] at m5 ⊢; obtain ⟨b5, f5, e5⟩ : ∃ a c', s5 = .slice a 0 c' := m5.z.here.len; obtain ⟨b6, f6, e6⟩ : ∃ a c', d5 = .slice a 0 c' := m5.r.here.len; subst e5 e6; have hs5 := hb0.out.size; have A5 := Lib.hid ((Below.refl w5.heap.size w5).alloc (Nat.le_refl _) (.cells #[.int .i64 0, .slice b5 0 f5, .int .i64 0, .slice b6 0 f6] 25)); have hzz := hb2.size; have b5A := Lib.hid (hb2.trans (A5.out.mono hzz)); have HI2 : Hid (IndR w w2.heap.size q k (.slice a1 n1 c1) (.slice a2 n2 c2) (indN q ls k cs (N - 0)) (w5.alloc (.cells #[.int .i64 0, .slice b5 0 f5, .int .i64 0, .slice b6 0 f6] 25))) := Lib.hid (by rw [Nat.sub_zero, HMj.out]; exact ⟨_, _, HX.out.below b5A.out, HY.out.below b5A.out, HLn.out.below b5A.out, HOf.out, hb0.out.trans (b5A.out.mono hs5)⟩); clear y0 y1 y2 y3 hb2 m5))
        clear A5 b5A HX HY HLn HOf HMf Hf9 HMj hb0 hkI
        go_loopw [10] (fun i wr => ∃ j : Nat, j ≤ N ∧ i = .int .i64 j ∧ Hid (IndR w w2.heap.size q k (.slice a1 n1 c1) (.slice a2 n2 c2) (indN q ls k cs (N - j)) wr)) (fun i _ => N - (RowKit.intOf i).toNat)
        case atStart => exact ⟨0, Nat.zero_le _, rfl, HI2⟩
        case round =>
          obtain ⟨j, hj, rfl, HR⟩ := hrel
          obtain ⟨s, c, hX, hY, hLn, hOf, hBe⟩ := HR.out
          by_cases hlt : j < N
          · have hst := (show outdentS (indN q ls k cs (N - j)) = (0, indN q ls k cs (N - j - 1)) by have h := indN_back (cs := cs) HF.out (N - j - 1); rwa [show N - j - 1 + 1 = N - j by omega] at h)
            obtain ⟨hmj, hcj⟩ := indN_may (cs := cs) HF.out (i := N - j) (by rw [HN.out]; omega)
            obtain ⟨hmk, hck⟩ := indN_may (cs := cs) HF.out (i := N - j - 1) (by rw [HN.out]; omega)
            obtain ⟨Mj, hMj⟩ : ∃ M, indN q ls k cs (N - j) = M := ⟨_, rfl⟩
            obtain ⟨Mk, hMk⟩ : ∃ M, indN q ls k cs (N - j - 1) = M := ⟨_, rfl⟩
            rw [hMj] at hst hmj hcj hY hLn hOf
            rw [hMk] at hst hmk hck
            obtain ⟨q', ls', k', cs'⟩ := Mj
            obtain ⟨q9, ls9, k9, cs9⟩ := Mk
            dsimp only at hst hmj hcj hY hLn hOf hmk hck
            have hcj' := hcj.symm
            subst hcj'
            have hck' := hck.symm
            subst hck'
            have hkI : (j : Int) < (6 : Int) - (n1 : Int) := by rw [HNI.out]; omega
            have HX := Lib.hid hX
            have HY := Lib.hid hY
            have HLn := Lib.hid hLn
            have HMf := Lib.hid hmj
            have Hf9 := Lib.hid hst
            have HM9 := Lib.hid hMk
            have hb0 := Lib.hid hBe
            obtain ⟨b1, f1, e1⟩ := hLn.z.len
            obtain ⟨b2, f2, e2⟩ := hLn.r.len
            subst e1 e2
            obtain ⟨_, y0, y1, y2, y3, _, _, _, _⟩ := hY
            clear hX hLn hOf hmj hmk hBe HR hst hMk hMj hcj hck
            go_wp2_with (go_at_call 26; ((with_reducible refine (cU q' k' _ _ ls' _ _ hb0.out HLn.out HMf.out Hf9.out).mono ?_); rintro e w5 ⟨s5, d5, rfl, m5, hb2⟩; dsimp only at m5; obtain ⟨b5, f5, e5⟩ := m5.z.here.len; obtain ⟨b6, f6, e6⟩ := m5.r.here.len; subst e5 e6; have HS := Lib.hid (fun o => indR_step (q5 := q9) (k5 := k9) (o := o) HX.out HY.out hb0.out hb2 m5 (Nat.le_refl _) hnw hwp); have Y5 := Lib.hid (HY.out.below hb2); have hy5 := Y5.out.lt; clear y0 y1 y2 y3 hb2 m5; obtain ⟨_, y0, y1, y2, y3, y4, y5, y6, y7⟩ := Y5.out))
            go_roundw
            case rel => exact ⟨j + 1, hlt, by go_num, Lib.hid (by rw [show N - (j + 1) = N - j - 1 by omega, HM9.out]; exact HS.out _)⟩
            case measure => simp [RowKit.intOf]; omega
          · have hjn : N = j := by omega
            subst hjn
            rw [Nat.sub_self, indN_zero] at hY hLn hOf
            have hkI : ¬ (N : Int) < (6 : Int) - (n1 : Int) := by rw [HNI.out]; omega
            have HX := Lib.hid hX
            have HLn := Lib.hid hLn
            have hb0 := Lib.hid hBe
            obtain ⟨b1, f1, e1⟩ := hLn.z.len
            obtain ⟨b2, f2, e2⟩ := hLn.r.len
            dsimp only at e1 e2
            rw [N1.out] at e1
            rw [N2.out] at e2
            subst e1 e2
            obtain ⟨_, y0, y1, y2, y3, _, _, _, _⟩ := hY
            obtain ⟨_, x0, x1, x2, x3, _, _, _, _⟩ := hX
            clear hLn hOf hBe HR
            go_wp2_with (first
              | (go_at_call 14; ((with_reducible refine (cS _ _ _ hb0.out HLn.out).mono ?_); rintro e w6 ⟨rfl, hb2⟩; have hs6 := hb0.out.size; have hb := Lib.hid (hb0.out.trans (hb2.mono hs6)); clear hb2))
              | (go_at_call 10; ((with_reducible refine (haw _ hb.out).mono ?_); rintro e w9 ⟨rfl, hb2⟩; have hs9 := hb.out.size; replace hb := Lib.hid (hb.out.trans (hb2.mono hs9)); clear hb2)))
            go_ret
            exact ⟨rfl, hb.out⟩
  · subst h0
    have HNI := Lib.hid hE0
    clear hE0
    go_enter Tryd.func8, Tryd.ntmps8
    go_wp2_with (first
      | (go_at_call 9; ((with_reducible refine (cL _ HA.out).mono ?_); rintro e w1 ⟨rfl, hb2⟩; have hb := Lib.hid (HA.out.trans (hb2.mono HA.out.size)); have HB1 := Lib.hid (HB.out.below hb2); obtain ⟨_, x0, x1, x2, x3, _, _, _, _⟩ := HB1.out; clear hb2))
      | (go_at_call 12; ((with_reducible refine (cM _ hb.out).mono ?_); rintro e w2 ⟨rfl, hb2⟩; have hs2 := hb.out.size; replace hb := Lib.hid (hb.out.trans (hb2.mono hs2)); replace HB1 := Lib.hid (HB1.out.below hb2); clear x0 x1 x2 x3; obtain ⟨_, x0, x1, x2, x3, _, _, _, _⟩ := HB1.out; clear hb2)))
    have A4 := Lib.hid ((Below.refl w2.heap.size w2).alloc (Nat.le_refl _) (.cells #[.int .i64 q, .slice a1 0 c1, .int .i64 k, .slice a2 n2 c2] 25))
    have hwp := hb.out.size
    have hnw : w.heap.size ≠ w2.heap.size := Nat.ne_of_lt HB1.out.lt
    have HI : Hid (IndR w w2.heap.size q k (.slice a1 0 c1) (.slice a2 n2 c2) (indN q ls k cs 0) (w2.alloc (.cells #[.int .i64 q, .slice a1 0 c1, .int .i64 k, .slice a2 n2 c2] 25))) := Lib.hid (by rw [indN_zero]; exact ⟨_, _, HB1.out.below A4.out, box_new w2 q k _ _, (HL.out.below hb.out).below A4.out, off_low HL.out hwp, hb.out.trans (A4.out.mono hwp)⟩)
    clear A4 HB1 hb HB HA cL cM x0 x1 x2 x3 hs2
    go_loopw [5] (fun i wr => ∃ j : Nat, j ≤ N ∧ i = .int .i64 j ∧ Hid (IndR w w2.heap.size q k (.slice a1 0 c1) (.slice a2 n2 c2) (indN q ls k cs j) wr)) (fun i _ => N - (RowKit.intOf i).toNat)
    case atStart => exact ⟨0, Nat.zero_le _, rfl, HI⟩
    case round =>
      obtain ⟨j, hj, rfl, HR⟩ := hrel
      obtain ⟨s, c, hX, hY, hLn, hOf, hBe⟩ := HR.out
      by_cases hlt : j < N
      · have hst := indN_step (cs := cs) HF.out (i := j) (by rw [HN.out]; exact hlt)
        obtain ⟨hmj, hcj⟩ := indN_may (cs := cs) HF.out (i := j) (by rw [HN.out]; omega)
        obtain ⟨hmk, hck⟩ := indN_may (cs := cs) HF.out (i := j + 1) (by rw [HN.out]; omega)
        obtain ⟨Mj, hMj⟩ : ∃ M, indN q ls k cs (j) = M := ⟨_, rfl⟩
        obtain ⟨Mk, hMk⟩ : ∃ M, indN q ls k cs (j + 1) = M := ⟨_, rfl⟩
        rw [hMj] at hst hmj hcj hY hLn hOf
        rw [hMk] at hst hmk hck
        obtain ⟨q', ls', k', cs'⟩ := Mj
        obtain ⟨q9, ls9, k9, cs9⟩ := Mk
        dsimp only at hst hmj hcj hY hLn hOf hmk hck
        have hcj' := hcj.symm
        subst hcj'
        have hck' := hck.symm
        subst hck'
        have hkI : (j : Int) < (6 : Int) - q := by rw [HNI.out]; omega
        have HX := Lib.hid hX
        have HY := Lib.hid hY
        have HLn := Lib.hid hLn
        have HMf := Lib.hid hmj
        have Hf9 := Lib.hid hst
        have HM9 := Lib.hid hMk
        have hb0 := Lib.hid hBe
        obtain ⟨b1, f1, e1⟩ := hLn.z.len
        obtain ⟨b2, f2, e2⟩ := hLn.r.len
        subst e1 e2
        obtain ⟨_, y0, y1, y2, y3, _, _, _, _⟩ := hY
        clear hX hLn hOf hmj hmk hBe HR hst hMk hMj hcj hck
        go_wp2_with (go_at_call 24; ((with_reducible refine (cI q' k' _ _ ls' _ _ hb0.out HLn.out HMf.out Hf9.out).mono ?_); rintro e w5 ⟨s5, d5, rfl, m5, hb2⟩; dsimp only at m5; obtain ⟨b5, f5, e5⟩ := m5.z.here.len; obtain ⟨b6, f6, e6⟩ := m5.r.here.len; subst e5 e6; have HS := Lib.hid (fun o => indR_step (q5 := q9) (k5 := k9) (o := o) HX.out HY.out hb0.out hb2 m5 (Nat.le_refl _) hnw hwp); have Y5 := Lib.hid (HY.out.below hb2); have hy5 := Y5.out.lt; clear y0 y1 y2 y3 hb2 m5; obtain ⟨_, y0, y1, y2, y3, y4, y5, y6, y7⟩ := Y5.out))
        go_roundw
        case rel => exact ⟨j + 1, hlt, by go_num, Lib.hid (by rw [HM9.out]; exact HS.out _)⟩
        case measure => simp [RowKit.intOf]; omega
      · have hjn : N = j := by omega
        subst hjn
        have hst := indN_end (cs := cs) HF.out
        rw [HN.out] at hst
        obtain ⟨hmj, hcj⟩ := indN_may (cs := cs) HF.out (i := N) (by rw [HN.out]; omega)
        obtain ⟨Mj, hMj⟩ : ∃ M, indN q ls k cs N = M := ⟨_, rfl⟩
        rw [hMj] at hst hmj hcj hY hLn hOf
        obtain ⟨q', ls', k', cs'⟩ := Mj
        dsimp only at hst hmj hcj hY hLn hOf
        have hcj' := hcj.symm
        subst hcj'
        have hkI : ¬ (N : Int) < (6 : Int) - q := by rw [HNI.out]; omega
        have HX := Lib.hid hX
        have HY := Lib.hid hY
        have HLn := Lib.hid hLn
        have HOf := Lib.hid hOf
        have HMf := Lib.hid hmj
        have Hf9 := Lib.hid hst
        have HMj := Lib.hid hMj
        have hb0 := Lib.hid hBe
        obtain ⟨b1, f1, e1⟩ := hLn.z.len
        obtain ⟨b2, f2, e2⟩ := hLn.r.len
        subst e1 e2
        obtain ⟨_, y0, y1, y2, y3, _, _, _, _⟩ := hY
        clear hX hLn hOf hmj hBe HR hst hMj hcj
        go_wp2_with (go_at_call 24; ((with_reducible refine (cI q' k' _ _ ls' _ _ hb0.out HLn.out HMf.out Hf9.out).mono ?_); rintro e w5 ⟨s5, d5, rfl, m5, hb2⟩; dsimp only [ln0] at m5 ⊢; obtain ⟨b5, f5, e5⟩ : ∃ a c', s5 = .slice a 0 c' := m5.z.here.len; obtain ⟨b6, f6, e6⟩ : ∃ a c', d5 = .slice a 0 c' := m5.r.here.len; subst e5 e6; have hs5 := hb0.out.size; have A5 := Lib.hid ((Below.refl w5.heap.size w5).alloc (Nat.le_refl _) (.cells #[.int .i64 0, .slice b5 0 f5, .int .i64 0, .slice b6 0 f6] 25)); have hzz := hb2.size; have b5A := Lib.hid (hb2.trans (A5.out.mono hzz)); have HI2 : Hid (IndR w w2.heap.size q k (.slice a1 0 c1) (.slice a2 n2 c2) (indN q ls k cs (N - 0)) (w5.alloc (.cells #[.int .i64 0, .slice b5 0 f5, .int .i64 0, .slice b6 0 f6] 25))) := Lib.hid (by rw [Nat.sub_zero, HMj.out]; exact ⟨_, _, HX.out.below b5A.out, HY.out.below b5A.out, HLn.out.below b5A.out, HOf.out, hb0.out.trans (b5A.out.mono hs5)⟩); clear y0 y1 y2 y3 hb2 m5))
        clear A5 b5A HX HY HLn HOf HMf Hf9 HMj hb0 hkI
        go_loopw [10] (fun i wr => ∃ j : Nat, j ≤ N ∧ i = .int .i64 j ∧ Hid (IndR w w2.heap.size q k (.slice a1 0 c1) (.slice a2 n2 c2) (indN q ls k cs (N - j)) wr)) (fun i _ => N - (RowKit.intOf i).toNat)
        case atStart => exact ⟨0, Nat.zero_le _, rfl, HI2⟩
        case round =>
          obtain ⟨j, hj, rfl, HR⟩ := hrel
          obtain ⟨s, c, hX, hY, hLn, hOf, hBe⟩ := HR.out
          by_cases hlt : j < N
          · have hst := (show outdentS (indN q ls k cs (N - j)) = (0, indN q ls k cs (N - j - 1)) by have h := indN_back (cs := cs) HF.out (N - j - 1); rwa [show N - j - 1 + 1 = N - j by omega] at h)
            obtain ⟨hmj, hcj⟩ := indN_may (cs := cs) HF.out (i := N - j) (by rw [HN.out]; omega)
            obtain ⟨hmk, hck⟩ := indN_may (cs := cs) HF.out (i := N - j - 1) (by rw [HN.out]; omega)
            obtain ⟨Mj, hMj⟩ : ∃ M, indN q ls k cs (N - j) = M := ⟨_, rfl⟩
            obtain ⟨Mk, hMk⟩ : ∃ M, indN q ls k cs (N - j - 1) = M := ⟨_, rfl⟩
            rw [hMj] at hst hmj hcj hY hLn hOf
            rw [hMk] at hst hmk hck
            obtain ⟨q', ls', k', cs'⟩ := Mj
            obtain ⟨q9, ls9, k9, cs9⟩ := Mk
            dsimp only at hst hmj hcj hY hLn hOf hmk hck
            have hcj' := hcj.symm
            subst hcj'
            have hck' := hck.symm
            subst hck'
            have hkI : (j : Int) < (6 : Int) - q := by rw [HNI.out]; omega
            have HX := Lib.hid hX
            have HY := Lib.hid hY
            have HLn := Lib.hid hLn
            have HMf := Lib.hid hmj
            have Hf9 := Lib.hid hst
            have HM9 := Lib.hid hMk
            have hb0 := Lib.hid hBe
            obtain ⟨b1, f1, e1⟩ := hLn.z.len
            obtain ⟨b2, f2, e2⟩ := hLn.r.len
            subst e1 e2
            obtain ⟨_, y0, y1, y2, y3, _, _, _, _⟩ := hY
            clear hX hLn hOf hmj hmk hBe HR hst hMk hMj hcj hck
            go_wp2_with (go_at_call 26; ((with_reducible refine (cU q' k' _ _ ls' _ _ hb0.out HLn.out HMf.out Hf9.out).mono ?_); rintro e w5 ⟨s5, d5, rfl, m5, hb2⟩; dsimp only at m5; obtain ⟨b5, f5, e5⟩ := m5.z.here.len; obtain ⟨b6, f6, e6⟩ := m5.r.here.len; subst e5 e6; have HS := Lib.hid (fun o => indR_step (q5 := q9) (k5 := k9) (o := o) HX.out HY.out hb0.out hb2 m5 (Nat.le_refl _) hnw hwp); have Y5 := Lib.hid (HY.out.below hb2); have hy5 := Y5.out.lt; clear y0 y1 y2 y3 hb2 m5; obtain ⟨_, y0, y1, y2, y3, y4, y5, y6, y7⟩ := Y5.out))
            go_roundw
            case rel => exact ⟨j + 1, hlt, by go_num, Lib.hid (by rw [show N - (j + 1) = N - j - 1 by omega, HM9.out]; exact HS.out _)⟩
            case measure => simp [RowKit.intOf]; omega
          · have hjn : N = j := by omega
            subst hjn
            rw [Nat.sub_self, indN_zero] at hY hLn hOf
            have hkI : ¬ (N : Int) < (6 : Int) - q := by rw [HNI.out]; omega
            have HX := Lib.hid hX
            have HLn := Lib.hid hLn
            have hb0 := Lib.hid hBe
            obtain ⟨b1, f1, e1⟩ := hLn.z.len
            obtain ⟨b2, f2, e2⟩ := hLn.r.len
            dsimp only at e1 e2
            rw [N1.out] at e1
            rw [N2.out] at e2
            subst e1 e2
            obtain ⟨_, y0, y1, y2, y3, _, _, _, _⟩ := hY
            obtain ⟨_, x0, x1, x2, x3, _, _, _, _⟩ := hX
            clear hLn hOf hBe HR
            go_wp2_with (first
              | (go_at_call 14; ((with_reducible refine (cS _ _ _ hb0.out HLn.out).mono ?_); rintro e w6 ⟨rfl, hb2⟩; have hs6 := hb0.out.size; have hb := Lib.hid (hb0.out.trans (hb2.mono hs6)); clear hb2))
              | (go_at_call 10; ((with_reducible refine (haw _ hb.out).mono ?_); rintro e w9 ⟨rfl, hb2⟩; have hs9 := hb.out.size; replace hb := Lib.hid (hb.out.trans (hb2.mono hs9)); clear hb2)))
            go_ret
            exact ⟨rfl, hb.out⟩

end Go.Proofs.YtmlipcedkgfmiaaDoor
