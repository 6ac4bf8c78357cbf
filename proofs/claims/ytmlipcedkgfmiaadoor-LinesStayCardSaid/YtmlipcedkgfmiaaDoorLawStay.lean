/-
  The law of what is done over again.
-/
import Derived.Test.YtmlipcedkgfmiaaDoorOff
namespace Go.Proofs.YtmlipcedkgfmiaaDoor
open Go.RowKit Go.Lib

/-- So far: the line; the one that it became. -/
def StayR (w : World) (p7 : Nat) (q k : Int) (sl sc : Value) (cs : Row) (wr : World) : Prop :=
  ∃ q' k' s c ls', BoxAt wr w.heap.size q sl k sc ∧ BoxAt wr p7 q' s k' c ∧ LnAt wr s c ls' cs ∧ Off p7 s c ls' cs ∧ mayF q' ls' k' = true ∧ Below w.heap.size w wr
/-- Behind an act: the line, the one that it became, what is made of that. -/
structure StayN (w : World) (p7 p10 : Nat) (q k q' k' q5 k5 : Int) (sl sc s c s5 c5 : Value) (ls' ls5 : IRow) (cs cs5 : Row) (W : World) : Prop where
  bx : BoxAt W w.heap.size q sl k sc
  b7 : BoxAt W p7 q' s k' c
  b10 : BoxAt W p10 q5 s5 k5 c5
  lm : LnAt W s c ls' cs
  ln : LnAt W s5 c5 ls5 cs5
  om : Off p7 s c ls' cs
  on : Off p7 s5 c5 ls5 cs5
  hb : Below w.heap.size w W
  ne : p10 ≠ p7
  nw : w.heap.size ≠ p7
theorem stayN_a {w wr w5 : World} {p7 B : Nat} {q k q' k' q5 k5 : Int} {sl sc s c s5 c5 : Value} {ls' ls5 : IRow} {cs cs5 : Row} (hX : BoxAt wr w.heap.size q sl k sc) (hY : BoxAt wr p7 q' s k' c) (hl : LnAt wr s c ls' cs) (ho : Off p7 s c ls' cs) (h0 : Below w.heap.size w wr) (hb : Below wr.heap.size wr w5)
    (hm : MineLn B w5.heap.size w5 s5 c5 ls5 cs5) (hB : wr.heap.size ≤ B) (hn : w.heap.size ≠ p7) : StayN w p7 w5.heap.size q k q' k' q5 k5 sl sc s c s5 c5 ls' ls5 cs cs5 (w5.alloc (.cells #[.int .i64 q5, s5, .int .i64 k5, c5] 25)) := by
  have A5 := (Below.refl w5.heap.size w5).alloc (Nat.le_refl _) (.cells #[.int .i64 q5, s5, .int .i64 k5, c5] 25)
  have h1 := hY.lt
  have h2 := hb.size
  have h3 := h0.size
  exact ⟨(hX.below hb).below A5, (hY.below hb).below A5, box_new _ _ _ _ _, (hl.below hb).below A5, hm.at.below A5, ho, off_mine hm (.inl (by omega)), h0.trans ((hb.trans (A5.mono h2)).mono h3), by omega, hn⟩
theorem stayN_b {w wr w5 : World} {p7 B : Nat} {q k q' k' q5 k5 q9 k9 : Int} {sl sc s c s5 c5 s9 c9 : Value} {ls' ls5 : IRow} {cs cs5 : Row} (hX : BoxAt wr w.heap.size q sl k sc) (hY : BoxAt wr p7 q' s k' c) (hl : LnAt wr s c ls' cs) (ho : Off p7 s c ls' cs) (h0 : Below w.heap.size w wr) (hb : Below wr.heap.size wr w5) (hZ : BoxAt w5 wr.heap.size q9 s9 k9 c9)
    (hm : MineLn B w5.heap.size w5 s5 c5 ls5 cs5) (hB : wr.heap.size < B) (hn : w.heap.size ≠ p7) : StayN w p7 wr.heap.size q k q' k' q5 k5 sl sc s c s5 c5 ls' ls5 cs cs5 (put4 w5 wr.heap.size q5 s5 k5 c5) := by
  have h1 := hY.lt
  have h2 := hb.size
  have h3 := h0.size
  have h4 := hX.lt
  exact ⟨put4_far (hX.below hb) (by omega), put4_far (hY.below hb) (by omega), put4_box hZ, lnAt_put4 (hl.below hb) (off_low hl (Nat.le_refl _)), lnAt_put4 hm.at (off_mine hm (.inl hB)), ho, off_mine hm (.inl (by omega)), put4_below (h0.trans (hb.mono h3)) h3, by omega, hn⟩
theorem bcell3 {B : Nat} {W w1 : World} (hb : Below W.heap.size W w1) : (∀ b o, B ≤ b → b < W.heap.size → w1.cell? ⟨b, o, none⟩ = W.cell? ⟨b, o, none⟩) ∧ (∀ b o, B ≤ b → b < W.heap.size → w1.frozen? ⟨b, o, none⟩ = W.frozen? ⟨b, o, none⟩) :=
  ⟨fun b o _ h => hb.cell (p := ⟨b, o, none⟩) h, fun b o _ h => hb.frozen (p := ⟨b, o, none⟩) h⟩

set_option maxRecDepth 20000 in
set_option maxHeartbeats 16000000 in
theorem lawStay_walk (q k : Int) (sl sc vd vk : Value) (ls dl kl : IRow) (cs : Row) (w : World) (hE : Tg.Env w) (h : LnAt w sl sc ls cs) (hs : Sized cs) (hd : IntsAt w vd dl) (hk : IntsAt w vk kl) :
    Calls Tryd.prog 6 #[.agg #[.int .i64 q, sl, .int .i64 k, sc], vd, vk] w fun e w' => e = .returned (.bool true) ∧ Below w.heap.size w w' := by
  obtain ⟨a1, c1, rfl⟩ := h.z.len
  obtain ⟨a2, c2, rfl⟩ := h.r.len
  obtain ⟨a7, c7, e7, hc7, hm7⟩ := hd.cap
  obtain ⟨a8, c8, e8, hc8, hm8⟩ := hk.cap
  subst e7 e8
  unfold maxLen at hm7 hm8
  have haw : ∀ w1, Below w.heap.size w w1 → Calls Tryd.prog 10 #[] w1 fun e w' => e = .returned (.bool true) ∧ Below w1.heap.size w1 w' := fun w1 h1 => awake_any w1 (hE.below h1)
  have cL : ∀ w1, Below w.heap.size w w1 → Calls Tryd.prog 9 #[.agg #[.int .i64 q, .slice a1 ls.length c1, .int .i64 k, .slice a2 cs.length c2]] w1 fun e w' => e = .returned (.bool (longL ⟨q, ls, k, cs⟩)) ∧ Below w1.heap.size w1 w' := fun w1 h1 => long_any q k _ _ ls cs w1 (h.below h1) hs
  have HB := Lib.hid (box_new w q k (.slice a1 ls.length c1) (.slice a2 cs.length c2))
  have HA := Lib.hid ((Below.refl w.heap.size w).alloc (Nat.le_refl _) (.cells #[.int .i64 q, .slice a1 ls.length c1, .int .i64 k, .slice a2 cs.length c2] 25))
  cases hl1 : longL ⟨q, ls, k, cs⟩ with
  | true =>
    rw [hl1] at cL
    obtain ⟨n1, hn1⟩ : ∃ n, ls.length = n := ⟨_, rfl⟩
    obtain ⟨n2, hn2⟩ : ∃ n, cs.length = n := ⟨_, rfl⟩
    obtain ⟨n7, hn7⟩ : ∃ n, dl.length = n := ⟨_, rfl⟩
    obtain ⟨n8, hn8⟩ : ∃ n, kl.length = n := ⟨_, rfl⟩
    rw [hn1, hn2] at cL HB HA ⊢
    rw [hn7, hn8]
    clear h hs hd hk hE hl1 hn1 hn2 hn7 hn8
    go_enter Tryd.func6, Tryd.ntmps6
    go_wp2_with (first
      | (go_at_call 9; ((with_reducible refine (cL _ HA.out).mono ?_); rintro e w1 ⟨rfl, hb2⟩; have hb := Lib.hid (HA.out.trans (hb2.mono HA.out.size)); have HB1 := Lib.hid (HB.out.below hb2); obtain ⟨_, x0, x1, x2, x3, _, _, _, _⟩ := HB1.out; clear hb2))
      | (go_at_call 10; ((with_reducible refine (haw _ hb.out).mono ?_); rintro e w9 ⟨rfl, hb2⟩; have hs9 := hb.out.size; replace hb := Lib.hid (hb.out.trans (hb2.mono hs9)); clear hb2)))
    go_ret
    exact ⟨rfl, hb.out⟩
  | false =>
  rw [hl1] at cL
  obtain ⟨hcs, hls, hf⟩ := longL_false hl1
  have cM : ∀ w1, Below w.heap.size w w1 → Calls Tryd.prog 12 #[.agg #[.int .i64 q, .slice a1 ls.length c1, .int .i64 k, .slice a2 cs.length c2]] w1 fun e w' => e = .returned (.bool (mayS ⟨q, ls, k, cs⟩)) ∧ Below w1.heap.size w1 w' := fun w1 h1 => lmay_any q k _ _ ls cs w1 (h.below h1) (by omega) (by omega) hf (hE.below h1)
  cases hM : mayS ⟨q, ls, k, cs⟩ with
  | false =>
    rw [hM] at cM
    obtain ⟨n1, hn1⟩ : ∃ n, ls.length = n := ⟨_, rfl⟩
    obtain ⟨n2, hn2⟩ : ∃ n, cs.length = n := ⟨_, rfl⟩
    obtain ⟨n7, hn7⟩ : ∃ n, dl.length = n := ⟨_, rfl⟩
    obtain ⟨n8, hn8⟩ : ∃ n, kl.length = n := ⟨_, rfl⟩
    rw [hn1, hn2] at cL cM HB HA ⊢
    rw [hn7, hn8]
    clear h hs hd hk hE hl1 hn1 hn2 hn7 hn8 hM hcs hls hf
    go_enter Tryd.func6, Tryd.ntmps6
    go_wp2_with (first
      | (go_at_call 9; ((with_reducible refine (cL _ HA.out).mono ?_); rintro e w1 ⟨rfl, hb2⟩; have hb := Lib.hid (HA.out.trans (hb2.mono HA.out.size)); have HB1 := Lib.hid (HB.out.below hb2); obtain ⟨_, x0, x1, x2, x3, _, _, _, _⟩ := HB1.out; clear hb2))
      | (go_at_call 12; ((with_reducible refine (cM _ hb.out).mono ?_); rintro e w2 ⟨rfl, hb2⟩; have hs2 := hb.out.size; replace hb := Lib.hid (hb.out.trans (hb2.mono hs2)); replace HB1 := Lib.hid (HB1.out.below hb2); clear x0 x1 x2 x3; obtain ⟨_, x0, x1, x2, x3, _, _, _, _⟩ := HB1.out; clear hb2))
      | (go_at_call 10; ((with_reducible refine (haw _ hb.out).mono ?_); rintro e w9 ⟨rfl, hb2⟩; have hs9 := hb.out.size; replace hb := Lib.hid (hb.out.trans (hb2.mono hs9)); clear hb2)))
    go_ret
    exact ⟨rfl, hb.out⟩
  | true =>
  rw [hM] at cM
  by_cases hbig : 100 < dl.length
  · obtain ⟨n1, hn1⟩ : ∃ n, ls.length = n := ⟨_, rfl⟩
    obtain ⟨n2, hn2⟩ : ∃ n, cs.length = n := ⟨_, rfl⟩
    obtain ⟨n7, hn7⟩ : ∃ n, dl.length = n := ⟨_, rfl⟩
    obtain ⟨n8, hn8⟩ : ∃ n, kl.length = n := ⟨_, rfl⟩
    rw [hn1, hn2] at cL cM HB HA ⊢
    rw [hn7] at hbig
    rw [hn7, hn8]
    have hbI : (100 : Int) < (n7 : Int) := by omega
    clear h hs hd hk hE hl1 hn1 hn2 hn7 hn8 hM hcs hls hf
    go_enter Tryd.func6, Tryd.ntmps6
    go_wp2_with (first
      | (go_at_call 9; ((with_reducible refine (cL _ HA.out).mono ?_); rintro e w1 ⟨rfl, hb2⟩; have hb := Lib.hid (HA.out.trans (hb2.mono HA.out.size)); have HB1 := Lib.hid (HB.out.below hb2); obtain ⟨_, x0, x1, x2, x3, _, _, _, _⟩ := HB1.out; clear hb2))
      | (go_at_call 12; ((with_reducible refine (cM _ hb.out).mono ?_); rintro e w2 ⟨rfl, hb2⟩; have hs2 := hb.out.size; replace hb := Lib.hid (hb.out.trans (hb2.mono hs2)); replace HB1 := Lib.hid (HB1.out.below hb2); clear x0 x1 x2 x3; obtain ⟨_, x0, x1, x2, x3, _, _, _, _⟩ := HB1.out; clear hb2))
      | (go_at_call 10; ((with_reducible refine (haw _ hb.out).mono ?_); rintro e w9 ⟨rfl, hb2⟩; have hs9 := hb.out.size; replace hb := Lib.hid (hb.out.trans (hb2.mono hs9)); clear hb2)))
    go_ret
    exact ⟨rfl, hb.out⟩
  have hbI : ¬ (100 : Int) < (dl.length : Int) := by omega
  have hmF : mayF q ls k = true ∧ mayR cs = true := by rw [mayS_F, Bool.and_eq_true] at hM; exact hM
  obtain ⟨hm1, hmR⟩ := hmF
  have cO : ∀ w1, Below w.heap.size w w1 → Calls Tryd.prog 17 #[.agg #[.int .i64 q, .slice a1 ls.length c1, .int .i64 k, .slice a2 cs.length c2]] w1 fun e w' => ∃ sl' sc', e = .returned (.agg #[.int .i64 q, sl', .int .i64 k, sc']) ∧ OwnLn w1.heap.size w' sl' sc' ls cs ∧ Below w1.heap.size w1 w' := fun w1 h1 => lown_any q k _ _ ls cs w1 (h.z.below h1) (h.r.below h1) (by omega) (by omega)
  have cT : ∀ (q' k' z kind : Int) (s c : Value) (ls' : IRow) w1, Below w.heap.size w w1 → LnAt w1 s c ls' cs → mayF q' ls' k' = true → Calls Tryd.prog 34 #[.agg #[.int .i64 q', s, .int .i64 k', c], .int .i64 z, .int .i64 kind] w1 (TurnPost ⟨q', ls', k', cs⟩ w1) := fun q' k' z kind s c ls' w1 h1 h2 h3 => turn_any q' k' z kind s c ls' cs w1 h2 (by have := mayF_len h3; omega) (by omega) hf (hE.below h1) (mayS_of h3 hmR)
  have cN : ∀ (q' k' : Int) (s c : Value) (ls' : IRow) w1, Below w.heap.size w w1 → LnAt w1 s c ls' cs → mayF q' ls' k' = true → Calls Tryd.prog 12 #[.agg #[.int .i64 q', s, .int .i64 k', c]] w1 fun e w' => e = .returned (.bool true) ∧ Below w1.heap.size w1 w' := fun q' k' s c ls' w1 h1 h2 h3 => by
    have h := lmay_any q' k' s c ls' cs w1 h2 (by have := mayF_len h3; omega) (by omega) hf (hE.below h1)
    rwa [mayS_of h3 hmR] at h
  have cS : ∀ (q' k' q3 k3 : Int) (s c s3 d3 : Value) (ls' ls3 : IRow) w1, LnAt w1 s3 d3 ls3 cs → LnAt w1 s c ls' cs → ls3.length ≤ 6 → ¬ (q3 = q' ∧ ls3 = ls' ∧ k3 = k') → Calls Tryd.prog 14 #[.agg #[.int .i64 q3, s3, .int .i64 k3, d3], .agg #[.int .i64 q', s, .int .i64 k', c]] w1 fun e w' => e = .returned (.bool false) ∧ Below w1.heap.size w1 w' := fun q' k' q3 k3 s c s3 d3 ls' ls3 w1 h1 h2 h3 h4 => by
    have h := lsame_any q3 k3 q' k' s3 d3 s c ls3 ls' cs cs w1 h1 h2 (by omega) (by omega)
    rwa [show sameL ⟨q3, ls3, k3, cs⟩ ⟨q', ls', k', cs⟩ = false from decide_eq_false (fun e => h4 ⟨e.1, e.2.1, e.2.2.1⟩)] at h
  have cR : ∀ (v1 : Value) w1, Below w.heap.size w w1 → RowAt w1 v1 cs → Calls Tryd.prog 35 #[v1, .slice a2 cs.length c2] w1 fun e w' => e = .returned (.bool true) ∧ Below w1.heap.size w1 w' := fun v1 w1 h1 h2 => by
    have h := rsame_any v1 _ cs cs w1 h2 (h.r.below h1) (by omega)
    rwa [show sameR cs cs = true from decide_eq_true rfl] at h
  have HD := Lib.hid hd
  have HK := Lib.hid hk
  have HF := Lib.hid hm1
  obtain ⟨n1, hn1⟩ : ∃ n, ls.length = n := ⟨_, rfl⟩
  obtain ⟨n2, hn2⟩ : ∃ n, cs.length = n := ⟨_, rfl⟩
  obtain ⟨n7, hn7⟩ : ∃ n, dl.length = n := ⟨_, rfl⟩
  obtain ⟨n8, hn8⟩ : ∃ n, kl.length = n := ⟨_, rfl⟩
  have N1 := Lib.hid hn1
  have N2 := Lib.hid hn2
  have N7 := Lib.hid hn7
  have N8 := Lib.hid hn8
  rw [hn1, hn2] at cL cM cO HB HA ⊢
  rw [hn2] at cR
  rw [hn7] at HD hbI hbig hc7 ⊢
  rw [hn8] at HK hc8 ⊢
  clear h hs hd hk hE hl1 hn1 hn2 hn7 hn8 hM hcs hls hf hm1 hmR
  go_enter Tryd.func6, Tryd.ntmps6
  go_wp2_with (first
    | (go_at_call 9; ((with_reducible refine (cL _ HA.out).mono ?_); rintro e w1 ⟨rfl, hb2⟩; have hb := Lib.hid (HA.out.trans (hb2.mono HA.out.size)); have HB1 := Lib.hid (HB.out.below hb2); obtain ⟨_, x0, x1, x2, x3, _, _, _, _⟩ := HB1.out; clear hb2))
    | (go_at_call 12; ((with_reducible refine (cM _ hb.out).mono ?_); rintro e w2 ⟨rfl, hb2⟩; have hs2 := hb.out.size; replace hb := Lib.hid (hb.out.trans (hb2.mono hs2)); replace HB1 := Lib.hid (HB1.out.below hb2); clear x0 x1 x2 x3; obtain ⟨_, x0, x1, x2, x3, _, _, _, _⟩ := HB1.out; clear hb2))
    | (go_at_call 17; ((with_reducible refine (cO _ hb.out).mono ?_); rintro e w3 ⟨sl', sc', rfl, ho, hb2⟩; have hs3 := hb.out.size; replace hb := Lib.hid (hb.out.trans (hb2.mono hs3)); replace HB1 := Lib.hid (HB1.out.below hb2); obtain ⟨a3, c3, e3⟩ := own_len ho.1; obtain ⟨a4, c4, e4⟩ := own_len ho.2; rw [N1.out] at e3; rw [N2.out] at e4; subst e3 e4; have HO := Lib.hid (mine_of_own ho); have hs4 := hb.out.size; clear x0 x1 x2 x3 hb2 ho)))
  have A3 := (Below.refl w3.heap.size w3).alloc (Nat.le_refl _) (.cells #[.int .i64 q, .slice a3 n1 c3, .int .i64 k, .slice a4 n2 c4] 25)
  have HI : Hid (StayR w w3.heap.size q k (.slice a1 n1 c1) (.slice a2 n2 c2) cs (w3.alloc (.cells #[.int .i64 q, .slice a3 n1 c3, .int .i64 k, .slice a4 n2 c4] 25))) := Lib.hid ⟨q, k, _, _, ls, HB1.out.below A3, box_new w3 q k _ _, HO.out.at.below A3, off_mine HO.out (.inr (Nat.le_refl _)), HF.out, hb.out.trans (A3.mono hs4)⟩
  have hlp : w.heap.size < w3.heap.size := HB1.out.lt
  have hnw : w.heap.size ≠ w3.heap.size := Nat.ne_of_lt hlp
  clear A3 HB1 HO hb HB HA cL cM cO
  go_loopw [8] (fun i wr => ∃ j : Nat, j ≤ n7 ∧ i = .int .i64 j ∧ Hid (StayR w w3.heap.size q k (.slice a1 n1 c1) (.slice a2 n2 c2) cs wr)) (fun i _ => n7 - (RowKit.intOf i).toNat)
  case atStart => exact ⟨0, Nat.zero_le _, rfl, HI⟩
  case round =>
    obtain ⟨j, hj, rfl, HR⟩ := hrel
    obtain ⟨q', k', s, c, ls', hX, hY, hLn, hOf, hMf, hBe⟩ := HR.out
    by_cases hlt : j < n7
    · obtain ⟨g7, o7, d7, e7, _, _, hg7, hIn7⟩ := HD.out.lies (by rw [N7.out]; omega)
      rw [N7.out] at e7
      simp only [Value.slice.injEq, true_and] at e7
      obtain ⟨rfl, rfl⟩ := e7
      have d1 := (hBe.cell (p := ⟨g7, o7 + j, none⟩) hg7).trans (hIn7 j (by rw [N7.out]; omega))
      obtain ⟨Z, hZ⟩ : ∃ Z, dl[j]! = Z := ⟨_, rfl⟩
      rw [hZ] at d1
      have hkI : (j : Int) < (n7 : Int) := by omega
      have HX := Lib.hid hX
      have HY := Lib.hid hY
      have HLn := Lib.hid hLn
      have HOf := Lib.hid hOf
      have HMf := Lib.hid hMf
      have hb0 := Lib.hid hBe
      have D1 := Lib.hid d1
      have hyl := hY.lt
      have hg7' : g7 < wr.heap.size := Nat.lt_of_lt_of_le hg7 hBe.size
      obtain ⟨b1, f1, e1⟩ := hLn.z.len
      obtain ⟨b2, f2, e2⟩ := hLn.r.len
      subst e1 e2
      obtain ⟨_, y0, y1, y2, y3, _, _, _, _⟩ := hY
      clear hX hLn hOf hMf hBe hIn7 hZ HR
      by_cases hk8 : j < n8
      · obtain ⟨g8, o8, d8, e8, _, _, hg8, hIn8⟩ := HK.out.lies (by rw [N8.out]; omega)
        rw [N8.out] at e8
        simp only [Value.slice.injEq, true_and] at e8
        obtain ⟨rfl, rfl⟩ := e8
        have d2 := (hb0.out.cell (p := ⟨g8, o8 + j, none⟩) hg8).trans (hIn8 j (by rw [N8.out]; omega))
        obtain ⟨K8, hK8⟩ : ∃ Z, kl[j]! = Z := ⟨_, rfl⟩
        rw [hK8] at d2
        have hkJ : (j : Int) < (n8 : Int) := by omega
        clear hIn8 hK8
        go_wp2_with fail
        have KS : Hid (∀ WW : World, Below wr.heap.size wr WW → WW.cell? ⟨w3.heap.size, 0, none⟩ = some (.int .i64 q') ∧ WW.cell? ⟨w3.heap.size, 1, none⟩ = some (.slice b1 ls'.length f1) ∧ WW.cell? ⟨w3.heap.size, 2, none⟩ = some (.int .i64 k') ∧ WW.cell? ⟨w3.heap.size, 3, none⟩ = some (.slice b2 cs.length f2) ∧ WW.cell? ⟨g7, o7 + j, none⟩ = some (.int .i64 Z)) := Lib.hid (fun WW h => ⟨(HY.out.below h).c0, (HY.out.below h).c1, (HY.out.below h).c2, (HY.out.below h).c3, (h.cell (p := ⟨g7, o7 + j, none⟩) hg7').trans D1.out⟩)
        have hS := KS.out _ (Below.refl _ _)
        have hsr := hb0.out.size
        have bV : Hid (∀ WW : World, Below wr.heap.size wr WW → Below w.heap.size w WW) := Lib.hid (fun WW h => hb0.out.trans (h.mono hsr))
        have hb : Hid (Below wr.heap.size wr wr) := Lib.hid (Below.refl _ _)
        clear y0 y1 y2 y3 d1
        go_region_held3 (fun WW => WW.cell? ⟨w3.heap.size, 0, none⟩ = some (.int .i64 q') ∧ WW.cell? ⟨w3.heap.size, 1, none⟩ = some (.slice b1 ls'.length f1) ∧ WW.cell? ⟨w3.heap.size, 2, none⟩ = some (.int .i64 k') ∧ WW.cell? ⟨w3.heap.size, 3, none⟩ = some (.slice b2 cs.length f2) ∧ WW.cell? ⟨g7, o7 + j, none⟩ = some (.int .i64 Z)) (first | (with_reducible exact hS) | exact KS.out _ (by (repeat (first | (with_reducible exact hb.out) | (with_reducible exact Below.refl _ _) | (with_reducible refine Below.drew ?_) | (with_reducible refine Below.alloc ?_ ?_ _) | (with_reducible refine Below.setCell ?_ ?_ _) | omega | (simp <;> omega))))) (first
          | (go_at_call 34; ((with_reducible refine (cT q' k' _ _ _ _ ls' _ (bV.out _ ?hb) (HLn.out.below ?hc) HMf.out).mono ?_); (case hb => (repeat (first | (with_reducible exact hb.out) | (with_reducible exact Below.refl _ _) | (with_reducible refine Below.drew ?_) | (with_reducible refine Below.alloc ?_ ?_ _) | (with_reducible refine Below.setCell ?_ ?_ _) | omega | (simp <;> omega)))); (case hc => (repeat (first | (with_reducible exact hb.out) | (with_reducible exact Below.refl _ _) | (with_reducible refine Below.drew ?_) | (with_reducible refine Below.alloc ?_ ?_ _) | (with_reducible refine Below.setCell ?_ ?_ _) | omega | (simp <;> omega)))); rintro e w5 ⟨R, ht, s5, d5, rfl, m5, hb2⟩; obtain ⟨er, q5, ls5, k5, cs5⟩ := R; dsimp only at m5; obtain ⟨b5, f5, e5⟩ := m5.z.here.len; obtain ⟨b6, f6, e6⟩ := m5.r.here.len; subst e5 e6; have HT := Lib.hid ht; have M5 := Lib.hid m5; have hd := Lib.hid ((show Below wr.heap.size wr _ by (repeat (first | (with_reducible exact hb.out) | (with_reducible exact Below.refl _ _) | (with_reducible refine Below.drew ?_) | (with_reducible refine Below.alloc ?_ ?_ _) | (with_reducible refine Below.setCell ?_ ?_ _) | omega | (simp <;> omega)))).trans (hb2.mono (by simp))); obtain ⟨hc5, hf5⟩ := bcell3 (B := wr.heap.size) hb2; have hz5 := hb2.size; (try simp at hz5); have hB2 := Lib.hid hb2; clear hb; have hb := hd; replace hS := KS.out _ hb.out; clear hd hb2 ht m5)))
        all_goals first
          | (obtain ⟨W10, hW⟩ : ∃ W, w5.alloc (.cells #[.int .i64 q5, .slice b5 ls5.length f5, .int .i64 k5, .slice b6 cs5.length f6] 25) = W := ⟨_, rfl⟩
             rw [hW]
             have HG := Lib.hid (hW ▸ stayN_a (q5 := q5) (k5 := k5) HX.out HY.out HLn.out HOf.out hb0.out hb.out M5.out (by simp) hnw)
             obtain ⟨p10, hp10⟩ : ∃ p, w5.heap.size = p := ⟨_, rfl⟩
             rw [hp10] at HG ⊢
             clear hW hp10)
          | (have HG := stayN_b (q5 := q5) (k5 := k5) HX.out HY.out HLn.out HOf.out hb0.out hb.out ((box_new wr 0 0 (.slice none 0 0) (.slice none 0 0)).below ((show Below (wr.alloc (.cells #[.int .i64 0, .slice none 0 0, .int .i64 0, .slice none 0 0] 25)).heap.size (wr.alloc (.cells #[.int .i64 0, .slice none 0 0, .int .i64 0, .slice none 0 0] 25)) _ by (repeat (first | (with_reducible exact Below.refl _ _) | (with_reducible refine Below.drew ?_)))).trans (hB2.out.mono (by simp)))) M5.out (by simp) hnw
             unfold put4 at HG
             obtain ⟨W10, hW⟩ : ∃ W, (((w5.setCell ⟨wr.heap.size, 0, none⟩ (.int .i64 q5)).setCell ⟨wr.heap.size, 1, none⟩ (.slice b5 ls5.length f5)).setCell ⟨wr.heap.size, 2, none⟩ (.int .i64 k5)).setCell ⟨wr.heap.size, 3, none⟩ (.slice b6 cs5.length f6) = W := ⟨_, rfl⟩
             rw [hW] at HG ⊢
             replace HG := Lib.hid HG
             obtain ⟨p10, hp10⟩ : ∃ p, wr.heap.size = p := ⟨_, rfl⟩
             rw [hp10] at HG ⊢
             clear hW hp10)
        all_goals (
          have hT0 := HT.out
          clear HT HX HY HLn HOf hb0 hb M5 hS KS bV hc5 hf5 hz5 D1
          clear hB2
          have h10 := HG.out.b10
          have h7 := HG.out.b7
          have hx := HG.out.bx
          have n107 := HG.out.ne
          have n710 : w3.heap.size ≠ p10 := fun e => n107 e.symm
          rcases hT0 with ⟨he, hm5, hc5, hne⟩ | he | he
          · dsimp only at he hm5 hc5 hne
            subst he
            have hc6 := hc5.symm
            subst hc6
            have HM5 := Lib.hid hm5
            have hlen := mayF_len hm5
            have HNE := Lib.hid hne
            obtain ⟨_, z0, z1, z2, z3, _, _, _, _⟩ := h10
            obtain ⟨_, y0, y1, y2, y3, y4, y5, y6, y7⟩ := h7
            clear hm5 hne hc5 hx
            go_wp2_with (first
              | (go_at_call 14; ((with_reducible refine (cS q' k' q5 k5 _ _ _ _ ls' ls5 _ HG.out.ln HG.out.lm hlen HNE.out).mono ?_); rintro e wS ⟨rfl, hb2⟩; have S7 := Lib.hid (HG.out.b7.below hb2); have S10 := Lib.hid (HG.out.b10.below hb2); have SX := Lib.hid (HG.out.bx.below hb2); have hsG := HG.out.hb.size; have bS := Lib.hid (HG.out.hb.trans (hb2.mono hsG)); have lnS := Lib.hid (HG.out.ln.below hb2); clear z0 z1 z2 z3 y0 y1 y2 y3 y4 y5 y6 y7; obtain ⟨_, z0, z1, z2, z3, _, _, _, _⟩ := S10.out; obtain ⟨_, y0, y1, y2, y3, y4, y5, y6, y7⟩ := S7.out; clear hb2))
              | (go_at_call 12; ((with_reducible refine (cN q5 k5 _ _ ls5 _ (put4_below bS.out (Nat.le_of_lt hlp)) (lnAt_put4 lnS.out HG.out.on) HM5.out).mono ?_); rintro e wM ⟨rfl, hb2⟩; have M7 := Lib.hid ((put4_box S7.out).below hb2); have MX := Lib.hid ((put4_far SX.out hnw).below hb2); have lnM := Lib.hid ((lnAt_put4 lnS.out HG.out.on).below hb2); have hsS := bS.out.size; have bM := Lib.hid ((put4_below bS.out (Nat.le_of_lt hlp)).trans (hb2.mono (by rw [put4_size]; exact hsS))); clear z0 z1 z2 z3 y0 y1 y2 y3 y4 y5 y6 y7; obtain ⟨_, y0, y1, y2, y3, _, _, _, _⟩ := M7.out; obtain ⟨_, x0, x1, x2, x3, _, _, _, _⟩ := MX.out; clear hb2))
              | (go_at_call 35; ((with_reducible refine (cR _ _ bM.out lnM.out.r).mono ?_); rintro e wZ ⟨rfl, hb2⟩; have hsM := bM.out.size; have HR2 : Hid (StayR w w3.heap.size q k (.slice a1 n1 c1) (.slice a2 n2 c2) cs wZ) := Lib.hid ⟨q5, k5, _, _, ls5, MX.out.below hb2, M7.out.below hb2, lnM.out.below hb2, HG.out.on, HM5.out, bM.out.trans (hb2.mono hsM)⟩; clear hb2)))
            go_roundw
            case rel => exact ⟨j + 1, hlt, by go_num, HR2⟩
            case measure => simp [RowKit.intOf]; omega
          all_goals (
            dsimp only at he
            subst he
            obtain ⟨_, y0, y1, y2, y3, _, _, _, _⟩ := h7
            clear hx h10
            go_wp2_with (first
              | (go_at_call 12; ((with_reducible refine (cN q' k' _ _ ls' _ HG.out.hb HG.out.lm HMf.out).mono ?_); rintro e wM ⟨rfl, hb2⟩; have M7 := Lib.hid (HG.out.b7.below hb2); have MX := Lib.hid (HG.out.bx.below hb2); have lnM := Lib.hid (HG.out.lm.below hb2); have hsG := HG.out.hb.size; have bM := Lib.hid (HG.out.hb.trans (hb2.mono hsG)); clear y0 y1 y2 y3; obtain ⟨_, y0, y1, y2, y3, _, _, _, _⟩ := M7.out; obtain ⟨_, x0, x1, x2, x3, _, _, _, _⟩ := MX.out; clear hb2))
              | (go_at_call 35; ((with_reducible refine (cR _ _ bM.out lnM.out.r).mono ?_); rintro e wZ ⟨rfl, hb2⟩; have hsM := bM.out.size; have HR2 : Hid (StayR w w3.heap.size q k (.slice a1 n1 c1) (.slice a2 n2 c2) cs wZ) := Lib.hid ⟨q', k', _, _, ls', MX.out.below hb2, M7.out.below hb2, lnM.out.below hb2, HG.out.om, HMf.out, bM.out.trans (hb2.mono hsM)⟩; clear hb2)))
            go_roundw
            case rel => exact ⟨j + 1, hlt, by go_num, HR2⟩
            case measure => simp [RowKit.intOf]; omega))
      · have hkJ : ¬ (j : Int) < (n8 : Int) := by omega
        go_wp2_with fail
        have KS : Hid (∀ WW : World, Below wr.heap.size wr WW → WW.cell? ⟨w3.heap.size, 0, none⟩ = some (.int .i64 q') ∧ WW.cell? ⟨w3.heap.size, 1, none⟩ = some (.slice b1 ls'.length f1) ∧ WW.cell? ⟨w3.heap.size, 2, none⟩ = some (.int .i64 k') ∧ WW.cell? ⟨w3.heap.size, 3, none⟩ = some (.slice b2 cs.length f2) ∧ WW.cell? ⟨g7, o7 + j, none⟩ = some (.int .i64 Z)) := Lib.hid (fun WW h => ⟨(HY.out.below h).c0, (HY.out.below h).c1, (HY.out.below h).c2, (HY.out.below h).c3, (h.cell (p := ⟨g7, o7 + j, none⟩) hg7').trans D1.out⟩)
        have hS := KS.out _ (Below.refl _ _)
        have hsr := hb0.out.size
        have bV : Hid (∀ WW : World, Below wr.heap.size wr WW → Below w.heap.size w WW) := Lib.hid (fun WW h => hb0.out.trans (h.mono hsr))
        have hb : Hid (Below wr.heap.size wr wr) := Lib.hid (Below.refl _ _)
        clear y0 y1 y2 y3 d1
        go_region_held3 (fun WW => WW.cell? ⟨w3.heap.size, 0, none⟩ = some (.int .i64 q') ∧ WW.cell? ⟨w3.heap.size, 1, none⟩ = some (.slice b1 ls'.length f1) ∧ WW.cell? ⟨w3.heap.size, 2, none⟩ = some (.int .i64 k') ∧ WW.cell? ⟨w3.heap.size, 3, none⟩ = some (.slice b2 cs.length f2) ∧ WW.cell? ⟨g7, o7 + j, none⟩ = some (.int .i64 Z)) (first | (with_reducible exact hS) | exact KS.out _ (by (repeat (first | (with_reducible exact hb.out) | (with_reducible exact Below.refl _ _) | (with_reducible refine Below.drew ?_) | (with_reducible refine Below.alloc ?_ ?_ _) | (with_reducible refine Below.setCell ?_ ?_ _) | omega | (simp <;> omega))))) (first
          | (go_at_call 34; ((with_reducible refine (cT q' k' _ _ _ _ ls' _ (bV.out _ ?hb) (HLn.out.below ?hc) HMf.out).mono ?_); (case hb => (repeat (first | (with_reducible exact hb.out) | (with_reducible exact Below.refl _ _) | (with_reducible refine Below.drew ?_) | (with_reducible refine Below.alloc ?_ ?_ _) | (with_reducible refine Below.setCell ?_ ?_ _) | omega | (simp <;> omega)))); (case hc => (repeat (first | (with_reducible exact hb.out) | (with_reducible exact Below.refl _ _) | (with_reducible refine Below.drew ?_) | (with_reducible refine Below.alloc ?_ ?_ _) | (with_reducible refine Below.setCell ?_ ?_ _) | omega | (simp <;> omega)))); rintro e w5 ⟨R, ht, s5, d5, rfl, m5, hb2⟩; obtain ⟨er, q5, ls5, k5, cs5⟩ := R; dsimp only at m5; obtain ⟨b5, f5, e5⟩ := m5.z.here.len; obtain ⟨b6, f6, e6⟩ := m5.r.here.len; subst e5 e6; have HT := Lib.hid ht; have M5 := Lib.hid m5; have hd := Lib.hid ((show Below wr.heap.size wr _ by (repeat (first | (with_reducible exact hb.out) | (with_reducible exact Below.refl _ _) | (with_reducible refine Below.drew ?_) | (with_reducible refine Below.alloc ?_ ?_ _) | (with_reducible refine Below.setCell ?_ ?_ _) | omega | (simp <;> omega)))).trans (hb2.mono (by simp))); obtain ⟨hc5, hf5⟩ := bcell3 (B := wr.heap.size) hb2; have hz5 := hb2.size; (try simp at hz5); have hB2 := Lib.hid hb2; clear hb; have hb := hd; replace hS := KS.out _ hb.out; clear hd hb2 ht m5)))
        all_goals first
          | (obtain ⟨W10, hW⟩ : ∃ W, w5.alloc (.cells #[.int .i64 q5, .slice b5 ls5.length f5, .int .i64 k5, .slice b6 cs5.length f6] 25) = W := ⟨_, rfl⟩
             rw [hW]
             have HG := Lib.hid (hW ▸ stayN_a (q5 := q5) (k5 := k5) HX.out HY.out HLn.out HOf.out hb0.out hb.out M5.out (by simp) hnw)
             obtain ⟨p10, hp10⟩ : ∃ p, w5.heap.size = p := ⟨_, rfl⟩
             rw [hp10] at HG ⊢
             clear hW hp10)
          | (have HG := stayN_b (q5 := q5) (k5 := k5) HX.out HY.out HLn.out HOf.out hb0.out hb.out ((box_new wr 0 0 (.slice none 0 0) (.slice none 0 0)).below ((show Below (wr.alloc (.cells #[.int .i64 0, .slice none 0 0, .int .i64 0, .slice none 0 0] 25)).heap.size (wr.alloc (.cells #[.int .i64 0, .slice none 0 0, .int .i64 0, .slice none 0 0] 25)) _ by (repeat (first | (with_reducible exact Below.refl _ _) | (with_reducible refine Below.drew ?_)))).trans (hB2.out.mono (by simp)))) M5.out (by simp) hnw
             unfold put4 at HG
             obtain ⟨W10, hW⟩ : ∃ W, (((w5.setCell ⟨wr.heap.size, 0, none⟩ (.int .i64 q5)).setCell ⟨wr.heap.size, 1, none⟩ (.slice b5 ls5.length f5)).setCell ⟨wr.heap.size, 2, none⟩ (.int .i64 k5)).setCell ⟨wr.heap.size, 3, none⟩ (.slice b6 cs5.length f6) = W := ⟨_, rfl⟩
             rw [hW] at HG ⊢
             replace HG := Lib.hid HG
             obtain ⟨p10, hp10⟩ : ∃ p, wr.heap.size = p := ⟨_, rfl⟩
             rw [hp10] at HG ⊢
             clear hW hp10)
        all_goals (
          have hT0 := HT.out
          clear HT HX HY HLn HOf hb0 hb M5 hS KS bV hc5 hf5 hz5 D1
          clear hB2
          have h10 := HG.out.b10
          have h7 := HG.out.b7
          have hx := HG.out.bx
          have n107 := HG.out.ne
          have n710 : w3.heap.size ≠ p10 := fun e => n107 e.symm
          rcases hT0 with ⟨he, hm5, hc5, hne⟩ | he | he
          · dsimp only at he hm5 hc5 hne
            subst he
            have hc6 := hc5.symm
            subst hc6
            have HM5 := Lib.hid hm5
            have hlen := mayF_len hm5
            have HNE := Lib.hid hne
            obtain ⟨_, z0, z1, z2, z3, _, _, _, _⟩ := h10
            obtain ⟨_, y0, y1, y2, y3, y4, y5, y6, y7⟩ := h7
            clear hm5 hne hc5 hx
            go_wp2_with (first
              | (go_at_call 14; ((with_reducible refine (cS q' k' q5 k5 _ _ _ _ ls' ls5 _ HG.out.ln HG.out.lm hlen HNE.out).mono ?_); rintro e wS ⟨rfl, hb2⟩; have S7 := Lib.hid (HG.out.b7.below hb2); have S10 := Lib.hid (HG.out.b10.below hb2); have SX := Lib.hid (HG.out.bx.below hb2); have hsG := HG.out.hb.size; have bS := Lib.hid (HG.out.hb.trans (hb2.mono hsG)); have lnS := Lib.hid (HG.out.ln.below hb2); clear z0 z1 z2 z3 y0 y1 y2 y3 y4 y5 y6 y7; obtain ⟨_, z0, z1, z2, z3, _, _, _, _⟩ := S10.out; obtain ⟨_, y0, y1, y2, y3, y4, y5, y6, y7⟩ := S7.out; clear hb2))
              | (go_at_call 12; ((with_reducible refine (cN q5 k5 _ _ ls5 _ (put4_below bS.out (Nat.le_of_lt hlp)) (lnAt_put4 lnS.out HG.out.on) HM5.out).mono ?_); rintro e wM ⟨rfl, hb2⟩; have M7 := Lib.hid ((put4_box S7.out).below hb2); have MX := Lib.hid ((put4_far SX.out hnw).below hb2); have lnM := Lib.hid ((lnAt_put4 lnS.out HG.out.on).below hb2); have hsS := bS.out.size; have bM := Lib.hid ((put4_below bS.out (Nat.le_of_lt hlp)).trans (hb2.mono (by rw [put4_size]; exact hsS))); clear z0 z1 z2 z3 y0 y1 y2 y3 y4 y5 y6 y7; obtain ⟨_, y0, y1, y2, y3, _, _, _, _⟩ := M7.out; obtain ⟨_, x0, x1, x2, x3, _, _, _, _⟩ := MX.out; clear hb2))
              | (go_at_call 35; ((with_reducible refine (cR _ _ bM.out lnM.out.r).mono ?_); rintro e wZ ⟨rfl, hb2⟩; have hsM := bM.out.size; have HR2 : Hid (StayR w w3.heap.size q k (.slice a1 n1 c1) (.slice a2 n2 c2) cs wZ) := Lib.hid ⟨q5, k5, _, _, ls5, MX.out.below hb2, M7.out.below hb2, lnM.out.below hb2, HG.out.on, HM5.out, bM.out.trans (hb2.mono hsM)⟩; clear hb2)))
            go_roundw
            case rel => exact ⟨j + 1, hlt, by go_num, HR2⟩
            case measure => simp [RowKit.intOf]; omega
          all_goals (
            dsimp only at he
            subst he
            obtain ⟨_, y0, y1, y2, y3, _, _, _, _⟩ := h7
            clear hx h10
            go_wp2_with (first
              | (go_at_call 12; ((with_reducible refine (cN q' k' _ _ ls' _ HG.out.hb HG.out.lm HMf.out).mono ?_); rintro e wM ⟨rfl, hb2⟩; have M7 := Lib.hid (HG.out.b7.below hb2); have MX := Lib.hid (HG.out.bx.below hb2); have lnM := Lib.hid (HG.out.lm.below hb2); have hsG := HG.out.hb.size; have bM := Lib.hid (HG.out.hb.trans (hb2.mono hsG)); clear y0 y1 y2 y3; obtain ⟨_, y0, y1, y2, y3, _, _, _, _⟩ := M7.out; obtain ⟨_, x0, x1, x2, x3, _, _, _, _⟩ := MX.out; clear hb2))
              | (go_at_call 35; ((with_reducible refine (cR _ _ bM.out lnM.out.r).mono ?_); rintro e wZ ⟨rfl, hb2⟩; have hsM := bM.out.size; have HR2 : Hid (StayR w w3.heap.size q k (.slice a1 n1 c1) (.slice a2 n2 c2) cs wZ) := Lib.hid ⟨q', k', _, _, ls', MX.out.below hb2, M7.out.below hb2, lnM.out.below hb2, HG.out.om, HMf.out, bM.out.trans (hb2.mono hsM)⟩; clear hb2)))
            go_roundw
            case rel => exact ⟨j + 1, hlt, by go_num, HR2⟩
            case measure => simp [RowKit.intOf]; omega))
    · have hjn : n7 = j := by omega
      subst hjn
      have hb := Lib.hid hBe
      clear hX hY hLn hOf hMf hBe HR
      go_wp2_with (go_at_call 10; ((with_reducible refine (haw _ hb.out).mono ?_); rintro e w9 ⟨rfl, hb2⟩; have hs9 := hb.out.size; replace hb := Lib.hid (hb.out.trans (hb2.mono hs9)); clear hb2))
      go_ret
      exact ⟨rfl, hb.out⟩

end Go.Proofs.YtmlipcedkgfmiaaDoor
