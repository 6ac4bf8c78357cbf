/-
  The law of there and back.
-/
import Derived.Test.YtmlipcedkgfmiaaDoorOff
namespace Go.Proofs.YtmlipcedkgfmiaaDoor
open Go.RowKit Go.Lib

theorem fair_mem {l : Row} : Fair l ↔ ∀ c ∈ l, c.2.2.size ≤ 1000000 := by
  constructor
  · intro h c hc
    obtain ⟨i, hi, rfl⟩ := List.getElem_of_mem hc
    have := h i hi
    rwa [List.getElem!_eq_getElem?_getD, List.getElem?_eq_getElem hi] at this
  · intro h k hk
    rw [List.getElem!_eq_getElem?_getD, List.getElem?_eq_getElem hk]
    exact h _ (List.getElem_mem hk)
theorem fair_take {l : Row} (h : Fair l) (n : Nat) : Fair (l.take n) := fair_mem.2 (fun c hc => fair_mem.1 h c (List.mem_of_mem_take hc))
theorem fair_drop {l : Row} (h : Fair l) (n : Nat) : Fair (l.drop n) := fair_mem.2 (fun c hc => fair_mem.1 h c (List.mem_of_mem_drop hc))
theorem mayR_take {l : Row} (h : mayR l = true) (n : Nat) : mayR (l.take n) = true := by
  unfold mayR at h ⊢
  rw [List.all_eq_true] at h ⊢
  exact fun c hc => h c (List.mem_of_mem_take hc)
theorem mayR_drop {l : Row} (h : mayR l = true) (n : Nat) : mayR (l.drop n) = true := by
  unfold mayR at h ⊢
  rw [List.all_eq_true] at h ⊢
  exact fun c hc => h c (List.mem_of_mem_drop hc)
theorem mayF_zero {q k : Int} {ls : IRow} (h : mayF q ls k = true) : mayF q ls 0 = true := by
  obtain ⟨h1, h2, h3, h4⟩ := mayF_iff.1 h
  exact mayF_iff.2 ⟨h1, h2, ⟨by omega, by omega⟩, fun _ => rfl⟩
theorem join_back {q k kk : Int} {ls : IRow} {cs : Row} (n : Nat) (h1 : mayF q ls k = true) (h2 : mayF q ls kk = true) (hR : mayR cs = true) : opS (joinS ⟨q, ls, kk, cs.drop n⟩) ⟨q, ls, k, cs.take n⟩ = (0, ⟨q, ls, k, cs⟩) := by
  unfold opS joinS
  rw [if_pos (mayS_of h1 (mayR_take hR n)), if_pos (mayS_of h2 (mayR_drop hR n))]
  dsimp only
  rw [List.take_append_drop]

def BackI (w : World) (q k : Int) (sl sc : Value) (wx : World) : Prop := BoxAt wx w.heap.size q sl k sc ∧ Below w.heap.size w wx
/-- Freed so far: so much is left. -/
def BackR (w : World) (p : Nat) (q k : Int) (sl sc : Value) (cs : Row) (m : Nat) (wr : World) : Prop :=
  ∃ q' k' s c ls', BoxAt wr w.heap.size q sl k sc ∧ BoxAt wr p q' s k' c ∧ LnAt wr s c ls' cs ∧ Off p s c ls' cs ∧ mayF q' ls' k' = true ∧ freeN q' ls' k' = m ∧ Below w.heap.size w wr

theorem backR_step {w wr w5 : World} {p B m : Nat} {q k q' k' q5 k5 : Int} {sl sc s c s5 c5 : Value} {ls5 : IRow} {cs : Row} (hX : BoxAt wr w.heap.size q sl k sc) (hY : BoxAt wr p q' s k' c) (h0 : Below w.heap.size w wr) (hb : Below wr.heap.size wr w5)
    (hm : MineLn B w5.heap.size w5 s5 c5 ls5 cs) (hB : wr.heap.size ≤ B) (hn : w.heap.size ≠ p) (hp : w.heap.size ≤ p) (hF : mayF q5 ls5 k5 = true) (hN : freeN q5 ls5 k5 = m) (o : Obj) : BackR w p q k sl sc cs m ((put4 w5 p q5 s5 k5 c5).alloc o) := by
  have h1 := hY.lt
  have h2 := hb.size
  have h3 := h0.size
  have A := (Below.refl (put4 w5 p q5 s5 k5 c5).heap.size (put4 w5 p q5 s5 k5 c5)).alloc (Nat.le_refl _) o
  have hof := off_mine hm (b := p) (.inl (by omega))
  have hbp := put4_below (q := q5) (k := k5) (sl := s5) (sc := c5) (h0.trans (hb.mono h3)) hp
  exact ⟨q5, k5, s5, c5, ls5, (put4_far (hX.below hb) hn).below A, (put4_box (hY.below hb)).below A, (lnAt_put4 hm.at hof).below A, hof, hF, hN, hbp.trans (A.mono hbp.size)⟩

set_option maxRecDepth 20000 in
set_option maxHeartbeats 16000000 in
theorem lawBack_walk (q k z : Int) (sl sc : Value) (ls : IRow) (cs : Row) (w : World) (hE : Tg.Env w) (h : LnAt w sl sc ls cs) (hs : Sized cs) :
    Calls Tryd.prog 7 #[.agg #[.int .i64 q, sl, .int .i64 k, sc], .int .i64 z] w fun e w' => e = .returned (.bool true) ∧ Below w.heap.size w w' := by
  obtain ⟨a1, c1, rfl⟩ := h.z.len
  obtain ⟨a2, c2, rfl⟩ := h.r.len
  have haw : ∀ w1, Below w.heap.size w w1 → Calls Tryd.prog 10 #[] w1 fun e w' => e = .returned (.bool true) ∧ Below w1.heap.size w1 w' := fun w1 h1 => awake_any w1 (hE.below h1)
  have cL : ∀ w1, Below w.heap.size w w1 → Calls Tryd.prog 9 #[.agg #[.int .i64 q, .slice a1 ls.length c1, .int .i64 k, .slice a2 cs.length c2]] w1 fun e w' => e = .returned (.bool (longL ⟨q, ls, k, cs⟩)) ∧ Below w1.heap.size w1 w' := fun w1 h1 => long_any q k _ _ ls cs w1 (h.below h1) hs
  have HB := Lib.hid (box_new w q k (.slice a1 ls.length c1) (.slice a2 cs.length c2))
  have HA := Lib.hid ((Below.refl w.heap.size w).alloc (Nat.le_refl _) (.cells #[.int .i64 q, .slice a1 ls.length c1, .int .i64 k, .slice a2 cs.length c2] 25))
  cases hl1 : longL ⟨q, ls, k, cs⟩ with
  | true =>
    rw [hl1] at cL
    obtain ⟨n1, hn1⟩ : ∃ n, ls.length = n := ⟨_, rfl⟩
    obtain ⟨n2, hn2⟩ : ∃ n, cs.length = n := ⟨_, rfl⟩
    rw [hn1, hn2] at cL HB HA ⊢
    clear h hs hE hl1 hn1 hn2
    go_enter Tryd.func7, Tryd.ntmps7
    go_wp2_with (first
      | (go_at_call 9; ((with_reducible refine (cL _ HA.out).mono ?_); rintro e w1 ⟨rfl, hb2⟩; have hb := Lib.hid (HA.out.trans (hb2.mono HA.out.size)); have HB1 := Lib.hid (HB.out.below hb2); obtain ⟨_, x0, x1, x2, x3, _, _, _, _⟩ := HB1.out; clear hb2))
      | (go_at_call 10; ((with_reducible refine (haw _ hb.out).mono ?_); rintro e w9 ⟨rfl, hb2⟩; have hs9 := hb.out.size; replace hb := Lib.hid (hb.out.trans (hb2.mono hs9)); clear hb2)))
    go_ret
    exact ⟨rfl, hb.out⟩
  | false =>
  rw [hl1] at cL
  obtain ⟨hcs, hls, hf⟩ := longL_false hl1
  have cM : ∀ w1, Below w.heap.size w w1 → Calls Tryd.prog 12 #[.agg #[.int .i64 q, .slice a1 ls.length c1, .int .i64 k, .slice a2 cs.length c2]] w1 fun e w' => e = .returned (.bool (mayS ⟨q, ls, k, cs⟩)) ∧ Below w1.heap.size w1 w' := fun w1 h1 => lmay_any q k _ _ ls cs w1 (h.below h1) (by omega) (by omega) hf (hE.below h1)
  cases hM : mayS ⟨q, ls, k, cs⟩ with
  | false =>
    rw [hM] at cM
    obtain ⟨n1, hn1⟩ : ∃ n, ls.length = n := ⟨_, rfl⟩
    obtain ⟨n2, hn2⟩ : ∃ n, cs.length = n := ⟨_, rfl⟩
    rw [hn1, hn2] at cL cM HB HA ⊢
    clear h hs hE hl1 hn1 hn2 hM hcs hls hf
    go_enter Tryd.func7, Tryd.ntmps7
    go_wp2_with (first
      | (go_at_call 9; ((with_reducible refine (cL _ HA.out).mono ?_); rintro e w1 ⟨rfl, hb2⟩; have hb := Lib.hid (HA.out.trans (hb2.mono HA.out.size)); have HB1 := Lib.hid (HB.out.below hb2); obtain ⟨_, x0, x1, x2, x3, _, _, _, _⟩ := HB1.out; clear hb2))
      | (go_at_call 12; ((with_reducible refine (cM _ hb.out).mono ?_); rintro e w2 ⟨rfl, hb2⟩; have hs2 := hb.out.size; replace hb := Lib.hid (hb.out.trans (hb2.mono hs2)); replace HB1 := Lib.hid (HB1.out.below hb2); clear x0 x1 x2 x3; obtain ⟨_, x0, x1, x2, x3, _, _, _, _⟩ := HB1.out; clear hb2))
      | (go_at_call 10; ((with_reducible refine (haw _ hb.out).mono ?_); rintro e w9 ⟨rfl, hb2⟩; have hs9 := hb.out.size; replace hb := Lib.hid (hb.out.trans (hb2.mono hs9)); clear hb2)))
    go_ret
    exact ⟨rfl, hb.out⟩
  | true =>
  rw [hM] at cM
  have hmF : mayF q ls k = true ∧ mayR cs = true := by rw [mayS_F, Bool.and_eq_true] at hM; exact hM
  obtain ⟨hm1, hmR⟩ := hmF
  have hls6 := mayF_len hm1
  have cI : ∀ (q' k' : Int) (s c : Value) (ls' : IRow) (R : Int × Ln) w1, Below w.heap.size w w1 → LnAt w1 s c ls' cs → mayF q' ls' k' = true → indentS ⟨q', ls', k', cs⟩ = R → Calls Tryd.prog 24 #[.agg #[.int .i64 q', s, .int .i64 k', c]] w1 (AskPost R w1) := fun q' k' s c ls' R w1 h1 h2 h3 h4 => by
    have h := Indent_any q' k' s c ls' cs w1 h2 (by have := mayF_len h3; omega) (by omega) hf (hE.below h1)
    unfold opS at h
    rwa [if_pos (mayS_of h3 hmR), h4] at h
  have cU : ∀ (q' k' : Int) (s c : Value) (ls' : IRow) (R : Int × Ln) w1, Below w.heap.size w w1 → LnAt w1 s c ls' cs → mayF q' ls' k' = true → outdentS ⟨q', ls', k', cs⟩ = R → Calls Tryd.prog 26 #[.agg #[.int .i64 q', s, .int .i64 k', c]] w1 (AskPost R w1) := fun q' k' s c ls' R w1 h1 h2 h3 h4 => by
    have h := Outdent_any q' k' s c ls' cs w1 h2 (by have := mayF_len h3; omega) (by omega) hf (hE.below h1)
    unfold opS at h
    rwa [if_pos (mayS_of h3 hmR), h4] at h
  have cF : ∀ (q' k' : Int) (s c : Value) (ls' : IRow) (R : Int × Ln) w1, Below w.heap.size w w1 → LnAt w1 s c ls' cs → mayF q' ls' k' = true → freeS ⟨q', ls', k', cs⟩ = R → Calls Tryd.prog 32 #[.agg #[.int .i64 q', s, .int .i64 k', c]] w1 (AskPost R w1) := fun q' k' s c ls' R w1 h1 h2 h3 h4 => by
    have h := Free_any q' k' s c ls' cs w1 h2 (by have := mayF_len h3; omega) (by omega) hf (hE.below h1)
    unfold opS at h
    rwa [if_pos (mayS_of h3 hmR), h4] at h
  have cS : ∀ (s3 d3 : Value) w1, Below w.heap.size w w1 → LnAt w1 s3 d3 ls cs → Calls Tryd.prog 14 #[.agg #[.int .i64 q, s3, .int .i64 k, d3], .agg #[.int .i64 q, .slice a1 ls.length c1, .int .i64 k, .slice a2 cs.length c2]] w1 fun e w' => e = .returned (.bool true) ∧ Below w1.heap.size w1 w' := fun s3 d3 w1 h1 h2 => by
    have h := lsame_any q k q k s3 d3 _ _ ls ls cs cs w1 h2 (h.below h1) (by omega) (by omega)
    rwa [sameL_refl'] at h
  have cP : ∀ w1, Below w.heap.size w w1 → Calls Tryd.prog 20 #[.agg #[.int .i64 q, .slice a1 ls.length c1, .int .i64 k, .slice a2 cs.length c2], .int .i64 z] w1 (SplitPost (splitS z ⟨q, ls, k, cs⟩) w1) := fun w1 h1 => Split_any q k z _ _ ls cs w1 (h.below h1) (by omega) (by omega) hf (hE.below h1)
  have cJ : ∀ (n : Nat) (kk : Int) (s3 d3 s4 d4 : Value) w1, Below w.heap.size w w1 → mayF q ls kk = true → LnAt w1 s3 d3 ls (cs.take n) → LnAt w1 s4 d4 ls (cs.drop n) → Calls Tryd.prog 22 #[.agg #[.int .i64 q, s3, .int .i64 k, d3], .agg #[.int .i64 q, s4, .int .i64 kk, d4]] w1 (AskPost (0, ⟨q, ls, k, cs⟩) w1) := fun n kk s3 d3 s4 d4 w1 h1 h2 h3 h4 => by
    have h := Join_any q k q kk s3 d3 s4 d4 ls ls (cs.take n) (cs.drop n) w1 h3 (by omega) (by rw [List.length_take]; omega) (fair_take hf n) (hE.below h1) h4 (by omega) (by rw [List.length_drop]; omega) (fair_drop hf n)
    rwa [join_back n hm1 h2 hmR] at h
  have cN : ∀ (n : Nat) (kk : Int) (s4 d4 : Value) w1, Below w.heap.size w w1 → mayF q ls kk = true → LnAt w1 s4 d4 ls (cs.drop n) → Calls Tryd.prog 12 #[.agg #[.int .i64 q, s4, .int .i64 kk, d4]] w1 fun e w' => e = .returned (.bool true) ∧ Below w1.heap.size w1 w' := fun n kk s4 d4 w1 h1 h2 h4 => by
    have h := lmay_any q kk s4 d4 ls (cs.drop n) w1 h4 (by omega) (by rw [List.length_drop]; omega) (fair_drop hf n) (hE.below h1)
    rwa [mayS_of h2 (mayR_drop hmR n)] at h
  have cR : ∀ (v1 : Value) w1, Below w.heap.size w w1 → RowAt w1 v1 cs → Calls Tryd.prog 35 #[v1, .slice a2 cs.length c2] w1 fun e w' => e = .returned (.bool true) ∧ Below w1.heap.size w1 w' := fun v1 w1 h1 h2 => by
    have h := rsame_any v1 _ cs cs w1 h2 (h.r.below h1) (by omega)
    rwa [show sameR cs cs = true from decide_eq_true rfl] at h
  obtain ⟨⟨er, q5, ls5, k5, cs5⟩, hR⟩ : ∃ R, indentS ⟨q, ls, k, cs⟩ = R := ⟨_, rfl⟩
  have hok := indent_ok cs hm1
  rw [hR] at hok
  have hU := Lib.hid (fun (e : er = 0) => indent_back (hq := (mayF_iff.1 hm1).1.1) (h := (show indentS ⟨q, ls, k, cs⟩ = (0, ⟨q5, ls5, k5, cs5⟩) by rw [hR, e])))
  have HR := Lib.hid hR
  have HF := Lib.hid hm1
  have HOK := Lib.hid hok
  have HL := Lib.hid h
  have hq := (mayF_iff.1 hm1).1
  have hk := (mayF_iff.1 hm1).2.2.1
  obtain ⟨n1, hn1⟩ : ∃ n, ls.length = n := ⟨_, rfl⟩
  obtain ⟨n2, hn2⟩ : ∃ n, cs.length = n := ⟨_, rfl⟩
  have N1 := Lib.hid hn1
  have N2 := Lib.hid hn2
  rw [hn1, hn2] at cL cM cS cP HB HA HL ⊢
  rw [hn2] at cR
  rw [hn1] at hls6
  clear h hs hE hl1 hn1 hn2 hM hcs hls hf hm1 hmR hR hok
  go_enter Tryd.func7, Tryd.ntmps7
  go_upto_if 35 with (first
    | (go_at_call 9; ((with_reducible refine (cL _ HA.out).mono ?_); rintro e w1 ⟨rfl, hb2⟩; have hb := Lib.hid (HA.out.trans (hb2.mono HA.out.size)); have HB1 := Lib.hid (HB.out.below hb2); obtain ⟨_, x0, x1, x2, x3, _, _, _, _⟩ := HB1.out; clear hb2))
    | (go_at_call 12; ((with_reducible refine (cM _ hb.out).mono ?_); rintro e w2 ⟨rfl, hb2⟩; have hs2 := hb.out.size; replace hb := Lib.hid (hb.out.trans (hb2.mono hs2)); replace HB1 := Lib.hid (HB1.out.below hb2); clear x0 x1 x2 x3; obtain ⟨_, x0, x1, x2, x3, _, _, _, _⟩ := HB1.out; clear hb2))
    | (go_at_call 24; ((with_reducible refine (cI q k _ _ ls _ _ hb.out (HL.out.below hb.out) HF.out HR.out).mono ?_); rintro e w3 ⟨s3, d3, rfl, m3, hb2⟩; dsimp only at m3; obtain ⟨b1, f1, e1⟩ := m3.z.here.len; obtain ⟨b2, f2, e2⟩ := m3.r.here.len; subst e1 e2; have M3 := Lib.hid m3; have hs3 := hb.out.size; replace hb := Lib.hid (hb.out.trans (hb2.mono hs3)); replace HB1 := Lib.hid (HB1.out.below hb2); have A5 := Lib.hid ((Below.refl w3.heap.size w3).alloc (Nat.le_refl _) (.cells #[.int .i64 q5, .slice b1 ls5.length f1, .int .i64 k5, .slice b2 cs5.length f2] 25)); have hsX := hb.out.size; have hb5 := Lib.hid (hb.out.trans (A5.out.mono hsX)); have X5 := Lib.hid (HB1.out.below A5.out); clear x0 x1 x2 x3 hb2 m3)))
  go_cut [] (fun wx => BackI w q k (.slice a1 n1 c1) (.slice a2 n2 c2) wx)
  case first =>
    by_cases he : er = 0
    · have hUU := hU.out he
      subst he
      have hT : mayF q5 ls5 k5 = true ∧ cs5 = cs := by
        rcases HOK.out with ⟨_, h1, h2, _⟩ | e | e
        · exact ⟨h1, h2⟩
        · exact absurd (show (0 : Int) = 7 from e) (by decide)
        · exact absurd (show (0 : Int) = 1 from e) (by decide)
      obtain ⟨hm5, hc5⟩ := hT
      have hc6 := hc5.symm
      subst hc6
      have HM5 := Lib.hid hm5
      have HUU := Lib.hid hUU
      obtain ⟨_, x0, x1, x2, x3, _, _, _, _⟩ := X5.out
      clear hm5 hUU hc5
      go_wp2_with (first
        | (go_at_call 26; ((with_reducible refine (cU q5 k5 _ _ ls5 _ _ hb5.out (M3.out.at.below A5.out) HM5.out HUU.out).mono ?_); rintro e w4 ⟨s4, d4, rfl, m4, hb2⟩; dsimp only at m4; obtain ⟨b3, f3, e3⟩ := m4.z.here.len; obtain ⟨b4, f4, e4⟩ := m4.r.here.len; rw [N1.out] at e3; rw [N2.out] at e4; subst e3 e4; have M4 := Lib.hid m4; have hs5 := hb5.out.size; have hb6 := Lib.hid (hb5.out.trans (hb2.mono hs5)); have X6 := Lib.hid (X5.out.below hb2); have A6 := Lib.hid ((Below.refl w4.heap.size w4).alloc (Nat.le_refl _) (.cells #[.int .i64 q, .slice b3 n1 f3, .int .i64 k, .slice b4 n2 f4] 25)); have hs6 := hb6.out.size; have hb7 := Lib.hid (hb6.out.trans (A6.out.mono hs6)); have X7 := Lib.hid (X6.out.below A6.out); clear x0 x1 x2 x3; obtain ⟨_, x0, x1, x2, x3, _, _, _, _⟩ := X6.out; clear hb2 m4))
        | (go_at_call 14; ((with_reducible refine (cS _ _ _ hb7.out (M4.out.at.below A6.out)).mono ?_); rintro e w5 ⟨rfl, hb2⟩; have hs7 := hb7.out.size; have HI := Lib.hid (show BackI w q k (.slice a1 n1 c1) (.slice a2 n2 c2) w5 from ⟨X7.out.below hb2, hb7.out.trans (hb2.mono hs7)⟩); clear hb2)))
      go_meet
      exact HI.out
    · have heb : (er == 0) = false := by simpa using he
      go_wp2_with fail
      go_meet
      exact ⟨X5.out, hb5.out⟩
  case rest =>
    clear M3 A5 hb5 X5 hb HB1 HA HB cL cM cI cU HOK hU HR hsX hs3 hs2
    obtain ⟨hX, hB⟩ := hcut
    have X := Lib.hid hX
    have hb := Lib.hid hB
    obtain ⟨_, x0, x1, x2, x3, _, _, _, _⟩ := hX
    clear hB
    obtain ⟨⟨es, ⟨q6, ls6, k6, cs6⟩, ⟨q7, ls7, k7, cs7⟩⟩, hSP⟩ : ∃ R, splitS z ⟨q, ls, k, cs⟩ = R := ⟨_, rfl⟩
    rw [hSP] at cP
    have HSP := Lib.hid hSP
    clear hSP
    go_upto_if 57 with (first
      | (go_at_call 20; ((with_reducible refine (cP _ hb.out).mono ?_); rintro e w5 ⟨D, s5, d5, s6, d6, rfl, m5, m6, hb2, hD1, hD2⟩; dsimp only at m5 m6; obtain ⟨b1, f1, e1⟩ := m5.z.here.len; obtain ⟨b2, f2, e2⟩ := m5.r.here.len; obtain ⟨b3, f3, e3⟩ := m6.z.here.len; obtain ⟨b4, f4, e4⟩ := m6.r.here.len; subst e1 e2 e3 e4; have M5 := Lib.hid m5.at; have M6 := Lib.hid m6.at; have hs5 := hb.out.size; have hb5 := Lib.hid (hb.out.trans (hb2.mono hs5)); have X5 := Lib.hid (X.out.below hb2); have A5 := Lib.hid (((Below.refl w5.heap.size w5).alloc (Nat.le_refl _) (.cells #[.int .i64 q6, .slice b1 ls6.length f1, .int .i64 k6, .slice b2 cs6.length f2] 25)).alloc (by simp) (.cells #[.int .i64 q7, .slice b3 ls7.length f3, .int .i64 k7, .slice b4 cs7.length f4] 25)); have hs6 := hb5.out.size; have hb6 := Lib.hid (hb5.out.trans (A5.out.mono hs6)); have X6 := Lib.hid (X5.out.below A5.out); have B10 := Lib.hid (box_two w5 q6 k6 q7 k7 (.slice b1 ls6.length f1) (.slice b2 cs6.length f2) (.slice b3 ls7.length f3) (.slice b4 cs7.length f4)).2.2; clear x0 x1 x2 x3 hb2 m5 m6 hD1 hD2)))
    go_cut [] (fun wx => BackI w q k (.slice a1 n1 c1) (.slice a2 n2 c2) wx)
    case first =>
      by_cases he : es = 0
      · subst he
        have hsp := HSP.out
        unfold splitS at hsp
        split at hsp
        · unfold splitO at hsp
          dsimp only at hsp
          split at hsp
          · simp only [Prod.mk.injEq, Ln.mk.injEq, true_and] at hsp
            obtain ⟨⟨rfl, rfl, rfl, rfl⟩, rfl, rfl, hkk, rfl⟩ := hsp
            have HK : Hid (mayF q ls k7 = true) := Lib.hid (by
              rw [← hkk]
              split
              · exact mayF_zero HF.out
              · exact HF.out)
            obtain ⟨n9, hn9⟩ : ∃ n, z.toNat = n := ⟨_, rfl⟩
            rw [hn9] at M5 M6 X6 B10 A5 hb6 ⊢
            clear hkk HSP hn9
            obtain ⟨l1, hl1⟩ : ∃ n, (cs.take n9).length = n := ⟨_, rfl⟩
            obtain ⟨l2, hl2⟩ : ∃ n, (cs.drop n9).length = n := ⟨_, rfl⟩
            rw [hl1] at M5 X6 B10 A5 hb6 ⊢
            rw [hl2] at M6 X6 B10 A5 hb6 ⊢
            rw [N1.out] at M5 M6 X6 B10 A5 hb6 ⊢
            clear hl1 hl2
            obtain ⟨_, y0, y1, y2, y3, _, _, _, _⟩ := B10.out
            obtain ⟨_, x0, x1, x2, x3, _, _, _, _⟩ := X6.out
            go_wp2_with (first
              | (go_at_call 22; ((with_reducible refine (cJ n9 k7 _ _ _ _ _ hb6.out HK.out (M5.out.below A5.out) (M6.out.below A5.out)).mono ?_); rintro e w6 ⟨s7, d7, rfl, m7, hb2⟩; dsimp only at m7; obtain ⟨b5, f5, e5⟩ := m7.z.here.len; obtain ⟨b6, f6, e6⟩ := m7.r.here.len; rw [N1.out] at e5; rw [N2.out] at e6; subst e5 e6; have M7 := Lib.hid m7; have hs7 := hb6.out.size; have hb7 := Lib.hid (hb6.out.trans (hb2.mono hs7)); have X7 := Lib.hid (X6.out.below hb2); have B11 := Lib.hid (B10.out.below hb2); have A7 := Lib.hid ((Below.refl w6.heap.size w6).alloc (Nat.le_refl _) (.cells #[.int .i64 q, .slice b5 n1 f5, .int .i64 k, .slice b6 n2 f6] 25)); have M8 := Lib.hid (((M6.out.below A5.out).below hb2).below A7.out); have hs8 := hb7.out.size; have hb8 := Lib.hid (hb7.out.trans (A7.out.mono hs8)); have X8 := Lib.hid (X7.out.below A7.out); have B12 := Lib.hid (B11.out.below A7.out); clear x0 x1 x2 x3 y0 y1 y2 y3; obtain ⟨_, x0, x1, x2, x3, _, _, _, _⟩ := X7.out; clear hb2 m7))
              | (go_at_call 14; ((with_reducible refine (cS _ _ _ hb8.out (M7.out.at.below A7.out)).mono ?_); rintro e w7 ⟨rfl, hb2⟩; have hs9 := hb8.out.size; have hb9 := Lib.hid (hb8.out.trans (hb2.mono hs9)); have X9 := Lib.hid (X8.out.below hb2); have B13 := Lib.hid (B12.out.below hb2); have M9 := Lib.hid (M8.out.below hb2); clear x0 x1 x2 x3; obtain ⟨_, y0, y1, y2, y3, _, _, _, _⟩ := B13.out; clear hb2))
              | (go_at_call 12; ((with_reducible refine (cN n9 k7 _ _ _ hb9.out HK.out M9.out).mono ?_); rintro e w8 ⟨rfl, hb2⟩; have hs10 := hb9.out.size; have HI := Lib.hid (show BackI w q k (.slice a1 n1 c1) (.slice a2 n2 c2) w8 from ⟨X9.out.below hb2, hb9.out.trans (hb2.mono hs10)⟩); clear hb2)))
            go_meet
            exact HI.out
          · exfalso; have h10 : (1 : Int) = 0 := congrArg Prod.fst hsp; omega
        · exfalso; have h10 : (1 : Int) = 0 := congrArg Prod.fst hsp; omega
      · have heb : (es == 0) = false := by simpa using he
        go_wp2_with fail
        go_meet
        exact ⟨X6.out, hb6.out⟩
    case rest =>
      clear M5 M6 A5 hb5 X5 hb6 X6 B10 hb X HSP cP cJ cN hs5 hs6
      obtain ⟨hX, hB⟩ := hcut
      have X := Lib.hid hX
      have hb0 := Lib.hid hB
      have hwp := hB.size
      have hnw : w.heap.size ≠ wc.heap.size := Nat.ne_of_lt hX.lt
      obtain ⟨_, x0, x1, x2, x3, _, _, _, _⟩ := hX
      obtain ⟨F, hF⟩ : ∃ F, freeN q ls k = F := ⟨_, rfl⟩
      have A15 := Lib.hid ((Below.refl wc.heap.size wc).alloc (Nat.le_refl _) (.cells #[.int .i64 q, .slice a1 n1 c1, .int .i64 k, .slice a2 n2 c2] 25))
      have HI : Hid (BackR w wc.heap.size q k (.slice a1 n1 c1) (.slice a2 n2 c2) cs F (wc.alloc (.cells #[.int .i64 q, .slice a1 n1 c1, .int .i64 k, .slice a2 n2 c2] 25))) := Lib.hid ⟨q, k, _, _, ls, X.out.below A15.out, box_new wc q k _ _, (HL.out.below hB).below A15.out, off_low HL.out hwp, HF.out, hF, hB.trans (A15.out.mono hwp)⟩
      unfold freeN at hF
      rw [N1.out] at hF
      obtain ⟨hq1, hq2⟩ := hq
      obtain ⟨hk1, hk2⟩ := hk
      clear hB A15 X hb0
      by_cases hk0 : 0 < k
      · rw [if_pos hk0] at hF
        have hnI : (n1 : Int) + q + 1 = (F : Int) := by omega
        have hw1 : (0 : Int) ≤ (n1 : Int) := by omega
        have HNI2 := Lib.hid hnI
        clear hnI hF
        go_wp2_with fail
        go_loopw [16] (fun i wr => ∃ j : Nat, j ≤ F ∧ i = .int .i64 j ∧ Hid (BackR w wc.heap.size q k (.slice a1 n1 c1) (.slice a2 n2 c2) cs (F - j) wr)) (fun i _ => F - (RowKit.intOf i).toNat)
        case atStart => exact ⟨0, Nat.zero_le _, rfl, HI⟩
        case round =>
          obtain ⟨j, hj, rfl, HR⟩ := hrel
          obtain ⟨q', k', s, c, ls', hX, hY, hLn, hOf, hMf, hFr, hBe⟩ := HR.out
          by_cases hlt : j < F
          · obtain ⟨q9, ls9, k9, hf9, hm9, hn9⟩ := free_step (cs := cs) hMf (by omega)
            have hkI : (j : Int) < (n1 : Int) + q + 1 := by rw [HNI2.out]; omega
            have HX := Lib.hid hX
            have HY := Lib.hid hY
            have HLn := Lib.hid hLn
            have HMf := Lib.hid hMf
            have Hf9 := Lib.hid hf9
            have Hm9 := Lib.hid hm9
            have Hn9 := Lib.hid (show freeN q9 ls9 k9 = F - (j + 1) by omega)
            have hb0 := Lib.hid hBe
            obtain ⟨b1, f1, e1⟩ := hLn.z.len
            obtain ⟨b2, f2, e2⟩ := hLn.r.len
            subst e1 e2
            obtain ⟨_, y0, y1, y2, y3, _, _, _, _⟩ := hY
            clear hX hLn hOf hMf hBe HR hf9 hm9 hn9 hFr
            go_wp2_with (go_at_call 32; ((with_reducible refine (cF q' k' _ _ ls' _ _ hb0.out HLn.out HMf.out Hf9.out).mono ?_); rintro e w5 ⟨s5, d5, rfl, m5, hb2⟩; dsimp only at m5; obtain ⟨b5, f5, e5⟩ := m5.z.here.len; obtain ⟨b6, f6, e6⟩ := m5.r.here.len; subst e5 e6; have HS := Lib.hid (fun o => backR_step (o := o) HX.out HY.out hb0.out hb2 m5 (Nat.le_refl _) hnw hwp Hm9.out Hn9.out); have Y5 := Lib.hid (HY.out.below hb2); have hy5 := Y5.out.lt; clear y0 y1 y2 y3 hb2 m5; obtain ⟨_, y0, y1, y2, y3, y4, y5, y6, y7⟩ := Y5.out))
            go_roundw
            case rel => exact ⟨j + 1, hlt, by go_num, Lib.hid (HS.out _)⟩
            case measure => simp [RowKit.intOf]; omega
          · have hjn : F = j := by omega
            subst hjn
            obtain ⟨hf9, rfl, rfl, rfl⟩ := free_none (cs := cs) hMf (by omega)
            have hkI : ¬ (F : Int) < (n1 : Int) + q + 1 := by rw [HNI2.out]; omega
            have HX := Lib.hid hX
            have HY := Lib.hid hY
            have HLn := Lib.hid hLn
            have HMf := Lib.hid hMf
            have Hf9 := Lib.hid hf9
            have hb0 := Lib.hid hBe
            obtain ⟨b1, f1, e1⟩ : ∃ a c', s = .slice a 0 c' := hLn.z.len
            obtain ⟨b2, f2, e2⟩ := hLn.r.len
            rw [N2.out] at e2
            subst e1 e2
            obtain ⟨_, y0, y1, y2, y3, _, _, _, _⟩ := hY
            clear hX hLn hOf hMf hBe HR hf9 hFr
            go_wp2_with (first
              | (go_at_call 32; ((with_reducible refine (cF 0 0 _ _ [] _ _ hb0.out HLn.out HMf.out Hf9.out).mono ?_); rintro e w5 ⟨s5, d5, rfl, m5, hb2⟩; dsimp only [ln0] at m5 ⊢; obtain ⟨b5, f5, e5⟩ : ∃ a c', s5 = .slice a 0 c' := m5.z.here.len; obtain ⟨b6, f6, e6⟩ : ∃ a c', d5 = .slice a 0 c' := m5.r.here.len; subst e5 e6; have hs5 := hb0.out.size; have hb5 := Lib.hid (hb0.out.trans (hb2.mono hs5)); have Y5 := Lib.hid (HY.out.below hb2); have X5 := Lib.hid (HX.out.below hb2); have hy5 := Y5.out.lt; have L5 := Lib.hid (HLn.out.r.below hb2); have A5 := Lib.hid ((Below.refl w5.heap.size w5).alloc (Nat.le_refl _) (.cells #[.int .i64 0, .slice b5 0 f5, .int .i64 0, .slice b6 0 f6] 25)); clear y0 y1 y2 y3 hb2 m5; obtain ⟨_, y0, y1, y2, y3, y4, y5, y6, y7⟩ := Y5.out; obtain ⟨_, x0, x1, x2, x3, _, _, _, _⟩ := X5.out))
              | (go_at_call 35; ((with_reducible refine (cR _ _ (hb5.out.alloc hb5.out.size _) (L5.out.below A5.out)).mono ?_); rintro e w6 ⟨rfl, hb2⟩; have hb := Lib.hid ((hb5.out.alloc hb5.out.size _).trans (hb2.mono (hb5.out.alloc hb5.out.size (.cells #[.int .i64 0, .slice b5 0 f5, .int .i64 0, .slice b6 0 f6] 25)).size)); clear hb2))
              | (go_at_call 10; ((with_reducible refine (haw _ hb.out).mono ?_); rintro e w9 ⟨rfl, hb2⟩; have hs9 := hb.out.size; replace hb := Lib.hid (hb.out.trans (hb2.mono hs9)); clear hb2)))
            go_ret
            exact ⟨rfl, hb.out⟩
      · rw [if_neg hk0] at hF
        have hnI : (n1 : Int) + q = (F : Int) := by omega
        have hw1 : (0 : Int) ≤ (n1 : Int) := by omega
        have HNI2 := Lib.hid hnI
        clear hnI hF
        go_wp2_with fail
        go_loopw [16] (fun i wr => ∃ j : Nat, j ≤ F ∧ i = .int .i64 j ∧ Hid (BackR w wc.heap.size q k (.slice a1 n1 c1) (.slice a2 n2 c2) cs (F - j) wr)) (fun i _ => F - (RowKit.intOf i).toNat)
        case atStart => exact ⟨0, Nat.zero_le _, rfl, HI⟩
        case round =>
          obtain ⟨j, hj, rfl, HR⟩ := hrel
          obtain ⟨q', k', s, c, ls', hX, hY, hLn, hOf, hMf, hFr, hBe⟩ := HR.out
          by_cases hlt : j < F
          · obtain ⟨q9, ls9, k9, hf9, hm9, hn9⟩ := free_step (cs := cs) hMf (by omega)
            have hkI : (j : Int) < (n1 : Int) + q := by rw [HNI2.out]; omega
            have HX := Lib.hid hX
            have HY := Lib.hid hY
            have HLn := Lib.hid hLn
            have HMf := Lib.hid hMf
            have Hf9 := Lib.hid hf9
            have Hm9 := Lib.hid hm9
            have Hn9 := Lib.hid (show freeN q9 ls9 k9 = F - (j + 1) by omega)
            have hb0 := Lib.hid hBe
            obtain ⟨b1, f1, e1⟩ := hLn.z.len
            obtain ⟨b2, f2, e2⟩ := hLn.r.len
            subst e1 e2
            obtain ⟨_, y0, y1, y2, y3, _, _, _, _⟩ := hY
            clear hX hLn hOf hMf hBe HR hf9 hm9 hn9 hFr
            go_wp2_with (go_at_call 32; ((with_reducible refine (cF q' k' _ _ ls' _ _ hb0.out HLn.out HMf.out Hf9.out).mono ?_); rintro e w5 ⟨s5, d5, rfl, m5, hb2⟩; dsimp only at m5; obtain ⟨b5, f5, e5⟩ := m5.z.here.len; obtain ⟨b6, f6, e6⟩ := m5.r.here.len; subst e5 e6; have HS := Lib.hid (fun o => backR_step (o := o) HX.out HY.out hb0.out hb2 m5 (Nat.le_refl _) hnw hwp Hm9.out Hn9.out); have Y5 := Lib.hid (HY.out.below hb2); have hy5 := Y5.out.lt; clear y0 y1 y2 y3 hb2 m5; obtain ⟨_, y0, y1, y2, y3, y4, y5, y6, y7⟩ := Y5.out))
            go_roundw
            case rel => exact ⟨j + 1, hlt, by go_num, Lib.hid (HS.out _)⟩
            case measure => simp [RowKit.intOf]; omega
          · have hjn : F = j := by omega
            subst hjn
            obtain ⟨hf9, rfl, rfl, rfl⟩ := free_none (cs := cs) hMf (by omega)
            have hkI : ¬ (F : Int) < (n1 : Int) + q := by rw [HNI2.out]; omega
            have HX := Lib.hid hX
            have HY := Lib.hid hY
            have HLn := Lib.hid hLn
            have HMf := Lib.hid hMf
            have Hf9 := Lib.hid hf9
            have hb0 := Lib.hid hBe
            obtain ⟨b1, f1, e1⟩ : ∃ a c', s = .slice a 0 c' := hLn.z.len
            obtain ⟨b2, f2, e2⟩ := hLn.r.len
            rw [N2.out] at e2
            subst e1 e2
            obtain ⟨_, y0, y1, y2, y3, _, _, _, _⟩ := hY
            clear hX hLn hOf hMf hBe HR hf9 hFr
            go_wp2_with (first
              | (go_at_call 32; ((with_reducible refine (cF 0 0 _ _ [] _ _ hb0.out HLn.out HMf.out Hf9.out).mono ?_); rintro e w5 ⟨s5, d5, rfl, m5, hb2⟩; dsimp only [ln0] at m5 ⊢; obtain ⟨b5, f5, e5⟩ : ∃ a c', s5 = .slice a 0 c' := m5.z.here.len; obtain ⟨b6, f6, e6⟩ : ∃ a c', d5 = .slice a 0 c' := m5.r.here.len; subst e5 e6; have hs5 := hb0.out.size; have hb5 := Lib.hid (hb0.out.trans (hb2.mono hs5)); have Y5 := Lib.hid (HY.out.below hb2); have X5 := Lib.hid (HX.out.below hb2); have hy5 := Y5.out.lt; have L5 := Lib.hid (HLn.out.r.below hb2); have A5 := Lib.hid ((Below.refl w5.heap.size w5).alloc (Nat.le_refl _) (.cells #[.int .i64 0, .slice b5 0 f5, .int .i64 0, .slice b6 0 f6] 25)); clear y0 y1 y2 y3 hb2 m5; obtain ⟨_, y0, y1, y2, y3, y4, y5, y6, y7⟩ := Y5.out; obtain ⟨_, x0, x1, x2, x3, _, _, _, _⟩ := X5.out))
              | (go_at_call 35; ((with_reducible refine (cR _ _ (hb5.out.alloc hb5.out.size _) (L5.out.below A5.out)).mono ?_); rintro e w6 ⟨rfl, hb2⟩; have hb := Lib.hid ((hb5.out.alloc hb5.out.size _).trans (hb2.mono (hb5.out.alloc hb5.out.size (.cells #[.int .i64 0, .slice b5 0 f5, .int .i64 0, .slice b6 0 f6] 25)).size)); clear hb2))
              | (go_at_call 10; ((with_reducible refine (haw _ hb.out).mono ?_); rintro e w9 ⟨rfl, hb2⟩; have hs9 := hb.out.size; replace hb := Lib.hid (hb.out.trans (hb2.mono hs9)); clear hb2)))
            go_ret
            exact ⟨rfl, hb.out⟩

end Go.Proofs.YtmlipcedkgfmiaaDoor
