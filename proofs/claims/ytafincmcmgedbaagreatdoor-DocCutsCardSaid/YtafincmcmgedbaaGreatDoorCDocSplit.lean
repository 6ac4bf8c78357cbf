/-
  The document's Split.
-/
import Derived.Test.YtafincmcmgedbaaGreatDoorCDocJoin
import Derived.Test.YtafincmcmgedbaaGreatDoorCSplitTop
import Derived.Test.YtafincmcmgedbaaGreatDoorCDocOps
import Derived.Deep.DeepCutAuto

namespace Go.Proofs.YtafincmcmgedbaaGreatDoor
open Go.RowKit Go.Lib

/-- What the document answers: a code, and two lines that read. -/
def SplitDoc (r : Int × Ln × Ln) (w : World) (e : Ending) (w' : World) : Prop :=
  ∃ sl sc sl2 sc2, e = .returned (.tuple #[.agg #[.int .i64 r.2.1.q, sl, .int .i64 r.2.1.k, sc], .agg #[.int .i64 r.2.2.q, sl2, .int .i64 r.2.2.k, sc2], .int .i64 r.1]) ∧ OwnLn w.heap.size w' sl sc r.2.1.ls r.2.1.cs ∧ OwnLn w.heap.size w' sl2 sc2 r.2.2.ls r.2.2.cs ∧ Below w.heap.size w w'
theorem own_fin {G : World} {B e size n r1 r2 : Nat} {v s c s' c' : Value} {xs : List Value} {q k q' k' : Int} (h : G.ownsRow B e size v n xs) (h1 : r1 < B) (h2 : r2 < B) : (put4 (put4 G r1 q s k c) r2 q' s' k' c').ownsRow B e size v n xs :=
  own_setCell (own_setCell (own_setCell (own_setCell (own_setCell (own_setCell (own_setCell (own_setCell h h1) h1) h1) h1) h2) h2) h2) h2

set_option maxRecDepth 20000 in
set_option maxHeartbeats 16000000 in
theorem Split_doc (q k z : Int) (sl sc : Value) (ls : IRow) (cs : Row) (w : World) (h : LnAt w sl sc ls cs) (hls : ls.length ≤ 50000) (hcs : cs.length ≤ 50000) (hf : Fair cs) :
    Calls Tryz.prog 82 #[.agg #[.int .i64 q, sl, .int .i64 k, sc], .int .i64 z] w (SplitDoc (splitS z ⟨q, ls, k, cs⟩) w) := by
  obtain ⟨a1, c1, rfl⟩ := h.z.len
  obtain ⟨a2, c2, e2, hc2, hm2⟩ := h.r.cap
  subst e2
  unfold maxLen at hm2
  have cM : ∀ w1, Below w.heap.size w w1 → Calls Tryz.prog 63 #[.agg #[.int .i64 q, .slice a1 ls.length c1, .int .i64 k, .slice a2 cs.length c2]] w1 fun e w' => e = .returned (.bool (mayS ⟨q, ls, k, cs⟩)) ∧ Below w1.heap.size w1 w' := fun w1 h1 => rlmay_any q k _ _ ls cs w1 (h.below h1) hcs hf
  have cF : ∀ w1, Below w.heap.size w w1 → Calls Tryz.prog 57 #[.agg #[.int .i64 q, .slice a1 ls.length c1, .int .i64 k, .slice a2 cs.length c2]] w1 fun e w' => ∃ sl' sc', e = .returned (.agg #[.int .i64 q, sl', .int .i64 k, sc']) ∧ OwnLn w1.heap.size w' sl' sc' ls [] ∧ Below w1.heap.size w1 w' := fun w1 h1 => rlframe_any q k _ _ ls cs w1 (h.below h1) hls
  have HX := Lib.hid (box_threeL w q k 0 0 0 0 (.slice a1 ls.length c1) (.slice a2 cs.length c2) (.slice none 0 0) (.slice none 0 0) (.slice none 0 0) (.slice none 0 0))
  have HR := Lib.hid h.r
  unfold splitS
  obtain ⟨n1, hn1⟩ : ∃ n, ls.length = n := ⟨_, rfl⟩
  obtain ⟨n2, hn2⟩ : ∃ n, cs.length = n := ⟨_, rfl⟩
  have N1 := Lib.hid hn1
  have N2 := Lib.hid hn2
  rw [hn1] at cM cF HX ⊢
  rw [hn2] at cM cF HX HR hc2 hcs ⊢
  have hu : w.heap.size ≤ w.heap.size + 1 := by omega
  have hu2 : w.heap.size ≤ w.heap.size + 1 + 1 := by omega
  obtain ⟨M, hM⟩ : ∃ M, mayS ⟨q, ls, k, cs⟩ = M := ⟨_, rfl⟩
  rw [hM] at cM ⊢
  clear h hls hf hn1 hM
  cases M with
  | false =>
    rw [if_neg (by decide)]
    clear hn2
    go_enter Tryz.func82, Tryz.ntmps82
    go_wp2_with (go_at_call 63; ((with_reducible refine (cM _ HX.out.1).mono ?_); rintro e w1 ⟨rfl, hb⟩; obtain ⟨b2, B0, B2, B1⟩ := HX.out; have bW := Lib.hid (b2.trans (hb.mono b2.size)); have HB0 := Lib.hid (B0.below hb); have HB1 := Lib.hid (B1.below hb); have HB2 := Lib.hid (B2.below hb); have hs1 := HB2.out.lt; obtain ⟨l0, x0, x1, x2, x3, _, _, _, _⟩ := HB0.out; obtain ⟨l1, y0, y1, y2, y3, s0, s1, s2, s3⟩ := HB1.out; obtain ⟨l2, u0, u1, u2, u3, v0, v1, v2, v3⟩ := HB2.out; clear b2 B0 B1 B2 hb))
    exact bodyPost_ret (v := .tuple #[.agg #[.int .i64 0, .slice none 0 0, .int .i64 0, .slice none 0 0], .agg #[.int .i64 0, .slice none 0 0, .int .i64 0, .slice none 0 0], .int .i64 1]) (by simp [results, Tryz.results82, go_sem, *]) rfl ⟨_, _, _, _, rfl, own_nil _ _, own_nil _ _, put4_below (put4_below bW.out hu) hu2⟩
  | true =>
    rw [if_pos rfl]
    unfold splitO
    dsimp only
    by_cases z0 : z < 0
    · rw [if_neg (by unfold fitB; simp; omega)]
      clear hn2
      go_enter Tryz.func82, Tryz.ntmps82
      go_wp2_with (go_at_call 63; ((with_reducible refine (cM _ HX.out.1).mono ?_); rintro e w1 ⟨rfl, hb⟩; obtain ⟨b2, B0, B2, B1⟩ := HX.out; have bW := Lib.hid (b2.trans (hb.mono b2.size)); have HB0 := Lib.hid (B0.below hb); have HB1 := Lib.hid (B1.below hb); have HB2 := Lib.hid (B2.below hb); have hs1 := HB2.out.lt; obtain ⟨l0, x0, x1, x2, x3, _, _, _, _⟩ := HB0.out; obtain ⟨l1, y0, y1, y2, y3, s0, s1, s2, s3⟩ := HB1.out; obtain ⟨l2, u0, u1, u2, u3, v0, v1, v2, v3⟩ := HB2.out; clear b2 B0 B1 B2 hb))
      exact bodyPost_ret (v := .tuple #[.agg #[.int .i64 0, .slice none 0 0, .int .i64 0, .slice none 0 0], .agg #[.int .i64 0, .slice none 0 0, .int .i64 0, .slice none 0 0], .int .i64 1]) (by simp [results, Tryz.results82, go_sem, *]) rfl ⟨_, _, _, _, rfl, own_nil _ _, own_nil _ _, put4_below (put4_below bW.out hu) hu2⟩
    by_cases zn : (n2 : Int) < z
    · rw [if_neg (by unfold fitB; rw [hn2]; simp; omega)]
      clear hn2
      go_enter Tryz.func82, Tryz.ntmps82
      go_wp2_with (go_at_call 63; ((with_reducible refine (cM _ HX.out.1).mono ?_); rintro e w1 ⟨rfl, hb⟩; obtain ⟨b2, B0, B2, B1⟩ := HX.out; have bW := Lib.hid (b2.trans (hb.mono b2.size)); have HB0 := Lib.hid (B0.below hb); have HB1 := Lib.hid (B1.below hb); have HB2 := Lib.hid (B2.below hb); have hs1 := HB2.out.lt; obtain ⟨l0, x0, x1, x2, x3, _, _, _, _⟩ := HB0.out; obtain ⟨l1, y0, y1, y2, y3, s0, s1, s2, s3⟩ := HB1.out; obtain ⟨l2, u0, u1, u2, u3, v0, v1, v2, v3⟩ := HB2.out; clear b2 B0 B1 B2 hb))
      exact bodyPost_ret (v := .tuple #[.agg #[.int .i64 0, .slice none 0 0, .int .i64 0, .slice none 0 0], .agg #[.int .i64 0, .slice none 0 0, .int .i64 0, .slice none 0 0], .int .i64 1]) (by simp [results, Tryz.results82, go_sem, *]) rfl ⟨_, _, _, _, rfl, own_nil _ _, own_nil _ _, put4_below (put4_below bW.out hu) hu2⟩
    obtain ⟨n, rfl⟩ := Int.eq_ofNat_of_zero_le (show 0 ≤ z by omega)
    rw [if_pos (by unfold fitB; rw [hn2]; simp; omega), Int.toNat_natCast, hn2]
    have hnn : n ≤ n2 := by omega
    obtain ⟨V1, R1, S1⟩ := slice_h HR.out n (by rw [hn2]; exact hnn)
    obtain ⟨V2, R2, S2⟩ := slice_l HR.out n (by rw [hn2]; exact hnn)
    obtain ⟨P1, hP1⟩ : ∃ P, cs.take n = P := ⟨_, rfl⟩
    obtain ⟨P2, hP2⟩ : ∃ P, cs.drop n = P := ⟨_, rfl⟩
    rw [hP1] at R1 ⊢
    rw [hP2] at R2 ⊢
    have L1 : P1.length ≤ 100000 := by rw [← hP1, List.length_take]; omega
    have L2 : P2.length ≤ 100000 := by rw [← hP2, List.length_drop]; omega
    have cA : ∀ wx, Below w.heap.size w wx → Calls Tryz.prog 35 #[V1] wx (OwnPost P1 wx) := fun wx hx => rown_any V1 P1 wx (R1.below hx) L1
    have cB : ∀ wx, Below w.heap.size w wx → Calls Tryz.prog 35 #[V2] wx (OwnPost P2 wx) := fun wx hx => rown_any V2 P2 wx (R2.below hx) L2
    have HS1 := Lib.hid S1
    have HS2 := Lib.hid S2
    obtain ⟨kk, hkk⟩ : ∃ kk, (if n = n2 then 0 else k) = kk := ⟨_, rfl⟩
    rw [hkk]
    have HK := Lib.hid hkk
    have hnf : ¬ n2 < n := by omega
    clear hn2 R1 R2 L1 L2 hP1 hP2 HR S1 S2 hkk
    go_enter Tryz.func82, Tryz.ntmps82
    go_upto_region 3 with (go_at_call 63; ((with_reducible refine (cM _ HX.out.1).mono ?_); rintro e w1 ⟨rfl, hb⟩; obtain ⟨b2, B0, B2, B1⟩ := HX.out; have bW := Lib.hid (b2.trans (hb.mono b2.size)); have HB0 := Lib.hid (B0.below hb); have HB1 := Lib.hid (B1.below hb); have HB2 := Lib.hid (B2.below hb); have hs1 := HB2.out.lt; obtain ⟨l0, x0, x1, x2, x3, _, _, _, _⟩ := HB0.out; obtain ⟨l1, y0, y1, y2, y3, s0, s1, s2, s3⟩ := HB1.out; obtain ⟨l2, u0, u1, u2, u3, v0, v1, v2, v3⟩ := HB2.out; clear b2 B0 B1 B2 hb))
    have hM0 := HB1.out.lt
    go_cut [7, 8] (fun s7 s8 wx => TwoB w1.heap.size w1 s7 s8 q k q k ls ls [] [] wx)
    case first =>
      clear cM HX cA cB HK HS1 HS2
      have hS : w1.cell? ⟨w.heap.size, 0, none⟩ = some (.int .i64 q) ∧ w1.cell? ⟨w.heap.size, 1, none⟩ = some (.slice a1 n1 c1) ∧ w1.cell? ⟨w.heap.size, 2, none⟩ = some (.int .i64 k) ∧ w1.cell? ⟨w.heap.size, 3, none⟩ = some (.slice a2 n2 c2) := ⟨x0, x1, x2, x3⟩
      have KS : Hid (∀ w', Below w1.heap.size w1 w' → w'.cell? ⟨w.heap.size, 0, none⟩ = some (.int .i64 q) ∧ w'.cell? ⟨w.heap.size, 1, none⟩ = some (.slice a1 n1 c1) ∧ w'.cell? ⟨w.heap.size, 2, none⟩ = some (.int .i64 k) ∧ w'.cell? ⟨w.heap.size, 3, none⟩ = some (.slice a2 n2 c2)) := Lib.hid (fun w' h => ⟨(HB0.out.below h).c0, (HB0.out.below h).c1, (HB0.out.below h).c2, (HB0.out.below h).c3⟩)
      have bV : Hid (∀ w', Below w1.heap.size w1 w' → Below w.heap.size w w') := Lib.hid (fun w' h => bW.out.trans (h.mono (by omega)))
      have hb : Hid (Below w1.heap.size w1 w1) := Lib.hid (Below.refl _ _)
      have T1 : Hid True := Lib.hid trivial
      clear x0 x1 x2 x3 y0 y1 y2 y3 s0 s1 s2 s3 u0 u1 u2 u3 v0 v1 v2 v3
      go_region_held3 (fun w' => w'.cell? ⟨w.heap.size, 0, none⟩ = some (.int .i64 q) ∧ w'.cell? ⟨w.heap.size, 1, none⟩ = some (.slice a1 n1 c1) ∧ w'.cell? ⟨w.heap.size, 2, none⟩ = some (.int .i64 k) ∧ w'.cell? ⟨w.heap.size, 3, none⟩ = some (.slice a2 n2 c2)) (first | (with_reducible exact hS) | exact KS.out _ (by (repeat (first | (with_reducible exact hb.out) | (with_reducible exact Below.refl _ _) | (with_reducible refine Below.drew ?_) | (with_reducible refine Below.alloc ?_ ?_ _) | (with_reducible refine Below.setCell ?_ ?_ _) | omega | (simp <;> omega))))) (first
        | (go_at_call 57; ((have t1 := T1); clear t1 T1; (with_reducible refine (cF _ (bV.out _ ?hb)).mono ?_); (case hb => (repeat (first | (with_reducible exact hb.out) | (with_reducible exact Below.refl _ _) | (with_reducible refine Below.drew ?_) | (with_reducible refine Below.alloc ?_ ?_ _) | (with_reducible refine Below.setCell ?_ ?_ _) | omega | (simp <;> omega)))); rintro e w3 ⟨sl', sc', rfl, ho, hb2⟩; have hd := Lib.hid ((show Below w1.heap.size w1 _ by (repeat (first | (with_reducible exact hb.out) | (with_reducible exact Below.refl _ _) | (with_reducible refine Below.drew ?_) | (with_reducible refine Below.alloc ?_ ?_ _) | (with_reducible refine Below.setCell ?_ ?_ _) | omega | (simp <;> omega)))).trans (hb2.mono (by first | omega | (simp; done) | (simp; omega)))); obtain ⟨hc3, hf3⟩ := bcell (B := w1.heap.size) hb2; have hz3 := hb2.size; (try simp at hz3); (try have hy3 : w1.heap.size < w3.heap.size := by omega); (try have hp3 : w1.heap.size + 1 < w3.heap.size := by omega); (try have hq3 : w3.heap.size ≠ w1.heap.size := by omega); (try have hr3 : w1.heap.size ≠ w3.heap.size := by omega); have hs3 : w1.heap.size ≤ w3.heap.size := hd.out.size; have hs5 : w1.heap.size ≤ w3.heap.size + 1 := Nat.le_succ_of_le hs3; have HO := Lib.hid ho; obtain ⟨a3, c3, e3⟩ := own_len ho.1; obtain ⟨a4, c4, e4⟩ : ∃ a c, sc' = .slice a 0 c := own_len ho.2; rw [N1.out] at e3; subst e3 e4; clear hb; have hb := hd; replace hS := KS.out _ hb.out; clear hd hb2 ho))
        | (go_at_call 57; ((with_reducible refine (cF _ (bV.out _ ?hb)).mono ?_); (case hb => (repeat (first | (with_reducible exact hb.out) | (with_reducible exact Below.refl _ _) | (with_reducible refine Below.drew ?_) | (with_reducible refine Below.alloc ?_ ?_ _) | (with_reducible refine Below.setCell ?_ ?_ _) | omega | (simp <;> omega)))); rintro e w4 ⟨sl', sc', rfl, ho, hb2⟩; have hd := Lib.hid ((show Below w1.heap.size w1 _ by (repeat (first | (with_reducible exact hb.out) | (with_reducible exact Below.refl _ _) | (with_reducible refine Below.drew ?_) | (with_reducible refine Below.alloc ?_ ?_ _) | (with_reducible refine Below.setCell ?_ ?_ _) | omega | (simp <;> omega)))).trans (hb2.mono (by first | omega | (simp; done) | (simp; omega)))); have h34 := Lib.hid ((show Below w3.heap.size w3 _ by (repeat (first | (with_reducible exact Below.refl _ _) | (with_reducible refine Below.drew ?_) | (with_reducible refine Below.alloc ?_ ?_ _) | omega | (simp; done) | (simp; omega)))).trans (hb2.mono (by first | omega | (simp; done) | (simp; omega)))); obtain ⟨hc4, hf4⟩ := bcell (B := w1.heap.size) hb2; have hz4 := hb2.size; (try simp at hz4); (try have hy4 : w1.heap.size < w4.heap.size := by omega); (try have hp4 : w1.heap.size + 1 < w4.heap.size := by omega); (try have hx4 : w3.heap.size < w4.heap.size := by omega); (try have hu4 : w3.heap.size + 1 < w4.heap.size := by omega); (try have hq4 : w4.heap.size ≠ w1.heap.size := by omega); (try have hr4 : w1.heap.size ≠ w4.heap.size := by omega); (try have hq5 : w4.heap.size ≠ w3.heap.size := by omega); (try have hr5 : w3.heap.size ≠ w4.heap.size := by omega); have hs4 : w1.heap.size ≤ w4.heap.size := hd.out.size; have HP := Lib.hid ho; have HO4 := Lib.hid (HO.out.below h34.out); obtain ⟨a5, c5, e5⟩ := own_len ho.1; obtain ⟨a6, c6, e6⟩ : ∃ a c, sc' = .slice a 0 c := own_len ho.2; rw [N1.out] at e5; subst e5 e6; clear hb; have hb := hd; replace hS := KS.out _ hb.out; clear hd hb2 ho)))
      all_goals go_wp2_with fail
      all_goals go_meet
      all_goals first
        | (with_reducible refine two_put (q5 := 0) (s5 := .slice none 0 0) (k5 := 0) (c5 := .slice none 0 0) (q6 := 0) (s6 := .slice none 0 0) (k6 := 0) (c6 := .slice none 0 0) hb.out ?_ ?_ ?_ ?_ ?_ (HO4.out.mono ?_) (HP.out.mono ?_) ?_ ?_ ?_ ?_ <;> (first | ((with_reducible refine notB_lo HO4.out ?_); (first | omega | (simp; done) | (simp; omega))) | ((with_reducible refine notB_lo HP.out ?_); (first | omega | (simp; done) | (simp; omega))) | ((with_reducible refine notB_hi HO.out ?_); (first | omega | (simp; done) | (simp; omega))) | ((with_reducible refine notB_hi HP.out ?_); (first | omega | (simp; done) | (simp; omega))) | (first | omega | (simp; done) | (simp; omega)) | (constructor <;> (first | (first | omega | (simp; done) | (simp; omega)) | (simp [go_sem, *]; done)))))
        | (with_reducible refine two_mix7 (q5 := 0) (s5 := .slice none 0 0) (k5 := 0) (c5 := .slice none 0 0) hb.out ?_ ?_ ?_ (HO4.out.mono ?_) (HP.out.mono ?_) ?_ ?_ <;> (first | ((with_reducible refine notB_lo HO4.out ?_); (first | omega | (simp; done) | (simp; omega))) | ((with_reducible refine notB_lo HP.out ?_); (first | omega | (simp; done) | (simp; omega))) | ((with_reducible refine notB_hi HO.out ?_); (first | omega | (simp; done) | (simp; omega))) | ((with_reducible refine notB_hi HP.out ?_); (first | omega | (simp; done) | (simp; omega))) | (first | omega | (simp; done) | (simp; omega)) | (constructor <;> (first | (first | omega | (simp; done) | (simp; omega)) | (simp [go_sem, *]; done)))))
        | (with_reducible refine two_mix8 (q5 := 0) (s5 := .slice none 0 0) (k5 := 0) (c5 := .slice none 0 0) hb.out ?_ ?_ ?_ (HO4.out.mono ?_) (HP.out.mono ?_) ?_ ?_ <;> (first | ((with_reducible refine notB_lo HO4.out ?_); (first | omega | (simp; done) | (simp; omega))) | ((with_reducible refine notB_lo HP.out ?_); (first | omega | (simp; done) | (simp; omega))) | ((with_reducible refine notB_hi HO.out ?_); (first | omega | (simp; done) | (simp; omega))) | ((with_reducible refine notB_hi HP.out ?_); (first | omega | (simp; done) | (simp; omega))) | (first | omega | (simp; done) | (simp; omega)) | (constructor <;> (first | (first | omega | (simp; done) | (simp; omega)) | (simp [go_sem, *]; done)))))
        | (with_reducible refine two_new78 hb.out ?_ (HO4.out.mono ?_) (HP.out.mono ?_) <;> (first | ((with_reducible refine notB_lo HO4.out ?_); (first | omega | (simp; done) | (simp; omega))) | ((with_reducible refine notB_lo HP.out ?_); (first | omega | (simp; done) | (simp; omega))) | ((with_reducible refine notB_hi HO.out ?_); (first | omega | (simp; done) | (simp; omega))) | ((with_reducible refine notB_hi HP.out ?_); (first | omega | (simp; done) | (simp; omega))) | (first | omega | (simp; done) | (simp; omega)) | (constructor <;> (first | (first | omega | (simp; done) | (simp; omega)) | (simp [go_sem, *]; done)))))
        | (with_reducible refine two_new87 hb.out ?_ (HO4.out.mono ?_) (HP.out.mono ?_) <;> (first | ((with_reducible refine notB_lo HO4.out ?_); (first | omega | (simp; done) | (simp; omega))) | ((with_reducible refine notB_lo HP.out ?_); (first | omega | (simp; done) | (simp; omega))) | ((with_reducible refine notB_hi HO.out ?_); (first | omega | (simp; done) | (simp; omega))) | ((with_reducible refine notB_hi HP.out ?_); (first | omega | (simp; done) | (simp; omega))) | (first | omega | (simp; done) | (simp; omega)) | (constructor <;> (first | (first | omega | (simp; done) | (simp; omega)) | (simp [go_sem, *]; done)))))
    case rest =>
      clear HX cM cF
      obtain ⟨p7, p8, t1, d1, t2, d2, rfl, rfl, hB7, hB8, hO1, hO2, hne, h7B, h8B, n17, n18, n27, n28, hBe⟩ := hcut
      obtain ⟨a3, c3, e3⟩ := own_len hO1.1
      obtain ⟨a4, c4, e4⟩ : ∃ a c, d1 = .slice a 0 c := own_len hO1.2
      obtain ⟨a5, c5, e5⟩ := own_len hO2.1
      obtain ⟨a6, c6, e6⟩ : ∃ a c, d2 = .slice a 0 c := own_len hO2.2
      rw [N1.out] at e3 e5
      subst e3 e4 e5 e6
      have Z1 := Lib.hid hO1.1
      have Z2 := Lib.hid hO2.1
      have HB7 := Lib.hid hB7
      have HB8 := Lib.hid hB8
      have HBe := Lib.hid hBe
      have Nn17 := Lib.hid n17
      have Nn18 := Lib.hid n18
      have Nn27 := Lib.hid n27
      have Nn28 := Lib.hid n28
      have g7 := hB7.lt
      have g8 := hB8.lt
      have hsc := hBe.size
      have hsw := bW.out.size
      have hn2 : p8 ≠ p7 := Ne.symm hne
      have m1 : w.heap.size + 1 ≠ p7 := by omega
      have m2 : w.heap.size + 1 ≠ p8 := by omega
      have m3 : w.heap.size + 1 + 1 ≠ p7 := by omega
      have m4 : w.heap.size + 1 + 1 ≠ p8 := by omega
      have m5 : w.heap.size ≠ p7 := by omega
      have m6 : w.heap.size ≠ p8 := by omega
      have m7 : p7 ≠ w.heap.size + 1 := by omega
      have m8 : p8 ≠ w.heap.size + 1 := by omega
      have m9 : p7 ≠ w.heap.size + 1 + 1 := by omega
      have m10 : p8 ≠ w.heap.size + 1 + 1 := by omega
      have hbc := Lib.hid (bW.out.trans (hBe.mono hsw))
      have X2 := Lib.hid (HB0.out.below hBe)
      have X4 := Lib.hid (HB2.out.below hBe)
      have X5 := Lib.hid (HB1.out.below hBe)
      have S1 := HS1.out
      have S2 := HS2.out
      have q7B : w.heap.size ≤ p7 := by omega
      have q8B : w.heap.size ≤ p8 := by omega
      obtain ⟨l1, hl1⟩ : ∃ n, P1.length = n := ⟨_, rfl⟩
      obtain ⟨l2, hl2⟩ : ∃ n, P2.length = n := ⟨_, rfl⟩
      have HL1 := Lib.hid hl1
      have HL2 := Lib.hid hl2
      unfold OwnPost at cA cB
      clear x0 x1 x2 x3 y0 y1 y2 y3 s0 s1 s2 s3 u0 u1 u2 u3 v0 v1 v2 v3 hO1 hO2 hB7 hBe n17 n18 n27 n28 hl1 hl2 HB0 HB1 HB2 h7B h8B
      obtain ⟨_, x0, x1, x2, x3, _, _, _, _⟩ := X2.out
      obtain ⟨_, z0, z1, z2, z3, z4, z5, z6, z7⟩ := HB7.out
      clear hB8
      by_cases hnk : n = n2
      · have hkk : (0 : Int) = kk := by rw [← HK.out, if_pos hnk]
        subst hkk
        have hnb1 : (n == n2) = true := by simp [hnk]
        have hnb2 : ((n : Int) == (n2 : Int)) = true := by simp [hnk]
        have hnb3 : (n2 == n) = true := by simp [hnk]
        have HNK := Lib.hid hnk
        clear hnk
        go_wp2_with (first
          | (go_at_call 35; ((with_reducible refine (cA _ hbc.out).mono ?_); rintro e w5 ⟨b1, rfl, o5, hb2⟩; obtain ⟨a7, c7, e7⟩ := own_len o5; rw [HL1.out] at e7; subst e7; have O5 := Lib.hid o5; have hs5 := hb2.size; have hb5 := Lib.hid (hbc.out.trans (hb2.mono (by omega))); have Y2 := Lib.hid (X2.out.below hb2); have Y4 := Lib.hid (X4.out.below hb2); have Y5 := Lib.hid (X5.out.below hb2); have Y7 := Lib.hid (HB7.out.below hb2); have Y8 := Lib.hid (HB8.out.below hb2); have Z15 := Lib.hid (ownsRow_below Z1.out hb2); have Z25 := Lib.hid (ownsRow_below Z2.out hb2); clear x0 x1 x2 x3 z0 z1 z2 z3 z4 z5 z6 z7; obtain ⟨_, x0, x1, x2, x3, _, _, _, _⟩ := Y2.out; obtain ⟨_, z0, z1, z2, z3, z4, z5, z6, z7⟩ := Y7.out; clear hb2 o5))
          | (go_at_call 35; ((with_reducible refine (cB _ (hb5.out.setCell (p := ⟨p7, 3, none⟩) q7B _)).mono ?_); rintro e w6 ⟨b2, rfl, o6, hb2⟩; obtain ⟨a8, c8, e8⟩ := own_len o6; rw [HL2.out] at e8; subst e8; have O6 := Lib.hid o6; have hs6 : w5.heap.size ≤ w6.heap.size := (by have := hb2.size; simpa [World.setCell] using this); have hb6 := Lib.hid ((hb5.out.setCell (p := ⟨p7, 3, none⟩) q7B _).trans (hb2.mono (by simp [World.setCell]; omega))); have V2' := Lib.hid ((Y2.out.far (j := 3) (Ne.symm m5) (.slice a7 l1 c7)).below hb2); have V4 := Lib.hid ((Y4.out.far (j := 3) m9 (.slice a7 l1 c7)).below hb2); have V5 := Lib.hid ((Y5.out.far (j := 3) m7 (.slice a7 l1 c7)).below hb2); have V7 := Lib.hid ((Y7.out.set3 (.slice a7 l1 c7)).below hb2); have V8 := Lib.hid ((Y8.out.far (j := 3) hne (.slice a7 l1 c7)).below hb2); have Z16 := Lib.hid (ownsRow_below (own_set2 (p := ⟨p7, 3, none⟩) (u := .slice a7 l1 c7) Z15.out Nn17.out.1) hb2); have Z26 := Lib.hid (ownsRow_below (own_set2 (p := ⟨p7, 3, none⟩) (u := .slice a7 l1 c7) Z25.out Nn27.out.1) hb2); have O56 := Lib.hid (ownsRow_below (own_setCell (p := ⟨p7, 3, none⟩) (u := .slice a7 l1 c7) O5.out g7) hb2); clear x0 x1 x2 x3 z0 z1 z2 z3 z4 z5 z6 z7; obtain ⟨_, x0, x1, x2, x3, _, _, _, _⟩ := V2'.out; obtain ⟨_, z0, z1, z2, z3, _, _, _, _⟩ := V7.out; obtain ⟨_, u0, u1, u2, u3, u4, u5, u6, u7⟩ := V8.out; obtain ⟨_, y0, y1, y2, y3, y4, y5, y6, y7⟩ := V5.out; obtain ⟨_, s0, s1, s2, s3, s4, s5, s6, s7⟩ := V4.out; clear hb2 o6)))
        go_region_held3 (fun w' => w'.cell? ⟨p7, 0, none⟩ = some (.int .i64 q) ∧ w'.cell? ⟨p7, 1, none⟩ = some (.slice a3 n1 c3) ∧ w'.cell? ⟨p7, 2, none⟩ = some (.int .i64 k) ∧ w'.cell? ⟨p7, 3, none⟩ = some (.slice a7 l1 c7) ∧ w'.cell? ⟨p8, 0, none⟩ = some (.int .i64 q) ∧ w'.cell? ⟨p8, 1, none⟩ = some (.slice a5 n1 c5) ∧ w'.cell? ⟨p8, 2, none⟩ = some (.int .i64 0) ∧ w'.cell? ⟨p8, 3, none⟩ = some (.slice a8 l2 c8)) (first | (with_reducible exact hS) | (refine ⟨?_, ?_, ?_, ?_, ?_, ?_, ?_, ?_⟩ <;> simp [go_sem, *])) (fail)
        all_goals go_wp2
        all_goals exact bodyPost_ret (v := .tuple #[.agg #[.int .i64 q, .slice a3 n1 c3, .int .i64 k, .slice a7 l1 c7], .agg #[.int .i64 q, .slice a5 n1 c5, .int .i64 0, .slice a8 l2 c8], .int .i64 0]) (by simp [results, Tryz.results82, go_sem, *]) rfl ⟨_, _, _, _, rfl, ⟨(own_fin (own_set2 (own_set2 Z16.out Nn18.out.1) Nn18.out.1) (by omega) (by omega)).drew.mono (by omega), (own_fin (own_setCell (own_setCell O56.out g8) g8) (by omega) (by omega)).drew.mono (show w.heap.size ≤ wc.heap.size by omega)⟩, ⟨(own_fin (own_set2 (own_set2 Z26.out Nn28.out.1) Nn28.out.1) (by omega) (by omega)).drew.mono (by omega), (own_fin (own_setCell (own_setCell O6.out (show p8 < (w5.setCell ⟨p7, 3, none⟩ (.slice a7 l1 c7)).heap.size by simp [World.setCell]; omega)) (show p8 < (w5.setCell ⟨p7, 3, none⟩ (.slice a7 l1 c7)).heap.size by simp [World.setCell]; omega)) (by simp [World.setCell]; omega) (by simp [World.setCell]; omega)).drew.mono (show w.heap.size ≤ (w5.setCell ⟨p7, 3, none⟩ (.slice a7 l1 c7)).heap.size by simp [World.setCell]; omega)⟩, (put4_below (put4_below ((hb6.out.setCell (p := ⟨p8, 3, none⟩) q8B _).setCell (p := ⟨p8, 2, none⟩) q8B _) hu) hu2).drew⟩
      · have hkk : k = kk := by rw [← HK.out, if_neg hnk]
        subst hkk
        have hnb : ¬ n2 = n := fun e => hnk e.symm
        go_wp2_with (first
          | (go_at_call 35; ((with_reducible refine (cA _ hbc.out).mono ?_); rintro e w5 ⟨b1, rfl, o5, hb2⟩; obtain ⟨a7, c7, e7⟩ := own_len o5; rw [HL1.out] at e7; subst e7; have O5 := Lib.hid o5; have hs5 := hb2.size; have hb5 := Lib.hid (hbc.out.trans (hb2.mono (by omega))); have Y2 := Lib.hid (X2.out.below hb2); have Y4 := Lib.hid (X4.out.below hb2); have Y5 := Lib.hid (X5.out.below hb2); have Y7 := Lib.hid (HB7.out.below hb2); have Y8 := Lib.hid (HB8.out.below hb2); have Z15 := Lib.hid (ownsRow_below Z1.out hb2); have Z25 := Lib.hid (ownsRow_below Z2.out hb2); clear x0 x1 x2 x3 z0 z1 z2 z3 z4 z5 z6 z7; obtain ⟨_, x0, x1, x2, x3, _, _, _, _⟩ := Y2.out; obtain ⟨_, z0, z1, z2, z3, z4, z5, z6, z7⟩ := Y7.out; clear hb2 o5))
          | (go_at_call 35; ((with_reducible refine (cB _ (hb5.out.setCell (p := ⟨p7, 3, none⟩) q7B _)).mono ?_); rintro e w6 ⟨b2, rfl, o6, hb2⟩; obtain ⟨a8, c8, e8⟩ := own_len o6; rw [HL2.out] at e8; subst e8; have O6 := Lib.hid o6; have hs6 : w5.heap.size ≤ w6.heap.size := (by have := hb2.size; simpa [World.setCell] using this); have hb6 := Lib.hid ((hb5.out.setCell (p := ⟨p7, 3, none⟩) q7B _).trans (hb2.mono (by simp [World.setCell]; omega))); have V2' := Lib.hid ((Y2.out.far (j := 3) (Ne.symm m5) (.slice a7 l1 c7)).below hb2); have V4 := Lib.hid ((Y4.out.far (j := 3) m9 (.slice a7 l1 c7)).below hb2); have V5 := Lib.hid ((Y5.out.far (j := 3) m7 (.slice a7 l1 c7)).below hb2); have V7 := Lib.hid ((Y7.out.set3 (.slice a7 l1 c7)).below hb2); have V8 := Lib.hid ((Y8.out.far (j := 3) hne (.slice a7 l1 c7)).below hb2); have Z16 := Lib.hid (ownsRow_below (own_set2 (p := ⟨p7, 3, none⟩) (u := .slice a7 l1 c7) Z15.out Nn17.out.1) hb2); have Z26 := Lib.hid (ownsRow_below (own_set2 (p := ⟨p7, 3, none⟩) (u := .slice a7 l1 c7) Z25.out Nn27.out.1) hb2); have O56 := Lib.hid (ownsRow_below (own_setCell (p := ⟨p7, 3, none⟩) (u := .slice a7 l1 c7) O5.out g7) hb2); clear x0 x1 x2 x3 z0 z1 z2 z3 z4 z5 z6 z7; obtain ⟨_, x0, x1, x2, x3, _, _, _, _⟩ := V2'.out; obtain ⟨_, z0, z1, z2, z3, _, _, _, _⟩ := V7.out; obtain ⟨_, u0, u1, u2, u3, u4, u5, u6, u7⟩ := V8.out; obtain ⟨_, y0, y1, y2, y3, y4, y5, y6, y7⟩ := V5.out; obtain ⟨_, s0, s1, s2, s3, s4, s5, s6, s7⟩ := V4.out; clear hb2 o6)))
        go_region_held3 (fun w' => w'.cell? ⟨p7, 0, none⟩ = some (.int .i64 q) ∧ w'.cell? ⟨p7, 1, none⟩ = some (.slice a3 n1 c3) ∧ w'.cell? ⟨p7, 2, none⟩ = some (.int .i64 k) ∧ w'.cell? ⟨p7, 3, none⟩ = some (.slice a7 l1 c7) ∧ w'.cell? ⟨p8, 0, none⟩ = some (.int .i64 q) ∧ w'.cell? ⟨p8, 1, none⟩ = some (.slice a5 n1 c5) ∧ w'.cell? ⟨p8, 2, none⟩ = some (.int .i64 k) ∧ w'.cell? ⟨p8, 3, none⟩ = some (.slice a8 l2 c8)) (first | (with_reducible exact hS) | (refine ⟨?_, ?_, ?_, ?_, ?_, ?_, ?_, ?_⟩ <;> simp [go_sem, *])) (fail)
        all_goals go_wp2
        all_goals exact bodyPost_ret (v := .tuple #[.agg #[.int .i64 q, .slice a3 n1 c3, .int .i64 k, .slice a7 l1 c7], .agg #[.int .i64 q, .slice a5 n1 c5, .int .i64 k, .slice a8 l2 c8], .int .i64 0]) (by simp [results, Tryz.results82, go_sem, *]) rfl ⟨_, _, _, _, rfl, ⟨(own_fin (own_set2 Z16.out Nn18.out.1) (by omega) (by omega)).drew.mono (by omega), (own_fin (own_setCell O56.out g8) (by omega) (by omega)).drew.mono (show w.heap.size ≤ wc.heap.size by omega)⟩, ⟨(own_fin (own_set2 Z26.out Nn28.out.1) (by omega) (by omega)).drew.mono (by omega), (own_fin (own_setCell O6.out (show p8 < (w5.setCell ⟨p7, 3, none⟩ (.slice a7 l1 c7)).heap.size by simp [World.setCell]; omega)) (by simp [World.setCell]; omega) (by simp [World.setCell]; omega)).drew.mono (show w.heap.size ≤ (w5.setCell ⟨p7, 3, none⟩ (.slice a7 l1 c7)).heap.size by simp [World.setCell]; omega)⟩, (put4_below (put4_below (hb6.out.setCell (p := ⟨p8, 3, none⟩) q8B _) hu) hu2).drew⟩

end Go.Proofs.YtafincmcmgedbaaGreatDoor
