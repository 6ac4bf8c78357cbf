/-
  The document's Free, Format.
-/
import Derived.Test.YtmlipcedkgfmiaaDoorDocOut
namespace Go.Proofs.YtmlipcedkgfmiaaDoor
open Go.RowKit Go.Lib

theorem mayS_kind {q k : Int} {ls : IRow} {cs : Row} (h : mayS ⟨q, ls, k, cs⟩ = true) : 0 ≤ k ∧ k ≤ 3 ∧ (ls.length ≠ 0 → k = 0) := by
  unfold mayS at h
  simp only [Bool.and_eq_true] at h
  obtain ⟨⟨_, h2⟩, _⟩ := h
  unfold kindB at h2
  split at h2
  · rename_i h0
    have := of_decide_eq_true h2
    exact ⟨this.1, this.2, fun h => absurd h0 h⟩
  · have := of_decide_eq_true h2
    omega

set_option maxRecDepth 20000 in
set_option maxHeartbeats 16000000 in
theorem Free_doc (q k : Int) (sl sc : Value) (ls : IRow) (cs : Row) (w : World) (h : LnAt w sl sc ls cs) (hls : ls.length ≤ 50000) (hcs : cs.length ≤ 50000) (hf : Fair cs) :
    Calls Tryd.prog 33 #[.agg #[.int .i64 q, sl, .int .i64 k, sc]] w (DocPost (opS (freeS) ⟨q, ls, k, cs⟩) w) := by
  obtain ⟨a1, c1, e1, hnc, hcm⟩ := h.z.cap
  subst e1
  unfold maxLen at hcm
  obtain ⟨a2, c2, rfl⟩ := h.r.len
  have HZ := Lib.hid h.z
  have cM : ∀ w1, Below w.heap.size w w1 → Calls Tryd.prog 13 #[.agg #[.int .i64 q, .slice a1 ls.length c1, .int .i64 k, .slice a2 cs.length c2]] w1 fun e w' => e = .returned (.bool (mayS ⟨q, ls, k, cs⟩)) ∧ Below w1.heap.size w1 w' := fun w1 h1 => rlmay_any q k _ _ ls cs w1 (h.below h1) hcs hf
  have cO : ∀ w1, Below w.heap.size w w1 → Calls Tryd.prog 11 #[.agg #[.int .i64 q, .slice a1 ls.length c1, .int .i64 k, .slice a2 cs.length c2]] w1 fun e w' => ∃ sl' sc', e = .returned (.agg #[.int .i64 q, sl', .int .i64 k, sc']) ∧ OwnLn w1.heap.size w' sl' sc' ls cs ∧ Below w1.heap.size w1 w' := fun w1 h1 => rlown_any q k _ _ ls cs w1 (h.below h1) hls hcs
  have cD : ∀ w1, Below w.heap.size w w1 → Calls Tryd.prog 27 #[.agg #[.int .i64 q, .slice a1 ls.length c1, .int .i64 k, .slice a2 cs.length c2]] w1 (DocPost (opS outdentS ⟨q, ls, k, cs⟩) w1) := fun w1 h1 => Outdent_doc q k _ _ ls cs w1 (h.below h1) hls hcs hf
  have HX := Lib.hid (box_two w q k 0 0 (.slice a1 ls.length c1) (.slice a2 cs.length c2) (.slice none 0 0) (.slice none 0 0))
  have hkind := @mayS_kind q k ls cs
  have cR : mayS ⟨q, ls, k, cs⟩ = true → k = 0 → freeS ⟨q, ls, k, cs⟩ = opS outdentS ⟨q, ls, k, cs⟩ := fun h h0 => by unfold opS freeS; rw [if_pos h, if_pos h0]
  obtain ⟨R, hR⟩ : ∃ R, opS outdentS ⟨q, ls, k, cs⟩ = R := ⟨_, rfl⟩
  rw [hR] at cD cR
  unfold opS
  have hfacts := @mayS_facts q k ls cs
  obtain ⟨n1, hn1⟩ : ∃ n, ls.length = n := ⟨_, rfl⟩
  obtain ⟨n2, hn2⟩ : ∃ n, cs.length = n := ⟨_, rfl⟩
  have N1 := Lib.hid hn1
  have N2 := Lib.hid hn2
  rw [hn1] at cM cO cD HX HZ hnc hfacts hkind ⊢
  rw [hn2] at cM cO cD HX ⊢
  have hu : w.heap.size < w.heap.size + 1 := by omega
  obtain ⟨M, hM⟩ : ∃ M, mayS ⟨q, ls, k, cs⟩ = M := ⟨_, rfl⟩
  rw [hM] at cM hfacts hkind cR ⊢
  clear h hls hcs hf hn1 hn2 hM hR
  cases M with
  | false =>
    rw [if_neg (by decide)]
    clear hfacts hkind cR cD cO
    go_enter Tryd.func33, Tryd.ntmps33
    go_wp2_with (first
      | (go_at_call 13; ((with_reducible refine (cM _ HX.out.1).mono ?_); rintro e w1 ⟨rfl, hb⟩; obtain ⟨b2, B0, B1⟩ := HX.out; have bW := Lib.hid (b2.trans (hb.mono b2.size)); have HB0 := Lib.hid (B0.below hb); have HB1 := Lib.hid (B1.below hb); have hs1 := HB1.out.lt; obtain ⟨l0, x0, x1, x2, x3, _, _, _, _⟩ := HB0.out; obtain ⟨l1, u0, u1, u2, u3, v0, v1, v2, v3⟩ := HB1.out; clear b2 B0 B1 hb)))
    exact bodyPost_ret (v := .tuple #[.agg #[.int .i64 0, .slice none 0 0, .int .i64 0, .slice none 0 0], .int .i64 1]) (by simp [results, Tryd.results33, go_sem, *]) rfl ⟨_, _, rfl, own_nil _ _, put4_below bW.out (Nat.le_of_lt hu)⟩
  | true =>
    rw [if_pos rfl]
    obtain ⟨hk1, hk2, hk3⟩ := hkind rfl
    have cR2 := cR rfl
    clear hkind hfacts cR
    by_cases hk0 : k = 0
    · rw [cR2 hk0]
      subst hk0
      clear cR2 hk3 cO
      obtain ⟨code, q', ls', k', cs'⟩ := R
      by_cases h0 : n1 = 0
      · subst h0
        go_enter Tryd.func33, Tryd.ntmps33
        go_wp2_with (first
          | (go_at_call 13; ((with_reducible refine (cM _ HX.out.1).mono ?_); rintro e w1 ⟨rfl, hb⟩; obtain ⟨b2, B0, B1⟩ := HX.out; have bW := Lib.hid (b2.trans (hb.mono b2.size)); have HB0 := Lib.hid (B0.below hb); have HB1 := Lib.hid (B1.below hb); have hs1 := HB1.out.lt; obtain ⟨l0, x0, x1, x2, x3, _, _, _, _⟩ := HB0.out; obtain ⟨l1, u0, u1, u2, u3, v0, v1, v2, v3⟩ := HB1.out; clear b2 B0 B1 hb))
          | (go_at_call 27; ((with_reducible refine (cD _ bW.out).mono ?_); rintro e w2 ⟨sl', sc', rfl, hl, hb2⟩; have hs2 := hb2.size; have bW2 := Lib.hid (bW.out.trans (hb2.mono (by omega))); have HL := Lib.hid hl; have HLB := Lib.hid hb2; obtain ⟨a5, c5, e5⟩ := own_len hl.1; obtain ⟨a6, c6, e6⟩ := own_len hl.2; subst e5 e6; have HC1 := Lib.hid (HB1.out.below hb2); obtain ⟨l1, u0, u1, u2, u3, v0, v1, v2, v3⟩ := HC1.out; clear hl hb2)))
        exact bodyPost_ret (v := .tuple #[.agg #[.int .i64 q', .slice a5 ls'.length c5, .int .i64 k', .slice a6 cs'.length c6], .int .i64 code]) (by simp [results, Tryd.results33, go_sem, *]) rfl ⟨_, _, rfl, (put4_own HL.out hs1).mono (by omega), put4_below bW2.out (Nat.le_of_lt hu)⟩
      · have hnb : ((n1 : Int) == 0) = false := by simpa using h0
        have hnn : ¬ ((n1 : Int) = 0) := by omega
        go_enter Tryd.func33, Tryd.ntmps33
        go_wp2_with (first
          | (go_at_call 13; ((with_reducible refine (cM _ HX.out.1).mono ?_); rintro e w1 ⟨rfl, hb⟩; obtain ⟨b2, B0, B1⟩ := HX.out; have bW := Lib.hid (b2.trans (hb.mono b2.size)); have HB0 := Lib.hid (B0.below hb); have HB1 := Lib.hid (B1.below hb); have hs1 := HB1.out.lt; obtain ⟨l0, x0, x1, x2, x3, _, _, _, _⟩ := HB0.out; obtain ⟨l1, u0, u1, u2, u3, v0, v1, v2, v3⟩ := HB1.out; clear b2 B0 B1 hb))
          | (go_at_call 27; ((with_reducible refine (cD _ bW.out).mono ?_); rintro e w2 ⟨sl', sc', rfl, hl, hb2⟩; have hs2 := hb2.size; have bW2 := Lib.hid (bW.out.trans (hb2.mono (by omega))); have HL := Lib.hid hl; have HLB := Lib.hid hb2; obtain ⟨a5, c5, e5⟩ := own_len hl.1; obtain ⟨a6, c6, e6⟩ := own_len hl.2; subst e5 e6; have HC1 := Lib.hid (HB1.out.below hb2); obtain ⟨l1, u0, u1, u2, u3, v0, v1, v2, v3⟩ := HC1.out; clear hl hb2)))
        exact bodyPost_ret (v := .tuple #[.agg #[.int .i64 q', .slice a5 ls'.length c5, .int .i64 k', .slice a6 cs'.length c6], .int .i64 code]) (by simp [results, Tryd.results33, go_sem, *]) rfl ⟨_, _, rfl, (put4_own HL.out hs1).mono (by omega), put4_below bW2.out (Nat.le_of_lt hu)⟩
    · unfold freeS
      dsimp only
      rw [if_neg hk0]
      obtain rfl : n1 = 0 := by
        by_cases h0 : n1 = 0
        · exact h0
        · exact absurd (hk3 h0) hk0
      have hkp : 0 < k := by omega
      clear cR2 hk3 cD
      go_enter Tryd.func33, Tryd.ntmps33
      go_wp2_with (first
        | (go_at_call 13; ((with_reducible refine (cM _ HX.out.1).mono ?_); rintro e w1 ⟨rfl, hb⟩; obtain ⟨b2, B0, B1⟩ := HX.out; have bW := Lib.hid (b2.trans (hb.mono b2.size)); have HB0 := Lib.hid (B0.below hb); have HB1 := Lib.hid (B1.below hb); have hs1 := HB1.out.lt; obtain ⟨l0, x0, x1, x2, x3, _, _, _, _⟩ := HB0.out; obtain ⟨l1, u0, u1, u2, u3, v0, v1, v2, v3⟩ := HB1.out; clear b2 B0 B1 hb))
        | (go_at_call 11; ((with_reducible refine (cO _ bW.out).mono ?_); rintro e w2 ⟨sl', sc', rfl, ho, hb2⟩; have hs2 := hb2.size; have bW2 := Lib.hid (bW.out.trans (hb2.mono (by omega))); have HO := Lib.hid ho; have HBB := Lib.hid hb2; obtain ⟨a3, c3, e3⟩ := own_len ho.1; obtain ⟨a4, c4, e4⟩ := own_len ho.2; rw [N1.out] at e3; rw [N2.out] at e4; subst e3 e4; have HC0 := Lib.hid (HB0.out.below hb2); have HC1 := Lib.hid (HB1.out.below hb2); obtain ⟨l0, x0, x1, x2, x3, _, _, _, _⟩ := HC0.out; obtain ⟨l1, u0, u1, u2, u3, v0, v1, v2, v3⟩ := HC1.out; have hHP := Lib.hid (box_new w2 q k (.slice a3 0 c3) (.slice a4 n2 c4)); clear ho hb2)))
      exact bodyPost_ret (v := .tuple #[.agg #[.int .i64 q, .slice a3 0 c3, .int .i64 0, .slice a4 n2 c4], .int .i64 0]) (by simp [results, Tryd.results33, go_sem, *]) rfl ⟨_, _, rfl, (doc_one HO.out hs1 bW2.out (Nat.le_of_lt hu) _ _ _ _ _).1, (doc_one HO.out hs1 bW2.out (Nat.le_of_lt hu) _ _ _ _ _).2⟩

set_option maxRecDepth 20000 in
set_option maxHeartbeats 16000000 in
theorem Format_doc (q k kind : Int) (sl sc : Value) (ls : IRow) (cs : Row) (w : World) (h : LnAt w sl sc ls cs) (hls : ls.length ≤ 50000) (hcs : cs.length ≤ 50000) (hf : Fair cs) :
    Calls Tryd.prog 31 #[.agg #[.int .i64 q, sl, .int .i64 k, sc], .int .i64 kind] w (DocPost (opS (formatK kind) ⟨q, ls, k, cs⟩) w) := by
  obtain ⟨a1, c1, e1, hnc, hcm⟩ := h.z.cap
  subst e1
  unfold maxLen at hcm
  obtain ⟨a2, c2, rfl⟩ := h.r.len
  have HZ := Lib.hid h.z
  have cM : ∀ w1, Below w.heap.size w w1 → Calls Tryd.prog 13 #[.agg #[.int .i64 q, .slice a1 ls.length c1, .int .i64 k, .slice a2 cs.length c2]] w1 fun e w' => e = .returned (.bool (mayS ⟨q, ls, k, cs⟩)) ∧ Below w1.heap.size w1 w' := fun w1 h1 => rlmay_any q k _ _ ls cs w1 (h.below h1) hcs hf
  have cO : ∀ w1, Below w.heap.size w w1 → Calls Tryd.prog 11 #[.agg #[.int .i64 q, .slice a1 ls.length c1, .int .i64 k, .slice a2 cs.length c2]] w1 fun e w' => ∃ sl' sc', e = .returned (.agg #[.int .i64 q, sl', .int .i64 k, sc']) ∧ OwnLn w1.heap.size w' sl' sc' ls cs ∧ Below w1.heap.size w1 w' := fun w1 h1 => rlown_any q k _ _ ls cs w1 (h.below h1) hls hcs
  have HX := Lib.hid (box_two w q k 0 0 (.slice a1 ls.length c1) (.slice a2 cs.length c2) (.slice none 0 0) (.slice none 0 0))
  unfold opS
  have hfacts := @mayS_facts q k ls cs
  obtain ⟨n1, hn1⟩ : ∃ n, ls.length = n := ⟨_, rfl⟩
  obtain ⟨n2, hn2⟩ : ∃ n, cs.length = n := ⟨_, rfl⟩
  have N1 := Lib.hid hn1
  have N2 := Lib.hid hn2
  rw [hn1] at cM cO HX HZ hnc hfacts ⊢
  rw [hn2] at cM cO HX ⊢
  obtain ⟨U, hU⟩ : ∃ U, upB kind 3 = U := ⟨_, rfl⟩
  unfold formatK
  rw [hU]
  have hu : w.heap.size < w.heap.size + 1 := by omega
  cases U with
  | false =>
    rw [show (if mayS ⟨q, ls, k, cs⟩ = true then (if false = true then formatS kind ⟨q, ls, k, cs⟩ else (1, ln0)) else (1, ln0)) = (1, ln0) from by simp]
    have hU2 : kind < 0 ∨ (¬ kind < 0 ∧ 3 < kind) := by
      have := of_decide_eq_false hU
      omega
    clear h hls hcs hf hn1 hn2 hfacts cM cO hU
    rcases hU2 with h1 | ⟨h1, h2⟩
    · go_enter Tryd.func31, Tryd.ntmps31
      go_wp2_with (first
        | fail)
      exact bodyPost_ret (v := .tuple #[.agg #[.int .i64 0, .slice none 0 0, .int .i64 0, .slice none 0 0], .int .i64 1]) (by simp [results, Tryd.results31, go_sem, *]) rfl ⟨_, _, rfl, own_nil _ _, by first | exact put4_below HX.out.1 (Nat.le_of_lt hu) | exact HX.out.1⟩
    · go_enter Tryd.func31, Tryd.ntmps31
      go_wp2_with (first
        | fail)
      exact bodyPost_ret (v := .tuple #[.agg #[.int .i64 0, .slice none 0 0, .int .i64 0, .slice none 0 0], .int .i64 1]) (by simp [results, Tryd.results31, go_sem, *]) rfl ⟨_, _, rfl, own_nil _ _, by first | exact put4_below HX.out.1 (Nat.le_of_lt hu) | exact HX.out.1⟩
  | true =>
    rw [if_pos rfl]
    obtain ⟨hk1, hk2⟩ : 0 ≤ kind ∧ kind ≤ 3 := of_decide_eq_true hU
    have hk3 : ¬ kind < 0 := by omega
    have hk4 : ¬ 3 < kind := by omega
    obtain ⟨M, hM⟩ : ∃ M, mayS ⟨q, ls, k, cs⟩ = M := ⟨_, rfl⟩
    rw [hM] at cM hfacts ⊢
    clear h hls hcs hf hn1 hn2 hM hU
    cases M with
    | false =>
      rw [if_neg (by decide)]
      clear hfacts
      go_enter Tryd.func31, Tryd.ntmps31
      go_wp2_with (first
        | (go_at_call 13; ((with_reducible refine (cM _ HX.out.1).mono ?_); rintro e w1 ⟨rfl, hb⟩; obtain ⟨b2, B0, B1⟩ := HX.out; have bW := Lib.hid (b2.trans (hb.mono b2.size)); have HB0 := Lib.hid (B0.below hb); have HB1 := Lib.hid (B1.below hb); have hs1 := HB1.out.lt; obtain ⟨l0, x0, x1, x2, x3, _, _, _, _⟩ := HB0.out; obtain ⟨l1, u0, u1, u2, u3, v0, v1, v2, v3⟩ := HB1.out; clear b2 B0 B1 hb)))
      exact bodyPost_ret (v := .tuple #[.agg #[.int .i64 0, .slice none 0 0, .int .i64 0, .slice none 0 0], .int .i64 1]) (by simp [results, Tryd.results31, go_sem, *]) rfl ⟨_, _, rfl, own_nil _ _, put4_below bW.out (Nat.le_of_lt hu)⟩
    | true =>
      rw [if_pos rfl]
      clear hfacts
      unfold formatS
      dsimp only
      rw [N1.out]
      by_cases h0 : n1 = 0
      · subst h0
        by_cases hkk : k = kind
        · subst hkk
          rw [if_pos (.inr rfl)]
          go_enter Tryd.func31, Tryd.ntmps31
          go_wp2_with (first
            | (go_at_call 13; ((with_reducible refine (cM _ HX.out.1).mono ?_); rintro e w1 ⟨rfl, hb⟩; obtain ⟨b2, B0, B1⟩ := HX.out; have bW := Lib.hid (b2.trans (hb.mono b2.size)); have HB0 := Lib.hid (B0.below hb); have HB1 := Lib.hid (B1.below hb); have hs1 := HB1.out.lt; obtain ⟨l0, x0, x1, x2, x3, _, _, _, _⟩ := HB0.out; obtain ⟨l1, u0, u1, u2, u3, v0, v1, v2, v3⟩ := HB1.out; clear b2 B0 B1 hb)))
          exact bodyPost_ret (v := .tuple #[.agg #[.int .i64 0, .slice none 0 0, .int .i64 0, .slice none 0 0], .int .i64 7]) (by simp [results, Tryd.results31, go_sem, *]) rfl ⟨_, _, rfl, own_nil _ _, put4_below bW.out (Nat.le_of_lt hu)⟩
        · rw [if_neg (fun h => h.elim (by decide) hkk)]
          have hkb : (k == kind) = false := by simpa using hkk
          go_enter Tryd.func31, Tryd.ntmps31
          go_wp2_with (first
            | (go_at_call 13; ((with_reducible refine (cM _ HX.out.1).mono ?_); rintro e w1 ⟨rfl, hb⟩; obtain ⟨b2, B0, B1⟩ := HX.out; have bW := Lib.hid (b2.trans (hb.mono b2.size)); have HB0 := Lib.hid (B0.below hb); have HB1 := Lib.hid (B1.below hb); have hs1 := HB1.out.lt; obtain ⟨l0, x0, x1, x2, x3, _, _, _, _⟩ := HB0.out; obtain ⟨l1, u0, u1, u2, u3, v0, v1, v2, v3⟩ := HB1.out; clear b2 B0 B1 hb))
            | (go_at_call 11; ((with_reducible refine (cO _ bW.out).mono ?_); rintro e w2 ⟨sl', sc', rfl, ho, hb2⟩; have hs2 := hb2.size; have bW2 := Lib.hid (bW.out.trans (hb2.mono (by omega))); have HO := Lib.hid ho; have HBB := Lib.hid hb2; obtain ⟨a3, c3, e3⟩ := own_len ho.1; obtain ⟨a4, c4, e4⟩ := own_len ho.2; rw [N1.out] at e3; rw [N2.out] at e4; subst e3 e4; have HC0 := Lib.hid (HB0.out.below hb2); have HC1 := Lib.hid (HB1.out.below hb2); obtain ⟨l0, x0, x1, x2, x3, _, _, _, _⟩ := HC0.out; obtain ⟨l1, u0, u1, u2, u3, v0, v1, v2, v3⟩ := HC1.out; have hHP := Lib.hid (box_new w2 q k (.slice a3 0 c3) (.slice a4 n2 c4)); clear ho hb2)))
          exact bodyPost_ret (v := .tuple #[.agg #[.int .i64 q, .slice a3 0 c3, .int .i64 kind, .slice a4 n2 c4], .int .i64 0]) (by simp [results, Tryd.results31, go_sem, *]) rfl ⟨_, _, rfl, (doc_one HO.out hs1 bW2.out (Nat.le_of_lt hu) _ _ _ _ _).1, (doc_one HO.out hs1 bW2.out (Nat.le_of_lt hu) _ _ _ _ _).2⟩
      · rw [if_pos (.inl (by omega))]
        have hnn : (0 : Int) < (n1 : Int) := by omega
        have hnN : 0 < n1 := by omega
        go_enter Tryd.func31, Tryd.ntmps31
        go_wp2_with (first
          | (go_at_call 13; ((with_reducible refine (cM _ HX.out.1).mono ?_); rintro e w1 ⟨rfl, hb⟩; obtain ⟨b2, B0, B1⟩ := HX.out; have bW := Lib.hid (b2.trans (hb.mono b2.size)); have HB0 := Lib.hid (B0.below hb); have HB1 := Lib.hid (B1.below hb); have hs1 := HB1.out.lt; obtain ⟨l0, x0, x1, x2, x3, _, _, _, _⟩ := HB0.out; obtain ⟨l1, u0, u1, u2, u3, v0, v1, v2, v3⟩ := HB1.out; clear b2 B0 B1 hb)))
        exact bodyPost_ret (v := .tuple #[.agg #[.int .i64 0, .slice none 0 0, .int .i64 0, .slice none 0 0], .int .i64 7]) (by simp [results, Tryd.results31, go_sem, *]) rfl ⟨_, _, rfl, own_nil _ _, put4_below bW.out (Nat.le_of_lt hu)⟩

end Go.Proofs.YtmlipcedkgfmiaaDoor
