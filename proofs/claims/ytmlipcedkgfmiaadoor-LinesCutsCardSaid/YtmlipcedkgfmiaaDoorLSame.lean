/-
  The program's and the document's Same of lines.
-/
import Derived.Test.YtmlipcedkgfmiaaDoorDocMay
namespace Go.Proofs.YtmlipcedkgfmiaaDoor
open Go.RowKit Go.Lib

set_option maxRecDepth 20000 in
set_option maxHeartbeats 8000000 in
theorem equalZ_any (v1 v2 : Value) (l m : IRow) (w : World) (h1 : IntsAt w v1 l) (h2 : IntsAt w v2 m) (hln : l.length ≤ 100000) :
    Calls Tryd.prog 42 #[v1, v2] w fun e w' => e = .returned (.bool (sameZ l m)) ∧ Below w.heap.size w w' := by
  obtain ⟨a1, c1, e1⟩ := h1.len
  obtain ⟨a2, c2, e2⟩ := h2.len
  have H1 := Lib.hid h1
  have H2 := Lib.hid h2
  clear h1 h2
  subst e1 e2
  obtain ⟨n1, hn1⟩ : ∃ n1, l.length = n1 := ⟨_, rfl⟩
  obtain ⟨n2, hn2⟩ : ∃ n2, m.length = n2 := ⟨_, rfl⟩
  rw [hn1] at hln ⊢
  rw [hn2]
  by_cases hn : n1 = n2
  · subst hn
    obtain ⟨S, hS⟩ : ∃ S, sameZ l m = S := ⟨_, rfl⟩
    rw [hS]
    have HS := Lib.hid hS
    have N1 := Lib.hid hn1
    have N2 := Lib.hid hn2
    clear hS hn1 hn2
    go_enter Tryd.func42, Tryd.ntmps42
    go_wp2
    go_loopw [5, 13] (fun v5 i wr => ∃ k : Nat, k ≤ n1 ∧ i = .int .i64 k ∧ Hid (sameZ (l.drop k) (m.drop k) = S) ∧ ∃ z, wr = w.drewN z) (fun _ i _ => n1 - (RowKit.intOf i).toNat)
    case atStart => exact ⟨0, Nat.zero_le _, rfl, HS, 0, rfl⟩
    case round =>
      obtain ⟨k, hk, rfl, HK, z, rfl⟩ := hrel
      by_cases hlt : k < n1
      · have hkI : (k : Int) < (n1 : Int) := by omega
        have hst := sameZ_step (l := l) (m := m) (k := k) (by rw [N1.out]; exact hlt) (by rw [N2.out]; exact hlt)
        rw [HK.out] at hst
        obtain ⟨b1, o1, d1, e, _, hm1, _, hc1⟩ := H1.out.lies (by rw [N1.out]; omega)
        obtain ⟨b2, o2, d2, e', _, hm2, _, hc2⟩ := H2.out.lies (by rw [N2.out]; omega)
        rw [N1.out] at e
        rw [N2.out] at e'
        obtain ⟨rfl, _, rfl⟩ := Value.slice.inj e
        obtain ⟨rfl, _, rfl⟩ := Value.slice.inj e'
        unfold maxLen at hm1 hm2
        have x1 := hc1 k (by rw [N1.out]; exact hlt)
        have y1 := hc2 k (by rw [N2.out]; exact hlt)
        obtain ⟨X, hX⟩ : ∃ X, l[k]! = X := ⟨_, rfl⟩
        obtain ⟨Y, hY⟩ : ∃ Y, m[k]! = Y := ⟨_, rfl⟩
        rw [hX] at x1 hst
        rw [hY] at y1 hst
        clear hX hY hc1 hc2 HK e e'
        by_cases g1 : X = Y
        · subst g1
          have HT : Hid (sameZ (l.drop (k + 1)) (m.drop (k + 1)) = S) := Lib.hid (by rw [hst]; simp)
          clear hst
          go_wp2_with fail
          go_quiet (fail)
          go_wp2
          go_roundw
          case rel => exact ⟨k + 1, hlt, by go_num, HT, _, rfl⟩
          case measure => simp [RowKit.intOf]; omega
        · have HT : Hid (S = false) := Lib.hid (by rw [hst]; simp [g1])
          have g1b : (X != Y) = true := by simpa using g1
          clear hst
          go_wp2_with fail
          go_quiet (fail)
          go_wp2
          go_ret
          exact ⟨ret_bool HT.out.symm, by rw [World.drewN_drewN]; exact below_draws w _⟩
      · have hkn : k = n1 := by omega
        subst hkn
        have hl : S = true := by rw [← HK.out, List.drop_eq_nil_of_le (by rw [N1.out]; omega), List.drop_eq_nil_of_le (by rw [N2.out]; omega)]; rfl
        have HL := Lib.hid hl
        clear hl HK
        go_wp2
        go_ret
        exact ⟨ret_bool HL.out.symm, below_draws w z⟩
  · have e0 : sameZ l m = false := decide_eq_false (fun e => hn (by rw [← hn1, ← hn2, e]))
    rw [e0]
    have g1 : ((n1 : Int) != (n2 : Int)) = true := by simp; omega
    have g2 : ¬ (n1 : Int) = (n2 : Int) := by omega
    clear hn1 hn2 e0 hn
    go_enter Tryd.func42, Tryd.ntmps42
    go_wp2
    go_ret
    exact ⟨rfl, Below.refl _ _⟩

theorem sameL_is (q k q' k' : Int) (ls ls' : IRow) (cs cs' : Row) : sameL ⟨q, ls, k, cs⟩ ⟨q', ls', k', cs'⟩ = (decide (q = q') && decide (k = k') && sameZ ls ls' && sameR cs cs') := by
  unfold sameL sameZ sameR
  rw [Bool.eq_iff_iff]
  simp only [Bool.and_eq_true, decide_eq_true_eq]
  constructor
  · rintro ⟨h1, h2, h3, h4⟩; exact ⟨⟨⟨h1, h3⟩, h2⟩, h4⟩
  · rintro ⟨⟨⟨h1, h3⟩, h2⟩, h4⟩; exact ⟨h1, h2, h3, h4⟩

set_option maxRecDepth 20000 in
set_option maxHeartbeats 8000000 in
theorem lsame_any (q k q' k' : Int) (sl sc sl' sc' : Value) (ls ls' : IRow) (cs cs' : Row) (w : World) (h : LnAt w sl sc ls cs) (h' : LnAt w sl' sc' ls' cs') (hls : ls.length ≤ 50000) (_ : cs.length ≤ 50000) :
    Calls Tryd.prog 14 #[.agg #[.int .i64 q, sl, .int .i64 k, sc], .agg #[.int .i64 q', sl', .int .i64 k', sc']] w fun e w' => e = .returned (.bool (sameL ⟨q, ls, k, cs⟩ ⟨q', ls', k', cs'⟩)) ∧ Below w.heap.size w w' := by
  obtain ⟨a1, c1, rfl⟩ := h.z.len
  obtain ⟨a2, c2, rfl⟩ := h.r.len
  obtain ⟨a3, c3, rfl⟩ := h'.z.len
  obtain ⟨a4, c4, rfl⟩ := h'.r.len
  have cZ : ∀ w1, Below w.heap.size w w1 → Calls Tryd.prog 42 #[.slice a1 ls.length c1, .slice a3 ls'.length c3] w1 fun e w' => e = .returned (.bool (sameZ ls ls')) ∧ Below w1.heap.size w1 w' := fun w1 h1 => equalZ_any _ _ ls ls' w1 (h.z.below h1) (h'.z.below h1) (by omega)
  have cR : ∀ w1, Below w.heap.size w w1 → Calls Tryd.prog 43 #[.slice a2 cs.length c2, .slice a4 cs'.length c4] w1 fun e w' => e = .returned (.bool (sameR cs cs')) ∧ Below w1.heap.size w1 w' := fun w1 h1 => same_any _ _ cs cs' w1 (h.r.below h1) (h'.r.below h1)
  have ba : ∀ o p, Below w.heap.size w ((w.alloc o).alloc p) := fun o p => ((Below.refl _ w).alloc (Nat.le_refl _) _).alloc (by simp) _
  rw [sameL_is]
  obtain ⟨Z, hZ⟩ : ∃ Z, sameZ ls ls' = Z := ⟨_, rfl⟩
  obtain ⟨R, hR⟩ : ∃ R, sameR cs cs' = R := ⟨_, rfl⟩
  obtain ⟨n1, hn1⟩ : ∃ n, ls.length = n := ⟨_, rfl⟩
  obtain ⟨n2, hn2⟩ : ∃ n, cs.length = n := ⟨_, rfl⟩
  obtain ⟨n3, hn3⟩ : ∃ n, ls'.length = n := ⟨_, rfl⟩
  obtain ⟨n4, hn4⟩ : ∃ n, cs'.length = n := ⟨_, rfl⟩
  rw [hn1, hn3, hZ] at cZ
  rw [hn2, hn4, hR] at cR
  rw [hZ, hR, hn1, hn2, hn3, hn4]
  have hX := Lib.hid (box_two w q k q' k' (.slice a1 n1 c1) (.slice a2 n2 c2) (.slice a3 n3 c3) (.slice a4 n4 c4))
  clear h h' hls hZ hR hn1 hn2 hn3 hn4
  have hD : (q = q' ∨ q ≠ q' ∧ (q == q') = false) ∧ (k = k' ∨ k ≠ k' ∧ (k == k') = false) := ⟨(Classical.em (q = q')).imp id (fun h => ⟨h, by simpa using h⟩), (Classical.em (k = k')).imp id (fun h => ⟨h, by simpa using h⟩)⟩
  obtain ⟨hq, hk⟩ := hD
  rcases hq with rfl | ⟨hq, hq2⟩ <;> rcases hk with rfl | ⟨hk, hk2⟩ <;> cases Z <;>
    (try rw [decide_eq_true rfl]
     try rw [decide_eq_false hq]
     try rw [decide_eq_false hk]
     go_enter Tryd.func14, Tryd.ntmps14
     go_wp2_with (first
      | (go_at_call 42; ((with_reducible refine (cZ _ (ba _ _)).mono ?_); rintro e w2 ⟨rfl, hb⟩; obtain ⟨bX, B0, B1⟩ := hX.out; have hb' := Lib.hid (bX.trans (hb.mono bX.size)); obtain ⟨_, x0, x1, x2, x3, _, _, _, _⟩ := B0.below hb; obtain ⟨_, y0, y1, y2, y3, _, _, _, _⟩ := B1.below hb; clear bX B0 B1 hb))
      | (go_at_call 43; ((with_reducible refine (cR _ hb'.out).mono ?_); rintro e w3 ⟨rfl, hb3⟩; have hb4 := Lib.hid (hb'.out.trans (hb3.mono hb'.out.size)))))
     go_ret
     first
      | exact ⟨rfl, hb4.out⟩
      | exact ⟨rfl, hb'.out⟩
      | exact ⟨rfl, ba _ _⟩)

set_option maxRecDepth 20000 in
set_option maxHeartbeats 8000000 in
theorem rlsame_any (q k q' k' : Int) (sl sc sl' sc' : Value) (ls ls' : IRow) (cs cs' : Row) (w : World) (h : LnAt w sl sc ls cs) (h' : LnAt w sl' sc' ls' cs') (hls : ls.length ≤ 50000) (hcs : cs.length ≤ 50000) :
    Calls Tryd.prog 15 #[.agg #[.int .i64 q, sl, .int .i64 k, sc], .agg #[.int .i64 q', sl', .int .i64 k', sc']] w fun e w' => e = .returned (.bool (sameL ⟨q, ls, k, cs⟩ ⟨q', ls', k', cs'⟩)) ∧ Below w.heap.size w w' := by
  obtain ⟨a1, c1, rfl⟩ := h.z.len
  obtain ⟨a2, c2, rfl⟩ := h.r.len
  obtain ⟨a3, c3, rfl⟩ := h'.z.len
  obtain ⟨a4, c4, rfl⟩ := h'.r.len
  have cZ : ∀ w1, Below w.heap.size w w1 → Calls Tryd.prog 44 #[.slice a1 ls.length c1, .slice a3 ls'.length c3] w1 fun e w' => e = .returned (.bool (sameZ ls ls')) ∧ Below w1.heap.size w1 w' := fun w1 h1 => rints_any _ _ ls ls' w1 (h.z.below h1) (h'.z.below h1) (by omega)
  have cR : ∀ w1, Below w.heap.size w w1 → Calls Tryd.prog 35 #[.slice a2 cs.length c2, .slice a4 cs'.length c4] w1 fun e w' => e = .returned (.bool (sameR cs cs')) ∧ Below w1.heap.size w1 w' := fun w1 h1 => rsame_any _ _ cs cs' w1 (h.r.below h1) (h'.r.below h1) (by omega)
  have ba : ∀ o p, Below w.heap.size w ((w.alloc o).alloc p) := fun o p => ((Below.refl _ w).alloc (Nat.le_refl _) _).alloc (by simp) _
  rw [sameL_is]
  obtain ⟨Z, hZ⟩ : ∃ Z, sameZ ls ls' = Z := ⟨_, rfl⟩
  obtain ⟨R, hR⟩ : ∃ R, sameR cs cs' = R := ⟨_, rfl⟩
  obtain ⟨n1, hn1⟩ : ∃ n, ls.length = n := ⟨_, rfl⟩
  obtain ⟨n2, hn2⟩ : ∃ n, cs.length = n := ⟨_, rfl⟩
  obtain ⟨n3, hn3⟩ : ∃ n, ls'.length = n := ⟨_, rfl⟩
  obtain ⟨n4, hn4⟩ : ∃ n, cs'.length = n := ⟨_, rfl⟩
  rw [hn1, hn3, hZ] at cZ
  rw [hn2, hn4, hR] at cR
  rw [hZ, hR, hn1, hn2, hn3, hn4]
  have hX := Lib.hid (box_two w q k q' k' (.slice a1 n1 c1) (.slice a2 n2 c2) (.slice a3 n3 c3) (.slice a4 n4 c4))
  clear h h' hls hcs hZ hR hn1 hn2 hn3 hn4
  have hD : (q = q' ∨ q ≠ q' ∧ (q == q') = false) ∧ (k = k' ∨ k ≠ k' ∧ (k == k') = false) := ⟨(Classical.em (q = q')).imp id (fun h => ⟨h, by simpa using h⟩), (Classical.em (k = k')).imp id (fun h => ⟨h, by simpa using h⟩)⟩
  obtain ⟨hq, hk⟩ := hD
  rcases hq with rfl | ⟨hq, hq2⟩ <;> rcases hk with rfl | ⟨hk, hk2⟩ <;> cases Z <;>
    (try rw [decide_eq_true rfl]
     try rw [decide_eq_false hq]
     try rw [decide_eq_false hk]
     go_enter Tryd.func15, Tryd.ntmps15
     go_wp2_with (first
      | (go_at_call 44; ((with_reducible refine (cZ _ (ba _ _)).mono ?_); rintro e w2 ⟨rfl, hb⟩; obtain ⟨bX, B0, B1⟩ := hX.out; have hb' := Lib.hid (bX.trans (hb.mono bX.size)); obtain ⟨_, x0, x1, x2, x3, _, _, _, _⟩ := B0.below hb; obtain ⟨_, y0, y1, y2, y3, _, _, _, _⟩ := B1.below hb; clear bX B0 B1 hb))
      | (go_at_call 35; ((with_reducible refine (cR _ hb'.out).mono ?_); rintro e w3 ⟨rfl, hb3⟩; have hb4 := Lib.hid (hb'.out.trans (hb3.mono hb'.out.size)))))
     go_ret
     first
      | exact ⟨rfl, hb4.out⟩
      | exact ⟨rfl, hb'.out⟩
      | exact ⟨rfl, ba _ _⟩)

end Go.Proofs.YtmlipcedkgfmiaaDoor
