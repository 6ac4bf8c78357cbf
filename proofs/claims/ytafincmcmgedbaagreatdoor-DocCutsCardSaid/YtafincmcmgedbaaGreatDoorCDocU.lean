/-
  The document's Size, End, Is, Clamp, Cmp.
-/
import Derived.Test.YtafincmcmgedbaaGreatDoorCDocC
import Derived.Laws.StructEq

namespace Go.Proofs.YtafincmcmgedbaaGreatDoor
open Go.RowKit Go.Lib

set_option maxRecDepth 20000 in
set_option maxHeartbeats 4000000 in
theorem rdsize_any (v : Value) (l : List Lw) (w : World) (h : SliceAt w v l) (hl : l.length ≤ 1000) (hz : sizeD (pl l) ≤ 1000000) :
    Calls Tryz.prog 16 #[v] w fun e w' => e = .returned (.int .i64 ((sizeD (pl l) : Nat) : Int)) ∧ Below w.heap.size w w' := by
  obtain ⟨a, c, rfl⟩ := h.len
  have V := Lib.hid h
  obtain ⟨T, hT⟩ : ∃ T, sizeD (pl l) = T := ⟨_, rfl⟩
  rw [hT] at hz ⊢
  obtain ⟨n, hn⟩ : ∃ n, l.length = n := ⟨_, rfl⟩
  rw [hn] at V hl ⊢
  have N := Lib.hid hn
  have HT := Lib.hid hT
  clear h hT hn
  go_enter Tryz.func16, Tryz.ntmps16
  go_wp2
  go_loopw [3, 4] (fun s i wr => ∃ (k m : Nat), k ≤ n ∧ i = .int .i64 k ∧ s = .int .i64 m ∧ m ≤ T ∧ Hid (sizeD ((pl l).take k) = m) ∧ Below w.heap.size w wr) (fun _ i _ => n - (RowKit.intOf i).toNat)
  case atStart => exact ⟨0, 0, Nat.zero_le _, rfl, rfl, Nat.zero_le _, Lib.hid rfl, Below.refl _ _⟩
  case round =>
    obtain ⟨k, m, hk, rfl, rfl, hm, HM, hb⟩ := hrel
    by_cases hlt : k < n
    · have hkl : k < l.length := by rw [N.out]; exact hlt
      obtain ⟨b, o, c2, e, hlc, hcm, hbl, hcs⟩ := V.out.lies (by omega)
      rw [N.out] at e hlc
      obtain ⟨rfl, _, rfl⟩ := Value.slice.inj e
      unfold maxLen at hcm
      obtain ⟨q, za, n1, zc, kk, ra, n2, rc, x0, x1, x2, x3, _, _, _, _, _, hn2⟩ := (hcs.below hbl hb).get hkl
      have hnx := sizeD_next (d := pl l) (i := k) (by rw [pl_length]; exact hkl)
      rw [cnt_pl hkl, hn2, HM.out] at hnx
      have hle := sizeD_take_le (pl l) (k + 1)
      rw [hnx, HT.out] at hle
      have HX := Lib.hid hnx
      have hbw : b < wr.heap.size := Nat.lt_of_lt_of_le hbl hb.size
      have hkI : (k : Int) < (n : Int) := by omega
      clear hnx hn2 hcs e HM hkl
      go_wp2
      go_roundw
      case rel => exact ⟨k + 1, m + n2, hlt, by go_num, by go_num, hle, HX, hb⟩
      case measure => simp [RowKit.intOf]; omega
    · have hkn : k = n := by omega
      subst hkn
      have hm2 : m = T := by rw [← HM.out, ← HT.out, List.take_of_length_le (by rw [pl_length, N.out]; omega)]
      subst hm2
      clear HM
      go_wp2
      go_ret
      exact ⟨rfl, hb⟩


set_option maxRecDepth 20000 in
set_option maxHeartbeats 4000000 in
theorem rdend_any (v : Value) (l : List Lw) (w : World) (h : SliceAt w v l) (hl : l.length ≤ 1000) :
    Calls Tryz.prog 18 #[v] w fun e w' => e = .returned (psV (endD (pl l))) ∧ Below w.heap.size w w' := by
  obtain ⟨a, c, rfl⟩ := h.len
  unfold endD
  rw [pl_length]
  by_cases h0 : l.length = 0
  · rw [if_pos h0, h0]
    clear h
    go_enter Tryz.func18, Tryz.ntmps18
    go_wp2
    exact bodyPost_ret (v := psV (0, 0)) (by simp [results, Tryz.results18, go_sem]) rfl ⟨rfl, by repeat (first | (with_reducible exact Below.refl _ _) | (with_reducible refine Below.setCell ?_ ?_ _) | (with_reducible refine Below.alloc ?_ ?_ _) | omega | (simp; done))⟩
  · rw [if_neg h0]
    obtain ⟨b, o, c2, e, hlc, hcm, hbl, hcs⟩ := h.lies (by omega)
    obtain ⟨rfl, _, rfl⟩ := Value.slice.inj e
    unfold maxLen at hcm
    have hkl : l.length - 1 < l.length := by omega
    obtain ⟨q, za, n1, zc, kk, ra, n2, rc, x0, x1, x2, x3, _, _, _, _, _, hn2⟩ := hcs.get hkl
    rw [cnt_pl hkl, hn2]
    obtain ⟨n, hn⟩ : ∃ n, l.length = n := ⟨_, rfl⟩
    rw [hn] at hl h0 x0 x1 x2 x3 hlc ⊢
    have e1 : (n : Int) - 1 = ((n - 1 : Nat) : Int) := by omega
    obtain ⟨m, hm⟩ : ∃ m, n - 1 = m := ⟨_, rfl⟩
    rw [hm] at x0 x1 x2 x3 e1 ⊢
    have hmn : m < n := by omega
    have hn0 : n = m + 1 := by omega
    clear h hcs e hkl hn hn2 hm h0
    subst hn0
    clear e1 hmn
    go_enter Tryz.func18, Tryz.ntmps18
    go_wp2
    exact bodyPost_ret (v := psV ((m : Int), (n2 : Int))) (by simp [results, Tryz.results18, go_sem]) rfl ⟨rfl, by repeat (first | (with_reducible exact Below.refl _ _) | (with_reducible refine Below.setCell ?_ ?_ _) | (with_reducible refine Below.alloc ?_ ?_ _) | omega | (simp; done))⟩


set_option maxRecDepth 20000 in
set_option maxHeartbeats 4000000 in
theorem rdis_any (v : Value) (l : List Lw) (p1 p2 : Int) (w : World) (h : SliceAt w v l) (_ : l.length ≤ 1000) (hc : ∀ k, k < l.length → cnt (pl l) k ≤ 1000000) :
    Calls Tryz.prog 20 #[v, psV (p1, p2)] w fun e w' => e = .returned (.bool (isD (pl l) (p1, p2))) ∧ Below w.heap.size w w' := by
  obtain ⟨a, c, rfl⟩ := h.len
  unfold isD psV
  dsimp only
  rw [pl_length]
  by_cases h1 : 0 ≤ p1
  · by_cases h2 : p1 < l.length
    · obtain ⟨k, rfl⟩ : ∃ k : Nat, p1 = k := ⟨p1.toNat, by omega⟩
      have hk : k < l.length := by omega
      obtain ⟨b, o, rfl, _, hlc, hcm, hbl, q, za, n1, zc, kk, ra, rc, x0, x1, x2, x3⟩ := slice_lies_cnt h hk
      unfold maxLen at hcm
      have hck := hc k hk
      rw [Int.toNat_natCast]
      obtain ⟨m, hm⟩ : ∃ m, cnt (pl l) k = m := ⟨_, rfl⟩
      rw [hm] at x3 hck ⊢
      obtain ⟨n, hn⟩ : ∃ n, l.length = n := ⟨_, rfl⟩
      rw [hn] at h2 hk hlc ⊢
      rw [decide_eq_true (show 0 ≤ (k : Int) ∧ (k : Int) < n from ⟨h1, h2⟩), Bool.true_and]
      have g1 : ¬ (k : Int) < 0 := by omega
      have g2 : ¬ (n : Int) ≤ (k : Int) := by omega
      clear h hc hm hn
      by_cases h3 : 0 ≤ p2
      · have e : decide (0 ≤ p2 ∧ p2 ≤ (m : Int)) = decide (p2 ≤ (m : Int)) := by simp [h3]
        rw [e]
        clear e
        go_enter Tryz.func20, Tryz.ntmps20
        go_wp2
        all_goals (try (go_quiet (fail)))
        all_goals (try go_wp2)
        all_goals go_ret
        all_goals exact ⟨ret_bool (by simp [*]), by first | exact below_alloc1 _ _ | exact (below_alloc1 _ _).trans ((below_draws _ 1).mono (by simp)) | exact (below_alloc1 _ _).trans ((below_draws _ _).mono (by simp))⟩
      · have e : decide (0 ≤ p2 ∧ p2 ≤ (m : Int)) = false := decide_eq_false (by omega)
        rw [e]
        have h3b : decide (0 ≤ p2) = false := decide_eq_false h3
        have h3c : p2 < 0 := by omega
        clear e
        go_enter Tryz.func20, Tryz.ntmps20
        go_wp2
        all_goals (try (go_quiet (fail)))
        all_goals (try go_wp2)
        all_goals go_ret
        all_goals exact ⟨ret_bool (by simp [*]), by first | exact below_alloc1 _ _ | exact (below_alloc1 _ _).trans ((below_draws _ 1).mono (by simp)) | exact (below_alloc1 _ _).trans ((below_draws _ _).mono (by simp))⟩
    · obtain ⟨n, hn⟩ : ∃ n, l.length = n := ⟨_, rfl⟩
      rw [hn] at h2 ⊢
      rw [decide_eq_false (show ¬ (0 ≤ p1 ∧ p1 < (n : Int)) by omega), Bool.false_and]
      have h2b : decide (p1 < (n : Int)) = false := decide_eq_false h2
      have h2c : (n : Int) ≤ p1 := by omega
      clear h hc hn
      go_enter Tryz.func20, Tryz.ntmps20
      go_wp2
      all_goals (try (go_quiet (fail)))
      all_goals (try go_wp2)
      all_goals go_ret
      all_goals exact ⟨ret_bool (by simp [*]), by first | exact below_alloc1 _ _ | exact (below_alloc1 _ _).trans ((below_draws _ 1).mono (by simp)) | exact (below_alloc1 _ _).trans ((below_draws _ _).mono (by simp))⟩
  · obtain ⟨n, hn⟩ : ∃ n, l.length = n := ⟨_, rfl⟩
    rw [hn]
    rw [decide_eq_false (show ¬ (0 ≤ p1 ∧ p1 < (n : Int)) by omega), Bool.false_and]
    have h1b : decide (0 ≤ p1) = false := decide_eq_false h1
    have h1c : p1 < 0 := by omega
    clear h hc hn
    go_enter Tryz.func20, Tryz.ntmps20
    go_wp2
    all_goals (try (go_quiet (fail)))
    all_goals (try go_wp2)
    all_goals go_ret
    all_goals exact ⟨ret_bool (by simp [*]), by first | exact below_alloc1 _ _ | exact (below_alloc1 _ _).trans ((below_draws _ 1).mono (by simp)) | exact (below_alloc1 _ _).trans ((below_draws _ _).mono (by simp))⟩



set_option maxRecDepth 20000 in
set_option maxHeartbeats 4000000 in
theorem rdclamp_any (v : Value) (l : List Lw) (p1 p2 : Int) (w : World) (h : SliceAt w v l) (hl : l.length ≤ 1000) (hc : ∀ k, k < l.length → cnt (pl l) k ≤ 1000000) :
    Calls Tryz.prog 22 #[v, psV (p1, p2)] w fun e w' => e = .returned (psV (clampD (pl l) (p1, p2))) ∧ Below w.heap.size w w' := by
  obtain ⟨a, c, rfl⟩ := h.len
  have cE : ∀ w1, Below w.heap.size w w1 → _ := fun w1 h1 => rdend_any _ l w1 (h.below h1) hl
  by_cases h0 : l.length = 0
  · rw [clampD_nil (by rw [pl_length]; exact h0), h0]
    unfold psV
    dsimp only
    clear h cE hc hl h0
    go_enter Tryz.func22, Tryz.ntmps22
    go_wp2
    exact bodyPost_ret (v := psV (0, 0)) (by simp [results, Tryz.results22, go_sem]) rfl ⟨rfl, by repeat (first | (with_reducible exact hX) | (exact (two_allocs _ _ _).trans ((below_draws _ _).mono (by simp; omega))) | (exact (two_allocs _ _ _).trans ((below_draws _ _).mono (by simp))) | (with_reducible exact two_allocs _ _ _) | (with_reducible refine Below.drew ?_) | (with_reducible refine Below.setCell ?_ ?_ _) | (with_reducible refine Below.alloc ?_ ?_ _) | exact Nat.le_refl _ | exact Nat.le_succ _ | omega | (simp; done) | (simp; omega))⟩
  have hnz : ¬ (l.length : Int) = 0 := by omega
  have hnb : ((l.length : Int) == 0) = false := by simpa using hnz
  unfold clampD psV
  unfold psV at cE
  dsimp only
  rw [pl_length]
  by_cases h1 : p1 < 0
  · rw [if_pos h1]
    obtain ⟨n, hn⟩ : ∃ n, l.length = n := ⟨_, rfl⟩
    rw [hn] at hnz hnb ⊢
    clear h cE hc hl h0 hn
    go_enter Tryz.func22, Tryz.ntmps22
    go_wp2
    exact bodyPost_ret (v := psV (0, 0)) (by simp [results, Tryz.results22, go_sem]) rfl ⟨rfl, by repeat (first | (with_reducible exact hX) | (exact (two_allocs _ _ _).trans ((below_draws _ _).mono (by simp; omega))) | (exact (two_allocs _ _ _).trans ((below_draws _ _).mono (by simp))) | (with_reducible exact two_allocs _ _ _) | (with_reducible refine Below.drew ?_) | (with_reducible refine Below.setCell ?_ ?_ _) | (with_reducible refine Below.alloc ?_ ?_ _) | exact Nat.le_refl _ | exact Nat.le_succ _ | omega | (simp; done) | (simp; omega))⟩
  · rw [if_neg h1]
    by_cases h2 : (l.length : Int) ≤ p1
    · rw [if_pos h2]
      obtain ⟨⟨E1, E2⟩, hE⟩ : ∃ E, endD (pl l) = E := ⟨_, rfl⟩
      rw [hE] at cE ⊢
      dsimp only at cE ⊢
      obtain ⟨n, hn⟩ : ∃ n, l.length = n := ⟨_, rfl⟩
      rw [hn] at hl h2 cE hnz hnb ⊢
      clear h hE hc hn h0
      have hX0 := Lib.hid (two_allocs w (.cells #[.int .i64 p1, .int .i64 p2] 24) (.cells #[.int .i64 0, .int .i64 0] 24))
      have hP := Lib.hid (ps_new (w.alloc (.cells #[.int .i64 p1, .int .i64 p2] 24)) 0 0)
      have hs2 : (w.alloc (.cells #[.int .i64 p1, .int .i64 p2] 24)).heap.size = w.heap.size + 1 := by simp
      rw [hs2] at hP
      clear hs2
      go_enter Tryz.func22, Tryz.ntmps22
      go_wp2_with (go_at_call 18; ((with_reducible refine (cE _ hX0.out).mono ?_); rintro e w2 ⟨rfl, hb⟩; obtain ⟨lt2, y0, y1, z0, z1⟩ := hP.out.below hb; have hX := hX0.out.trans (hb.mono (by simp; omega))))
      exact bodyPost_ret (v := psV (E1, E2)) (by simp [results, Tryz.results22, go_sem, *]) rfl ⟨rfl, by repeat (first | (with_reducible exact hX) | (exact (two_allocs _ _ _).trans ((below_draws _ _).mono (by simp; omega))) | (exact (two_allocs _ _ _).trans ((below_draws _ _).mono (by simp))) | (with_reducible exact two_allocs _ _ _) | (with_reducible refine Below.drew ?_) | (with_reducible refine Below.setCell ?_ ?_ _) | (with_reducible refine Below.alloc ?_ ?_ _) | exact Nat.le_refl _ | exact Nat.le_succ _ | omega | (simp; done) | (simp; omega))⟩
    · rw [if_neg h2]
      obtain ⟨k, rfl⟩ : ∃ k : Nat, p1 = k := ⟨p1.toNat, by omega⟩
      have hk : k < l.length := by omega
      obtain ⟨b, o, rfl, _, hlc, hcm, hbl, q, za, n1, zc, kk, ra, rc, x0, x1, x2, x3⟩ := slice_lies_cnt h hk
      unfold maxLen at hcm
      have hck := hc k hk
      rw [Int.toNat_natCast]
      obtain ⟨m, hm⟩ : ∃ m, cnt (pl l) k = m := ⟨_, rfl⟩
      rw [hm] at x3 hck ⊢
      obtain ⟨n, hn⟩ : ∃ n, l.length = n := ⟨_, rfl⟩
      rw [hn] at hl h2 hk hlc hnz hnb ⊢
      have h3 : (k : Int) < (n : Int) := by omega
      clear h hc hm hn cE h2 h0 hl
      have hbn : ¬ b = w.heap.size := by omega
      rcases (show p2 < 0 ∨ (0 ≤ p2 ∧ p2 ≤ m) ∨ (m : Int) < p2 by omega) with g | ⟨g, g'⟩ | g
      · rw [show min (max p2 0) (m : Int) = 0 by omega]
        have gm : ¬ (m : Int) < 0 := by omega
        go_enter Tryz.func22, Tryz.ntmps22
        go_wp2
        go_quiet (fail)
        go_wp2
        exact bodyPost_ret (v := psV ((k : Int), 0)) (by simp [results, Tryz.results22, go_sem, *]) rfl ⟨rfl, by repeat (first | (with_reducible exact hX) | (exact (two_allocs _ _ _).trans ((below_draws _ _).mono (by simp; omega))) | (exact (two_allocs _ _ _).trans ((below_draws _ _).mono (by simp))) | (with_reducible exact two_allocs _ _ _) | (with_reducible refine Below.drew ?_) | (with_reducible refine Below.setCell ?_ ?_ _) | (with_reducible refine Below.alloc ?_ ?_ _) | exact Nat.le_refl _ | exact Nat.le_succ _ | omega | (simp; done) | (simp; omega))⟩
      · rw [show min (max p2 0) (m : Int) = p2 by omega]
        have gm : ¬ (m : Int) < p2 := by omega
        have g0 : ¬ p2 < 0 := by omega
        go_enter Tryz.func22, Tryz.ntmps22
        go_wp2
        go_quiet (fail)
        go_wp2
        exact bodyPost_ret (v := psV ((k : Int), p2)) (by simp [results, Tryz.results22, go_sem, *]) rfl ⟨rfl, by repeat (first | (with_reducible exact hX) | (exact (two_allocs _ _ _).trans ((below_draws _ _).mono (by simp; omega))) | (exact (two_allocs _ _ _).trans ((below_draws _ _).mono (by simp))) | (with_reducible exact two_allocs _ _ _) | (with_reducible refine Below.drew ?_) | (with_reducible refine Below.setCell ?_ ?_ _) | (with_reducible refine Below.alloc ?_ ?_ _) | exact Nat.le_refl _ | exact Nat.le_succ _ | omega | (simp; done) | (simp; omega))⟩
      · rw [show min (max p2 0) (m : Int) = m by omega]
        have g0 : ¬ p2 < 0 := by omega
        go_enter Tryz.func22, Tryz.ntmps22
        go_wp2
        go_quiet (fail)
        go_wp2
        exact bodyPost_ret (v := psV ((k : Int), (m : Int))) (by simp [results, Tryz.results22, go_sem, *]) rfl ⟨rfl, by repeat (first | (with_reducible exact hX) | (exact (two_allocs _ _ _).trans ((below_draws _ _).mono (by simp; omega))) | (exact (two_allocs _ _ _).trans ((below_draws _ _).mono (by simp))) | (with_reducible exact two_allocs _ _ _) | (with_reducible refine Below.drew ?_) | (with_reducible refine Below.setCell ?_ ?_ _) | (with_reducible refine Below.alloc ?_ ?_ _) | exact Nat.le_refl _ | exact Nat.le_succ _ | omega | (simp; done) | (simp; omega))⟩

set_option maxRecDepth 20000 in
set_option maxHeartbeats 4000000 in
theorem rdcmp_any (p1 p2 q1 q2 : Int) (w : World) :
    Calls Tryz.prog 24 #[psV (p1, p2), psV (q1, q2)] w fun e w' => e = .returned (.int .i64 (cmpP (p1, p2) (q1, q2))) ∧ Below w.heap.size w w' := by
  have hp : Tryz.prog.stoodInHeld 24 = false := by kernel_rfl
  have hS : Tryz.prog.underlying 24 = some (.struct (Tryz.prog.fieldsOf 24)) := by kernel_rfl
  have hq : ∀ (a b c d : Int) (W : World), (binOp .eql 24 (.agg #[.int .i64 a, .int .i64 b]) (.agg #[.int .i64 c, .int .i64 d])).run Tryz.prog W = .ok (.bool (decide (a = c) && decide (b = d))) W := fun a b c d W => by
    rw [run_eql_struct, show (10000 : Nat) = 9999 + 1 from rfl, run_equalIn_agg W 9999 24 _ _ hS hp]
    simp only [Program.fieldsOf, Tryz.underlying24]
    go_simp
    by_cases k1 : a = c <;> by_cases k2 : b = d <;> simp_all
  have hm : Tryz.prog.eqGuardType Tryz.prog.depth 24 = false := by kernel_rfl
  clear hp hS
  have hX := two_allocs w (.cells #[.int .i64 p1, .int .i64 p2] 24) (.cells #[.int .i64 q1, .int .i64 q2] 24)
  have HX := Lib.hid hX
  clear hX
  have hC : (p1 = q1 ∧ p2 = q2 ∧ cmpP (p1, p2) (q1, q2) = 0) ∨ (p1 < q1 ∧ cmpP (p1, p2) (q1, q2) = -1) ∨ (p1 = q1 ∧ p2 < q2 ∧ cmpP (p1, p2) (q1, q2) = -1) ∨ (p1 = q1 ∧ q2 < p2 ∧ cmpP (p1, p2) (q1, q2) = 1) ∨ (q1 < p1 ∧ cmpP (p1, p2) (q1, q2) = 1) := by
    unfold cmpP cmpI
    dsimp only
    rcases Int.lt_trichotomy p1 q1 with a | a | a
    · refine .inr (.inl ⟨a, ?_⟩); simp [a]
    · rcases Int.lt_trichotomy p2 q2 with b | b | b
      · refine .inr (.inr (.inl ⟨a, b, ?_⟩)); simp [a, b]
      · refine .inl ⟨a, b, ?_⟩; simp [a, b]
      · refine .inr (.inr (.inr (.inl ⟨a, b, ?_⟩))); subst a; simp [show ¬ p2 < q2 by omega, show ¬ p2 = q2 by omega]
    · refine .inr (.inr (.inr (.inr ⟨a, ?_⟩))); simp [show ¬ p1 < q1 by omega, show ¬ p1 = q1 by omega]
  obtain ⟨C, hCv⟩ : ∃ C, cmpP (p1, p2) (q1, q2) = C := ⟨_, rfl⟩
  rw [hCv] at hC ⊢
  clear hCv
  unfold psV
  dsimp only
  rcases hC with ⟨rfl, rfl, rfl⟩ | ⟨a, rfl⟩ | ⟨rfl, a, rfl⟩ | ⟨rfl, a, rfl⟩ | ⟨a, rfl⟩
  · go_enter Tryz.func24, Tryz.ntmps24
    go_wp2
    go_ret
    exact ⟨rfl, HX.out⟩
  · have e1 : decide (p1 = q1) = false := decide_eq_false (by omega)
    go_enter Tryz.func24, Tryz.ntmps24
    go_wp2
    go_ret
    exact ⟨rfl, HX.out⟩
  · have e1 : decide (p2 = q2) = false := decide_eq_false (by omega)
    have e2 : ¬ p2 = q2 := by omega
    go_enter Tryz.func24, Tryz.ntmps24
    go_wp2
    go_ret
    exact ⟨rfl, HX.out⟩
  · have e1 : decide (p2 = q2) = false := decide_eq_false (by omega)
    have e2 : ¬ p2 = q2 := by omega
    have e3 : ¬ p2 < q2 := by omega
    go_enter Tryz.func24, Tryz.ntmps24
    go_wp2
    go_ret
    exact ⟨rfl, HX.out⟩
  · have e1 : decide (p1 = q1) = false := decide_eq_false (by omega)
    have e2 : ¬ p1 = q1 := by omega
    have e3 : ¬ p1 < q1 := by omega
    have e4 : (p1 == q1) = false := by simpa using e2
    go_enter Tryz.func24, Tryz.ntmps24
    go_wp2
    go_ret
    exact ⟨rfl, HX.out⟩

end Go.Proofs.YtafincmcmgedbaaGreatDoor
