/-
  The program's Size, End, Is, Clamp, At.
  The program's Is, Clamp, At.
-/
import Derived.Test.YtafincmcmgedbaaGreatDoorCAppG
import Derived.Deep.QuietTactic
import Derived.BigQuiet
import Derived.StillTailTactics

namespace Go.Proofs.YtafincmcmgedbaaGreatDoor
open Go.RowKit Go.Lib

abbrev psV (p : Ps) : Value := .agg #[.int .i64 p.1, .int .i64 p.2]
/-- What is read of a line that lies. -/
theorem LinesIn.get {w : World} {b o : Nat} {l : List Lw} (h : LinesIn w b o l) {j : Nat} (hj : j < l.length) :
    ∃ q za n1 zc k ra n2 rc, w.cell? ⟨b, o + j * 4, none⟩ = some (.int .i64 q) ∧ w.cell? ⟨b, o + j * 4 + 1, none⟩ = some (.slice za n1 zc) ∧ w.cell? ⟨b, o + j * 4 + 2, none⟩ = some (.int .i64 k) ∧ w.cell? ⟨b, o + j * 4 + 3, none⟩ = some (.slice ra n2 rc) ∧
      (l[j]!).ln.q = q ∧ (l[j]!).sl = .slice za n1 zc ∧ (l[j]!).ln.k = k ∧ (l[j]!).sc = .slice ra n2 rc ∧ (l[j]!).ln.ls.length = n1 ∧ (l[j]!).ln.cs.length = n2 := by
  obtain ⟨h1, h2, h3, h4⟩ := h j hj
  exact ⟨_, _, _, _, _, _, _, _, h1, h2, h3, h4, rfl, rfl, rfl, rfl, rfl, rfl⟩
theorem cnt_pl {l : List Lw} {j : Nat} (h : j < l.length) : cnt (pl l) j = (l[j]!).ln.cs.length := by unfold cnt; rw [pl_get l j h]
theorem below_alloc1 (w : World) (o : Obj) : Below w.heap.size w (w.alloc o) := (Below.refl _ w).alloc (Nat.le_refl _) _

set_option maxHeartbeats 4000000 in
theorem dsize_any (v : Value) (l : List Lw) (w : World) (h : SliceAt w v l) (hl : l.length ≤ 1000) (hz : sizeD (pl l) ≤ 1000000) :
    Calls Tryz.prog 15 #[v] w fun e w' => e = .returned (.int .i64 ((sizeD (pl l) : Nat) : Int)) ∧ Below w.heap.size w w' := by
  obtain ⟨a, c, rfl⟩ := h.len
  have V := Lib.hid h
  obtain ⟨T, hT⟩ : ∃ T, sizeD (pl l) = T := ⟨_, rfl⟩
  rw [hT] at hz ⊢
  obtain ⟨n, hn⟩ : ∃ n, l.length = n := ⟨_, rfl⟩
  rw [hn] at V hl ⊢
  have N := Lib.hid hn
  have HT := Lib.hid hT
  clear h hT hn
  go_enter Tryz.func15, Tryz.ntmps15
  go_wp2
  go_loopw [3, 5, 8] (fun s _ i wr => ∃ (k m : Nat), k ≤ n ∧ i = .int .i64 k ∧ s = .int .i64 m ∧ m ≤ T ∧ Hid (sizeD ((pl l).take k) = m) ∧ Below w.heap.size w wr) (fun _ _ i _ => n - (RowKit.intOf i).toNat)
  case atStart => exact ⟨0, 0, Nat.zero_le _, rfl, rfl, Nat.zero_le _, Lib.hid rfl, Below.refl _ _⟩
  case round =>
    obtain ⟨k, m, hk, rfl, rfl, hm, HM, hb⟩ := hrel
    by_cases hlt : k < n
    · have hkl : k < l.length := by rw [N.out]; exact hlt
      obtain ⟨b, o, c2, e, hlc, hcm, hbl, hcs⟩ := V.out.lies (by omega)
      rw [N.out] at e hlc
      obtain ⟨rfl, _, rfl⟩ := Value.slice.inj e
      unfold maxLen at hcm
      obtain ⟨q, za, n1, zc, kk, ra, n2, rc, x0, x1, x2, x3, _, _, _, _, _, hn2⟩ := (hcs.below hbl hb).get hkl
      have hnx := sizeD_next (d := pl l) (i := k) (by rw [pl_length]; exact hkl)
      rw [cnt_pl hkl, hn2, HM.out] at hnx
      have hle := sizeD_take_le (pl l) (k + 1)
      rw [hnx, HT.out] at hle
      have HX := Lib.hid hnx
      have hbw : b < wr.heap.size := Nat.lt_of_lt_of_le hbl hb.size
      have hkI : (k : Int) < (n : Int) := by omega
      clear hnx hn2 hcs e HM hkl
      go_wp2
      go_roundw
      case rel => exact ⟨k + 1, m + n2, hlt, by go_num, by go_num, hle, HX, hb.alloc hb.size _⟩
      case measure => simp [RowKit.intOf]; omega
    · have hkn : k = n := by omega
      subst hkn
      have hm2 : m = T := by rw [← HM.out, ← HT.out, List.take_of_length_le (by rw [pl_length, N.out]; omega)]
      subst hm2
      clear HM
      go_wp2
      go_ret
      exact ⟨rfl, hb⟩

set_option maxHeartbeats 4000000 in
theorem dend_any (v : Value) (l : List Lw) (w : World) (h : SliceAt w v l) (hl : l.length ≤ 1000) :
    Calls Tryz.prog 17 #[v] w fun e w' => e = .returned (psV (endD (pl l))) ∧ Below w.heap.size w w' := by
  obtain ⟨a, c, rfl⟩ := h.len
  unfold endD
  rw [pl_length]
  by_cases h0 : l.length = 0
  · rw [if_pos h0, h0]
    clear h
    go_enter Tryz.func17, Tryz.ntmps17
    go_wp2
    exact bodyPost_ret (v := psV (0, 0)) (by simp [results, Tryz.results17, go_sem]) rfl ⟨rfl, by repeat (first | (with_reducible exact Below.refl _ _) | (with_reducible refine Below.setCell ?_ ?_ _) | (with_reducible refine Below.alloc ?_ ?_ _) | omega | (simp; done))⟩
  · rw [if_neg h0]
    obtain ⟨b, o, c2, e, hlc, hcm, hbl, hcs⟩ := h.lies (by omega)
    obtain ⟨rfl, _, rfl⟩ := Value.slice.inj e
    unfold maxLen at hcm
    have hkl : l.length - 1 < l.length := by omega
    obtain ⟨q, za, n1, zc, kk, ra, n2, rc, x0, x1, x2, x3, _, _, _, _, _, hn2⟩ := hcs.get hkl
    rw [cnt_pl hkl, hn2]
    obtain ⟨n, hn⟩ : ∃ n, l.length = n := ⟨_, rfl⟩
    rw [hn] at hl h0 x0 x1 x2 x3 hlc ⊢
    have e1 : (n : Int) - 1 = ((n - 1 : Nat) : Int) := by omega
    obtain ⟨m, hm⟩ : ∃ m, n - 1 = m := ⟨_, rfl⟩
    rw [hm] at x0 x1 x2 x3 e1 ⊢
    have hmn : m < n := by omega
    have hn0 : n = m + 1 := by omega
    clear h hcs e hkl hn hn2 hm h0
    subst hn0
    clear e1 hmn
    go_enter Tryz.func17, Tryz.ntmps17
    go_wp2
    exact bodyPost_ret (v := psV ((m : Int), (n2 : Int))) (by simp [results, Tryz.results17, go_sem]) rfl ⟨rfl, by repeat (first | (with_reducible exact Below.refl _ _) | (with_reducible refine Below.setCell ?_ ?_ _) | (with_reducible refine Below.alloc ?_ ?_ _) | omega | (simp; done))⟩

end Go.Proofs.YtafincmcmgedbaaGreatDoor

namespace Go.Proofs.YtafincmcmgedbaaGreatDoor
open Go.RowKit Go.Lib

theorem slice_lies_cnt {w : World} {a : Option Addr} {n c : Nat} {l : List Lw} (h : SliceAt w (.slice a n c) l) {k : Nat} (hk : k < l.length) :
    ∃ b o, a = some ⟨b, o, none⟩ ∧ n = l.length ∧ n ≤ c ∧ c ≤ maxLen ∧ b < w.heap.size ∧ ∃ q za n1 zc kk ra rc, w.cell? ⟨b, o + k * 4, none⟩ = some (.int .i64 q) ∧ w.cell? ⟨b, o + k * 4 + 1, none⟩ = some (.slice za n1 zc) ∧ w.cell? ⟨b, o + k * 4 + 2, none⟩ = some (.int .i64 kk) ∧ w.cell? ⟨b, o + k * 4 + 3, none⟩ = some (.slice ra (cnt (pl l) k) rc) := by
  obtain ⟨b, o, c2, e, hlc, hcm, hbl, hcs⟩ := h.lies (by omega)
  obtain ⟨rfl, rfl, rfl⟩ := Value.slice.inj e
  obtain ⟨q, za, n1, zc, kk, ra, n2, rc, x0, x1, x2, x3, _, _, _, _, _, hn2⟩ := hcs.get hk
  rw [← hn2] at x3
  exact ⟨b, o, rfl, rfl, hlc, hcm, hbl, q, za, n1, zc, kk, ra, rc, x0, x1, x2, by rw [cnt_pl hk]; exact x3⟩

set_option maxHeartbeats 4000000 in
theorem dis_any (v : Value) (l : List Lw) (p1 p2 : Int) (w : World) (h : SliceAt w v l) (_ : l.length ≤ 1000) (hc : ∀ k, k < l.length → cnt (pl l) k ≤ 1000000) :
    Calls Tryz.prog 19 #[v, psV (p1, p2)] w fun e w' => e = .returned (.bool (isD (pl l) (p1, p2))) ∧ Below w.heap.size w w' := by
  obtain ⟨a, c, rfl⟩ := h.len
  unfold isD psV
  dsimp only
  rw [pl_length]
  by_cases h1 : 0 ≤ p1
  · by_cases h2 : p1 < l.length
    · obtain ⟨k, rfl⟩ : ∃ k : Nat, p1 = k := ⟨p1.toNat, by omega⟩
      have hk : k < l.length := by omega
      obtain ⟨b, o, rfl, _, hlc, hcm, hbl, q, za, n1, zc, kk, ra, rc, x0, x1, x2, x3⟩ := slice_lies_cnt h hk
      unfold maxLen at hcm
      have hck := hc k hk
      rw [Int.toNat_natCast]
      obtain ⟨m, hm⟩ : ∃ m, cnt (pl l) k = m := ⟨_, rfl⟩
      rw [hm] at x3 hck ⊢
      obtain ⟨n, hn⟩ : ∃ n, l.length = n := ⟨_, rfl⟩
      rw [hn] at h2 hk hlc ⊢
      rw [decide_eq_true (show 0 ≤ (k : Int) ∧ (k : Int) < n from ⟨h1, h2⟩), Bool.true_and]
      clear h hc hm hn
      by_cases h3 : 0 ≤ p2
      · have e : decide (0 ≤ p2 ∧ p2 ≤ (m : Int)) = decide (p2 ≤ (m : Int)) := by simp [h3]
        rw [e]
        clear e
        go_enter Tryz.func19, Tryz.ntmps19
        go_wp2
        all_goals (try (go_quiet (fail)))
        all_goals (try go_wp2)
        all_goals go_ret
        all_goals exact ⟨ret_bool (by simp [*]), by first | exact below_alloc1 _ _ | exact (below_alloc1 _ _).trans ((below_draws _ _).mono (by simp))⟩
      · have e : decide (0 ≤ p2 ∧ p2 ≤ (m : Int)) = false := decide_eq_false (by omega)
        rw [e]
        have h3b : decide (0 ≤ p2) = false := decide_eq_false h3
        have h3c : p2 < 0 := by omega
        clear e
        go_enter Tryz.func19, Tryz.ntmps19
        go_wp2
        all_goals (try (go_quiet (fail)))
        all_goals (try go_wp2)
        all_goals go_ret
        all_goals exact ⟨ret_bool (by simp [*]), by first | exact below_alloc1 _ _ | exact (below_alloc1 _ _).trans ((below_draws _ _).mono (by simp))⟩
    · obtain ⟨n, hn⟩ : ∃ n, l.length = n := ⟨_, rfl⟩
      rw [hn] at h2 ⊢
      rw [decide_eq_false (show ¬ (0 ≤ p1 ∧ p1 < (n : Int)) by omega), Bool.false_and]
      have h2b : decide (p1 < (n : Int)) = false := decide_eq_false h2
      have h2c : (n : Int) ≤ p1 := by omega
      clear h hc hn
      go_enter Tryz.func19, Tryz.ntmps19
      go_wp2
      all_goals (try (go_quiet (fail)))
      all_goals (try go_wp2)
      all_goals go_ret
      all_goals exact ⟨ret_bool (by simp [*]), by first | exact below_alloc1 _ _ | exact (below_alloc1 _ _).trans ((below_draws _ _).mono (by simp))⟩
  · obtain ⟨n, hn⟩ : ∃ n, l.length = n := ⟨_, rfl⟩
    rw [hn]
    rw [decide_eq_false (show ¬ (0 ≤ p1 ∧ p1 < (n : Int)) by omega), Bool.false_and]
    have h1b : decide (0 ≤ p1) = false := decide_eq_false h1
    have h1c : p1 < 0 := by omega
    clear h hc hn
    go_enter Tryz.func19, Tryz.ntmps19
    go_wp2
    all_goals (try (go_quiet (fail)))
    all_goals (try go_wp2)
    all_goals go_ret
    all_goals exact ⟨ret_bool (by simp [*]), by first | exact below_alloc1 _ _ | exact (below_alloc1 _ _).trans ((below_draws _ _).mono (by simp))⟩

/-- A place lies in block b. -/
structure PsAt (w : World) (b : Nat) (p1 p2 : Int) : Prop where
  lt : b < w.heap.size
  c0 : w.cell? ⟨b, 0, none⟩ = some (.int .i64 p1)
  c1 : w.cell? ⟨b, 1, none⟩ = some (.int .i64 p2)
  f0 : w.frozen? ⟨b, 0, none⟩ = false
  f1 : w.frozen? ⟨b, 1, none⟩ = false
theorem PsAt.below {w w' : World} {b : Nat} {p1 p2 : Int} (h : PsAt w b p1 p2) (hb : Below w.heap.size w w') : PsAt w' b p1 p2 :=
  ⟨Nat.lt_of_lt_of_le h.lt hb.size, (hb.cell (p := ⟨b, 0, none⟩) h.lt).trans h.c0, (hb.cell (p := ⟨b, 1, none⟩) h.lt).trans h.c1, (hb.frozen (p := ⟨b, 0, none⟩) h.lt).trans h.f0, (hb.frozen (p := ⟨b, 1, none⟩) h.lt).trans h.f1⟩
theorem ps_new (w : World) (p1 p2 : Int) : PsAt (w.alloc (.cells #[.int .i64 p1, .int .i64 p2] 24)) w.heap.size p1 p2 := by
  constructor <;> simp [go_sem]
theorem two_allocs (w : World) (o p : Obj) : Below w.heap.size w ((w.alloc o).alloc p) := ((Below.refl _ w).alloc (Nat.le_refl _) _).alloc (by simp) _

set_option maxRecDepth 20000 in
set_option maxHeartbeats 4000000 in
theorem dclamp_any (v : Value) (l : List Lw) (p1 p2 : Int) (w : World) (h : SliceAt w v l) (hl : l.length ≤ 1000) (hc : ∀ k, k < l.length → cnt (pl l) k ≤ 1000000) :
    Calls Tryz.prog 21 #[v, psV (p1, p2)] w fun e w' => e = .returned (psV (clampD (pl l) (p1, p2))) ∧ Below w.heap.size w w' := by
  obtain ⟨a, c, rfl⟩ := h.len
  have cE : ∀ w1, Below w.heap.size w w1 → Calls Tryz.prog 17 #[.slice a l.length c] w1 fun e w' => e = .returned (psV (endD (pl l))) ∧ Below w1.heap.size w1 w' := fun w1 h1 => dend_any _ l w1 (h.below h1) hl
  obtain ⟨E, hE⟩ : ∃ E, endD (pl l) = E := ⟨_, rfl⟩
  unfold clampD psV
  unfold psV at cE
  rw [hE] at cE ⊢
  obtain ⟨E1, E2⟩ := E
  dsimp only at cE ⊢
  rw [pl_length]
  by_cases h1 : p1 < 0
  · rw [if_pos h1]
    clear h hE cE hc hl
    go_enter Tryz.func21, Tryz.ntmps21
    go_wp2
    exact bodyPost_ret (v := psV (0, 0)) (by simp [results, Tryz.results21, go_sem]) rfl ⟨rfl, by repeat (first | (with_reducible exact two_allocs _ _ _) | (with_reducible refine Below.setCell ?_ ?_ _) | (with_reducible refine Below.alloc ?_ ?_ _) | exact Nat.le_refl _ | exact Nat.le_succ _ | omega | (simp; done) | (simp; omega))⟩
  · rw [if_neg h1]
    by_cases h2 : (l.length : Int) ≤ p1
    · rw [if_pos h2]
      obtain ⟨n, hn⟩ : ∃ n, l.length = n := ⟨_, rfl⟩
      rw [hn] at hl h2 cE ⊢
      clear h hE hc hn
      have hX := Lib.hid (two_allocs w (.cells #[.int .i64 p1, .int .i64 p2] 24) (.cells #[.int .i64 0, .int .i64 0] 24))
      have hP := Lib.hid (ps_new (w.alloc (.cells #[.int .i64 p1, .int .i64 p2] 24)) 0 0)
      have hs2 : (w.alloc (.cells #[.int .i64 p1, .int .i64 p2] 24)).heap.size = w.heap.size + 1 := by simp
      rw [hs2] at hP
      clear hs2
      go_enter Tryz.func21, Tryz.ntmps21
      go_wp2_with (go_at_call 17; ((with_reducible refine (cE _ hX.out).mono ?_); rintro e w2 ⟨rfl, hb⟩; obtain ⟨lt2, y0, y1, z0, z1⟩ := hP.out.below hb; have hb' := Lib.hid (hX.out.trans (hb.mono (by simp; omega)))))
      exact bodyPost_ret (v := psV (E1, E2)) (by simp [results, Tryz.results21, go_sem, *]) rfl ⟨rfl, by repeat (first | (with_reducible exact hb'.out) | (with_reducible refine Below.setCell ?_ ?_ _) | (with_reducible refine Below.alloc ?_ ?_ _) | exact Nat.le_refl _ | exact Nat.le_succ _ | omega | (simp; done) | (simp; omega))⟩
    · rw [if_neg h2]
      obtain ⟨k, rfl⟩ : ∃ k : Nat, p1 = k := ⟨p1.toNat, by omega⟩
      have hk : k < l.length := by omega
      obtain ⟨b, o, rfl, _, hlc, hcm, hbl, q, za, n1, zc, kk, ra, rc, x0, x1, x2, x3⟩ := slice_lies_cnt h hk
      unfold maxLen at hcm
      have hck := hc k hk
      rw [Int.toNat_natCast]
      obtain ⟨m, hm⟩ : ∃ m, cnt (pl l) k = m := ⟨_, rfl⟩
      rw [hm] at x3 hck ⊢
      obtain ⟨n, hn⟩ : ∃ n, l.length = n := ⟨_, rfl⟩
      rw [hn] at hl h2 hk hlc ⊢
      have h3 : (k : Int) < (n : Int) := by omega
      clear h hc hm hn cE hE h2
      have hP0 := (ps_new w (k : Int) p2).below (below_alloc1 _ (.cells #[.int .i64 0, .int .i64 0] 24))
      have hP1 := ps_new (w.alloc (.cells #[.int .i64 (k : Int), .int .i64 p2] 24)) 0 0
      rw [show (w.alloc (.cells #[.int .i64 (k : Int), .int .i64 p2] 24)).heap.size = w.heap.size + 1 by simp] at hP1
      have hX := two_allocs w (.cells #[.int .i64 (k : Int), .int .i64 p2] 24) (.cells #[.int .i64 0, .int .i64 0] 24)
      have x3' := (hX.cell (p := ⟨b, o + k * 4 + 3, none⟩) hbl).trans x3
      have P := Lib.hid (And.intro hP0 (And.intro hP1 (And.intro hX x3')))
      clear hP0 hP1 hX x3'
      go_enter Tryz.func21, Tryz.ntmps21
      go_wp2
      obtain ⟨W, hW⟩ : ∃ W, (w.alloc (.cells #[.int .i64 (k : Int), .int .i64 p2] 24)).alloc (.cells #[.int .i64 0, .int .i64 0] 24) = W := ⟨_, rfl⟩
      rw [hW] at P ⊢
      obtain ⟨⟨l0, y0, y1, f0, f1⟩, ⟨l1, z0, z1, g0, g1⟩, hX, x3'⟩ := P.out
      clear P hW x0 x1 x2 x3
      have HX := Lib.hid hX
      clear hX
      go_still_tail 12, (by kernel_rfl)
      change wpList _ _ _ _ _ W.drew
      go_wp2
      exact bodyPost_ret (v := psV ((k : Int), min (max p2 0) (m : Int))) (by simp [results, Tryz.results21, go_sem, *]) rfl ⟨rfl, by repeat (first | (with_reducible exact HX.out) | (with_reducible refine Below.drew ?_) | (with_reducible refine Below.setCell ?_ ?_ _) | (with_reducible refine Below.alloc ?_ ?_ _) | exact Nat.le_refl _ | exact Nat.le_succ _ | omega | (simp; done) | (simp; omega))⟩

/-! ### At -/
def errZ (r : Ps × Int) : Value := .tuple #[psV r.1, .int .i64 r.2]
theorem at_step {d : Doc} {k : Nat} (hk : k < d.length) (n : Int) : atL (d.drop k) k n = if n ≤ cnt d k then (((k : Int), n), 0) else atL (d.drop (k + 1)) (k + 1) (n - (cnt d k + 1)) := by
  have e : d.drop k = d[k]! :: d.drop (k + 1) := by
    rw [List.drop_eq_getElem_cons hk, List.getElem!_eq_getElem?_getD, List.getElem?_eq_getElem hk]; rfl
  rw [e]
  rfl

set_option maxHeartbeats 4000000 in
theorem dat_any (v : Value) (l : List Lw) (z : Int) (w : World) (h : SliceAt w v l) (hl : l.length ≤ 1000) (hc : ∀ k, k < l.length → cnt (pl l) k ≤ 1000000) (hz : z ≤ 2 ^ 63 - 1) :
    Calls Tryz.prog 27 #[v, .int .i64 z] w fun e w' => e = .returned (errZ (atD (pl l) z)) ∧ Below w.heap.size w w' := by
  obtain ⟨a, c, rfl⟩ := h.len
  have V := Lib.hid h
  unfold atD
  by_cases h0 : z < 0
  · rw [if_pos h0]
    clear h hc hl
    go_enter Tryz.func27, Tryz.ntmps27
    go_wp2
    exact bodyPost_ret (v := errZ ((0, 0), 1)) (by simp [results, Tryz.results27, go_sem, errZ]) rfl ⟨rfl, by repeat (first | (with_reducible exact below_alloc1 _ _) | (with_reducible refine Below.setCell ?_ ?_ _) | (with_reducible refine Below.alloc ?_ ?_ _) | exact Nat.le_refl _ | exact Nat.le_succ _ | omega | (simp; done) | (simp; omega))⟩
  · rw [if_neg h0]
    obtain ⟨T, hT⟩ : ∃ T, atL (pl l) 0 z = T := ⟨_, rfl⟩
    rw [hT]
    have HT : Hid (atL ((pl l).drop 0) 0 z = T) := Lib.hid hT
    have C := Lib.hid hc
    obtain ⟨n, hn⟩ : ∃ n, l.length = n := ⟨_, rfl⟩
    rw [hn] at hl V ⊢
    have N := Lib.hid hn
    clear h hc hn hT
    obtain ⟨⟨T1, T2⟩, T3⟩ := T
    unfold errZ psV
    dsimp only
    go_enter Tryz.func27, Tryz.ntmps27
    go_wp2
    go_loopw [1, 6, 7, 13] (fun z1 _ _ i wr => ∃ (k : Nat) (zz : Int), k ≤ n ∧ i = .int .i64 k ∧ z1 = .int .i64 zz ∧ 0 ≤ zz ∧ zz ≤ 2 ^ 63 - 1 ∧ Hid (atL ((pl l).drop k) k zz = ((T1, T2), T3)) ∧ wr.cell? ⟨w.heap.size, 0, none⟩ = some (.int .i64 0) ∧ wr.cell? ⟨w.heap.size, 1, none⟩ = some (.int .i64 0) ∧ wr.frozen? ⟨w.heap.size, 0, none⟩ = false ∧ wr.frozen? ⟨w.heap.size, 1, none⟩ = false ∧ w.heap.size < wr.heap.size ∧ Below w.heap.size w wr) (fun _ _ _ i _ => n - (RowKit.intOf i).toNat)
    case atStart => exact ⟨0, z, Nat.zero_le _, rfl, rfl, by omega, hz, HT, by simp [go_sem], by simp [go_sem], by simp [go_sem], by simp [go_sem], by simp, below_alloc1 _ _⟩
    case round =>
      obtain ⟨k, zz, hk, rfl, rfl, hz0, hz1, HM, y0, y1, g0, g1, hsz, hb⟩ := hrel
      by_cases hlt : k < n
      · have hkl : k < l.length := by rw [N.out]; exact hlt
        obtain ⟨b, o, rfl, _, hlc, hcm, hbl, q, za, n1, zc, kk, ra, rc, x0, x1, x2, x3⟩ := slice_lies_cnt (V.out.below hb) hkl
        unfold maxLen at hcm
        have hck := C.out k hkl
        have hst := at_step (d := pl l) (k := k) (by rw [pl_length]; exact hkl) zz
        rw [HM.out] at hst
        obtain ⟨m, hm⟩ : ∃ m, cnt (pl l) k = m := ⟨_, rfl⟩
        rw [hm] at x3 hck hst
        have hkI : (k : Int) < (n : Int) := by omega
        have hbne : b ≠ wr.heap.size := by omega
        clear HM hm hkl
        by_cases hle : zz ≤ (m : Int)
        · rw [if_pos hle] at hst
          simp only [Prod.mk.injEq] at hst
          obtain ⟨⟨rfl, rfl⟩, rfl⟩ := hst
          go_wp2
          exact bodyPost_ret (v := .tuple #[.agg #[.int .i64 (k : Int), .int .i64 T2], .int .i64 0]) (by simp [results, Tryz.results27, go_sem, *]) rfl ⟨rfl, by repeat (first | (with_reducible exact hb) | (with_reducible refine Below.setCell ?_ ?_ _) | (with_reducible refine Below.alloc ?_ ?_ _) | exact Nat.le_refl _ | exact Nat.le_succ _ | omega | (simp; done) | (simp; omega))⟩
        · rw [if_neg hle] at hst
          have HS := Lib.hid hst.symm
          clear hst
          go_wp2
          go_roundw
          case rel =>
            have A := below_alloc1 wr (.cells #[.int .i64 q, .slice za n1 zc, .int .i64 kk, .slice ra m rc] 46)
            exact ⟨k + 1, zz - (m + 1), hlt, by go_num, by go_num, by omega, by omega, HS, (A.cell hsz).trans y0, (A.cell hsz).trans y1, (A.frozen hsz).trans g0, (A.frozen hsz).trans g1, by simp; omega, hb.alloc hb.size _⟩
          case measure => simp [RowKit.intOf]; omega
      · have hkn : k = n := by omega
        subst hkn
        have hst := HM.out
        rw [List.drop_eq_nil_of_le (by rw [pl_length, N.out]; omega)] at hst
        simp only [atL, Prod.mk.injEq] at hst
        obtain ⟨⟨rfl, rfl⟩, rfl⟩ := hst
        clear HM
        go_wp2
        exact bodyPost_ret (v := .tuple #[.agg #[.int .i64 0, .int .i64 0], .int .i64 1]) (by simp [results, Tryz.results27, go_sem, *]) rfl ⟨rfl, by repeat (first | (with_reducible exact hb) | (with_reducible refine Below.setCell ?_ ?_ _) | (with_reducible refine Below.alloc ?_ ?_ _) | exact Nat.le_refl _ | exact Nat.le_succ _ | omega | (simp; done) | (simp; omega))⟩

end Go.Proofs.YtafincmcmgedbaaGreatDoor
