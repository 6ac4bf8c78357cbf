/-
  Is there a line more than is gone through?
-/
import Derived.Test.YtmlipcedkgfmiaaDoorLMay
namespace Go.Proofs.YtmlipcedkgfmiaaDoor
open Go.RowKit Go.Lib

/-- What is counted: the links' letters. -/
def hrefM (l : Row) : Nat → Nat → Nat → Nat
  | 0, _, M => M
  | n + 1, k, M => if M ≤ 200000 then hrefM l n (k + 1) (M + (l[k]!).2.2.size) else M
def longL (L : Ln) : Bool := decide (20000 < L.cs.length) || decide (1000 < L.ls.length) || decide (200000 < hrefM L.cs L.cs.length 0 0)
theorem hrefM_le (l : Row) : ∀ n k M, M ≤ hrefM l n k M
  | 0, _, _ => Nat.le_refl _
  | n + 1, k, M => by
    have ih := hrefM_le l n (k + 1) (M + (l[k]!).2.2.size)
    unfold hrefM
    split <;> omega
theorem hrefM_all (l : Row) : ∀ n k M, hrefM l n k M ≤ 200000 → ∀ j, k ≤ j → j < k + n → (l[j]!).2.2.size ≤ 200000
  | 0, _, _, _, j, h1, h2 => by omega
  | n + 1, k, M, h, j, h1, h2 => by
    unfold hrefM at h
    by_cases hM : M ≤ 200000
    · rw [if_pos hM] at h
      by_cases e : j = k
      · subst e
        have := hrefM_le l n (j + 1) (M + (l[j]!).2.2.size)
        omega
      · exact hrefM_all l n (k + 1) _ h j (by omega) (by omega)
    · rw [if_neg hM] at h
      omega
theorem longL_false {q k : Int} {ls : IRow} {cs : Row} (h : longL ⟨q, ls, k, cs⟩ = false) : cs.length ≤ 20000 ∧ ls.length ≤ 1000 ∧ Fair cs := by
  unfold longL at h
  simp only [Bool.or_eq_false_iff, decide_eq_false_iff_not] at h
  obtain ⟨⟨h1, h2⟩, h3⟩ := h
  refine ⟨by omega, by omega, fun k hk => ?_⟩
  have := hrefM_all cs cs.length 0 0 (by omega) k (by omega) (by omega)
  omega

set_option maxRecDepth 20000 in
set_option maxHeartbeats 8000000 in
theorem long_any (q k : Int) (sl sc : Value) (ls : IRow) (cs : Row) (w : World) (h : LnAt w sl sc ls cs) (hs : Sized cs) :
    Calls Tryd.prog 9 #[.agg #[.int .i64 q, sl, .int .i64 k, sc]] w fun e w' => e = .returned (.bool (longL ⟨q, ls, k, cs⟩)) ∧ Below w.heap.size w w' := by
  obtain ⟨a1, c1, e1, h11, h12⟩ := h.z.cap
  obtain ⟨a2, c2, e2, h21, h22⟩ := h.r.cap
  subst e1 e2
  unfold maxLen at h12 h22
  have ba : ∀ o, Below w.heap.size w (w.alloc o) := fun o => (Below.refl _ w).alloc (Nat.le_refl _) _
  have HR := Lib.hid h.r
  have HS := Lib.hid hs
  unfold longL
  dsimp only
  obtain ⟨T, hT⟩ : ∃ T, hrefM cs cs.length 0 0 = T := ⟨_, rfl⟩
  rw [hT]
  obtain ⟨n1, hn1⟩ : ∃ n, ls.length = n := ⟨_, rfl⟩
  obtain ⟨n2, hn2⟩ : ∃ n, cs.length = n := ⟨_, rfl⟩
  rw [hn1] at h11 ⊢
  rw [hn2] at h21 HR hT ⊢
  have N2 := Lib.hid hn2
  have HT := Lib.hid hT
  clear h hs hn1 hn2 hT
  by_cases hbig : 20000 < n2
  · have g1 : (20000 : Int) < (n2 : Int) := by omega
    rw [decide_eq_true hbig, Bool.true_or, Bool.true_or]
    go_enter Tryd.func9, Tryd.ntmps9
    go_wp2
    go_ret
    exact ⟨rfl, ba _⟩
  by_cases hbig2 : 1000 < n1
  · have g1 : ¬ (20000 : Int) < (n2 : Int) := by omega
    have g2 : (1000 : Int) < (n1 : Int) := by omega
    rw [decide_eq_true hbig2, Bool.or_true, Bool.true_or]
    clear hbig
    go_enter Tryd.func9, Tryd.ntmps9
    go_wp2
    go_ret
    exact ⟨rfl, ba _⟩
  have g1 : ¬ (20000 : Int) < (n2 : Int) := by omega
  have g2 : ¬ (1000 : Int) < (n1 : Int) := by omega
  have hnn : n2 ≤ 20000 := by omega
  rw [decide_eq_false hbig, decide_eq_false hbig2, Bool.false_or, Bool.false_or]
  obtain ⟨D, hD⟩ : ∃ D, decide (200000 < T) = D := ⟨_, rfl⟩
  rw [hD]
  have HD := Lib.hid hD
  clear hD hbig hbig2
  go_enter Tryd.func9, Tryd.ntmps9
  go_wp2
  go_loop [3, 4] (fun m i => ∃ (j M : Nat), j ≤ n2 ∧ i = .int .i64 j ∧ m = .int .i64 M ∧ M ≤ 200000 + 140737488355328 ∧ Hid (hrefM cs (n2 - j) j M = T)) (fun _ i => n2 - (RowKit.intOf i).toNat)
  case atStart => exact ⟨0, 0, Nat.zero_le _, rfl, rfl, by omega, HT⟩
  case round =>
    obtain ⟨j, M, hj, rfl, rfl, hM, HM⟩ := hrel
    by_cases hlt : j < n2
    · have hkI : (j : Int) < (n2 : Int) := by omega
      have hst := HM.out
      obtain ⟨p, hp⟩ : ∃ p, n2 - j = p + 1 := ⟨n2 - j - 1, by omega⟩
      rw [hp] at hst
      have hp2 : p = n2 - (j + 1) := by omega
      subst hp2
      unfold hrefM at hst
      by_cases hMs : M ≤ 200000
      · rw [if_pos hMs] at hst
        have hMI : (M : Int) ≤ 200000 := by omega
        have hkl : j < cs.length := by rw [N2.out]; exact hlt
        obtain ⟨b, o, c3, e, hlc, hcm, hbl, hcs⟩ := HR.out.lies (by omega)
        rw [N2.out] at e
        obtain ⟨rfl, _, rfl⟩ := Value.slice.inj e
        obtain ⟨_, _, x3⟩ := hcs j hkl
        have hsz := HS.out.at hkl
        have hbw : b ≠ w.heap.size := by omega
        obtain ⟨X, hX⟩ : ∃ X, (cs[j]!).2.2 = X := ⟨_, rfl⟩
        rw [hX] at x3 hsz hst
        have HS2 := Lib.hid hst
        clear hX hcs e hkl hst hp HM
        go_wp2
        go_round
        case rel => exact ⟨j + 1, M + X.size, hlt, by go_num, by go_num, by omega, HS2⟩
        case measure => simp [RowKit.intOf]; omega
      · rw [if_neg hMs] at hst
        have hMI : ¬ (M : Int) ≤ 200000 := by omega
        have hMJ : (200000 : Int) < (M : Int) := by omega
        have e : D = true := by rw [← HD.out]; exact decide_eq_true (by omega)
        have HE := Lib.hid e
        clear e hst hp HM
        go_wp2
        all_goals go_ret
        all_goals exact ⟨ret_bool HE.out.symm, ba _⟩
    · have hkn : n2 - j = 0 := by omega
      have hst := HM.out
      rw [hkn] at hst
      have e : D = decide (200000 < M) := by rw [← HD.out, ← hst]; rfl
      have HE := Lib.hid e
      clear e hst HM
      by_cases hMs : M ≤ 200000
      · have hMI : ¬ (200000 : Int) < (M : Int) := by omega
        go_wp2
        all_goals go_ret
        all_goals exact ⟨ret_bool (by rw [HE.out]; exact (decide_eq_false (by omega)).symm), ba _⟩
      · have hMI : (200000 : Int) < (M : Int) := by omega
        go_wp2
        all_goals go_ret
        all_goals exact ⟨ret_bool (by rw [HE.out]; exact (decide_eq_true (by omega)).symm), ba _⟩

end Go.Proofs.YtmlipcedkgfmiaaDoor
