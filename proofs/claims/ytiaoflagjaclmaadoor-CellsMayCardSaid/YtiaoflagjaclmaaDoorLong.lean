/-
  Are there more cells, or longer links, than are gone through?
-/
import Derived.Test.YtiaoflagjaclmaaDoorWithin
namespace Go.Proofs.YtiaoflagjaclmaaDoor
open Go.RowKit Go.Lib

/-- What is known of a row that came in: its texts have lengths that Go gives. -/
def Sized (l : Row) : Prop := ∀ c ∈ l, c.2.2.size ≤ 140737488355328
theorem Sized.at {l : Row} (h : Sized l) {k : Nat} (hk : k < l.length) : (l[k]!).2.2.size ≤ 140737488355328 := by
  rw [List.getElem!_eq_getElem?_getD, List.getElem?_eq_getElem hk]
  exact h _ (List.getElem_mem hk)
/-- What is counted. -/
def longM (l : Row) : Nat → Nat → Nat → Nat
  | 0, _, M => M
  | n + 1, k, M => if M ≤ 20000 then longM l n (k + 1) (M + (atR l k).2.2.size / 8) else M
def longB (l : Row) : Bool := decide (20000 < longM l l.length 0 l.length)
theorem longM_le (l : Row) : ∀ n k M, M ≤ longM l n k M
  | 0, _, _ => Nat.le_refl _
  | n + 1, k, M => by
    have ih := longM_le l n (k + 1) (M + (atR l k).2.2.size / 8)
    unfold longM
    split <;> omega
theorem longM_big (l : Row) {M : Nat} (h : 20000 < M) : ∀ n k, longM l n k M = M
  | 0, _ => rfl
  | n + 1, k => by unfold longM; rw [if_neg (by omega)]
theorem longB_false {l : Row} (h : longB l = false) : l.length ≤ 20000 := by
  have h1 := of_decide_eq_false h
  have h2 := longM_le l l.length 0 l.length
  omega

set_option maxHeartbeats 4000000 in
theorem long_any (v : Value) (l : Row) (w : World) (hv : RowAt w v l) (hs : Sized l) :
    Calls Tryd.prog 6 #[v] w fun e w' => e = .returned (.bool (longB l)) ∧ w = w' := by
  obtain ⟨a, c, rfl, hc1, hc2⟩ := hv.cap
  unfold maxLen at hc2
  obtain ⟨T, hT⟩ : ∃ T, longM l l.length 0 l.length = T := ⟨_, rfl⟩
  have eB : longB l = decide (20000 < T) := by unfold longB; rw [hT]
  rw [eB]
  have hbg := longM_big l (M := l.length)
  obtain ⟨n, hn⟩ : ∃ n, l.length = n := ⟨_, rfl⟩
  have V := Lib.hid hv
  rw [hn] at hc1 V hT hbg ⊢
  have N := Lib.hid hn
  have S := Lib.hid hs
  have HT := Lib.hid hT
  clear hv hn hs eB hT
  by_cases hbig : 20000 < n
  · have h1 : ¬ (n : Int) ≤ 20000 := by omega
    have h2 : (20000 : Int) < (n : Int) := by omega
    have e : decide (20000 < T) = true := decide_eq_true (by rw [← HT.out, hbg hbig]; exact hbig)
    rw [e]
    clear e hbg
    go_enter Tryd.func6, Tryd.ntmps6
    go_wp2
    go_loop [3, 4] (fun m i => i = .int .i64 0 ∧ m = .int .i64 n) (fun _ _ => 0)
    case atStart => exact ⟨rfl, rfl⟩
    case round =>
      obtain ⟨rfl, rfl⟩ := hrel
      go_wp2
      all_goals go_ret
      all_goals exact ⟨rfl, rfl⟩
  · have hnn : n ≤ 20000 := by omega
    clear hbg
    obtain ⟨D, hD⟩ : ∃ D, decide (20000 < T) = D := ⟨_, rfl⟩
    rw [hD]
    have HD := Lib.hid hD
    clear hD
    go_enter Tryd.func6, Tryd.ntmps6
    go_wp2
    go_loop [3, 4] (fun m i => ∃ (k M : Nat), k ≤ n ∧ i = .int .i64 k ∧ m = .int .i64 M ∧ M ≤ 20000 + 140737488355328 ∧ Hid (longM l (n - k) k M = T)) (fun _ i => n - (RowKit.intOf i).toNat)
    case atStart => exact ⟨0, n, Nat.zero_le _, rfl, rfl, by omega, HT⟩
    case round =>
      obtain ⟨k, M, hk, rfl, rfl, hM, HM⟩ := hrel
      by_cases hlt : k < n
      · have hkI : (k : Int) < (n : Int) := by omega
        have hst := HM.out
        obtain ⟨q, hq⟩ : ∃ q, n - k = q + 1 := ⟨n - k - 1, by omega⟩
        rw [hq] at hst
        have hq2 : q = n - (k + 1) := by omega
        subst hq2
        unfold longM at hst
        by_cases hMs : M ≤ 20000
        · rw [if_pos hMs] at hst
          have hMI : (M : Int) ≤ 20000 := by omega
          have hkl : k < l.length := by rw [N.out]; exact hlt
          obtain ⟨b, o, c2, e, hlc, hcm, hbl, hcs⟩ := V.out.lies (by omega)
          rw [N.out] at e
          obtain ⟨rfl, _, rfl⟩ := Value.slice.inj e
          obtain ⟨_, _, x3⟩ := hcs k hkl
          have hsz := S.out.at hkl
          rw [atR_in hkl] at hst
          obtain ⟨X, hX⟩ : ∃ X, (l[k]!).2.2 = X := ⟨_, rfl⟩
          rw [hX] at x3 hsz hst
          have hq0 : (0 : Int) ≤ (X.size : Int) / 8 := by omega
          have hq1 : (X.size : Int) / 8 ≤ 140737488355328 := by omega
          have HS := Lib.hid hst
          clear hX hcs e hkl hst hq HM
          go_wp2
          go_round
          case rel => exact ⟨k + 1, M + X.size / 8, hlt, by go_num, by go_num, by omega, HS⟩
          case measure => simp [RowKit.intOf]; omega
        · rw [if_neg hMs] at hst
          have hMI : ¬ (M : Int) ≤ 20000 := by omega
          have hMJ : (20000 : Int) < (M : Int) := by omega
          have e : D = true := by rw [← HD.out]; exact decide_eq_true (by omega)
          have HE := Lib.hid e
          clear e hst hq HM
          go_wp2
          all_goals go_ret
          all_goals exact ⟨ret_bool HE.out.symm, rfl⟩
      · have hkn : n - k = 0 := by omega
        have hst := HM.out
        rw [hkn] at hst
        have e : D = decide (20000 < M) := by rw [← HD.out, ← hst]; rfl
        have HE := Lib.hid e
        clear e hst HM
        by_cases hMs : M ≤ 20000
        · have hMI : ¬ (20000 : Int) < (M : Int) := by omega
          go_wp2
          all_goals go_ret
          all_goals exact ⟨ret_bool (by rw [HE.out]; exact (decide_eq_false (by omega)).symm), rfl⟩
        · have hMI : (20000 : Int) < (M : Int) := by omega
          go_wp2
          all_goals go_ret
          all_goals exact ⟨ret_bool (by rw [HE.out]; exact (decide_eq_true (by omega)).symm), rfl⟩

end Go.Proofs.YtiaoflagjaclmaaDoor
