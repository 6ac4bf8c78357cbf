/-
  The law of links around a place. (Written by gen_lawlinks.py.)
-/
import Derived.Test.YtiaoflagjaclmaaAwake
import Derived.Test.YtiaoflagjaclmaaLong
import Derived.Test.YtiaoflagjaclmaaAround
namespace Go.Proofs.Ytiaoflagjaclmaa
open Go.RowKit Go.Lib

theorem place_eq (n : Nat) (z : Int) : min (max z 0) (n : Int) = ((placeN n z : Nat) : Int) := by
  unfold placeN
  split
  · omega
  · split <;> omega
theorem backN_le (l : Row) (h : ByteArray) : ∀ k, backN l h k ≤ k
  | 0 => Nat.le_refl _
  | k + 1 => by
    have := backN_le l h k
    rw [backN_succ]
    split <;> omega
theorem backN_all (l : Row) (h : ByteArray) : ∀ k i, backN l h k ≤ i → i < k → (atR l i).2.2 = h
  | 0, i, _, h2 => by omega
  | k + 1, i, h1, h2 => by
    rw [backN_succ] at h1
    by_cases e : (atR l k).2.2 = h
    · rw [if_pos e] at h1
      by_cases ei : i = k
      · subst ei; exact e
      · exact backN_all l h k i h1 (by omega)
    · rw [if_neg e] at h1; omega
theorem backN_stop (l : Row) (h : ByteArray) : ∀ k, 0 < backN l h k → (atR l (backN l h k - 1)).2.2 ≠ h
  | 0, h1 => by unfold backN at h1; omega
  | k + 1, h1 => by
    rw [backN_succ] at h1 ⊢
    by_cases e : (atR l k).2.2 = h
    · rw [if_pos e] at h1 ⊢; exact backN_stop l h k h1
    · rw [if_neg e]; exact e
theorem forthG_le (l : Row) (h : ByteArray) : ∀ n k, k ≤ forthG l h n k ∧ forthG l h n k ≤ k + n
  | 0, k => ⟨Nat.le_refl _, Nat.le_refl _⟩
  | n + 1, k => by
    have := forthG_le l h n (k + 1)
    unfold forthG
    split <;> omega
theorem forthG_all (l : Row) (h : ByteArray) : ∀ n k i, k ≤ i → i < forthG l h n k → (atR l i).2.2 = h
  | 0, k, i, h1, h2 => by unfold forthG at h2; omega
  | n + 1, k, i, h1, h2 => by
    unfold forthG at h2
    by_cases e : (atR l k).2.2 = h
    · rw [if_pos e] at h2
      by_cases ei : i = k
      · subst ei; exact e
      · exact forthG_all l h n (k + 1) i (by omega) h2
    · rw [if_neg e] at h2; omega
theorem forthG_stop (l : Row) (h : ByteArray) : ∀ n k, forthG l h n k < k + n → (atR l (forthG l h n k)).2.2 ≠ h
  | 0, k, h1 => by unfold forthG at h1; omega
  | n + 1, k, h1 => by
    unfold forthG at h1 ⊢
    by_cases e : (atR l k).2.2 = h
    · rw [if_pos e] at h1 ⊢; exact forthG_stop l h n (k + 1) (by omega)
    · rw [if_neg e]; exact e
/-- What is known of the link around a place. -/
theorem link_facts {l : Row} {p : Nat} {H : ByteArray} (hp : p ≤ l.length) (hH : hrefR l p = H) (h0 : H ≠ ⟨#[]⟩) :
    backN l H p ≤ p ∧ p ≤ forthN l H p ∧ forthN l H p ≤ l.length ∧ backN l H p < forthN l H p ∧ (∀ i, backN l H p ≤ i → i < forthN l H p → (atR l i).2.2 = H)
      ∧ (0 < backN l H p → (atR l (backN l H p - 1)).2.2 ≠ H) ∧ (forthN l H p < l.length → (atR l (forthN l H p)).2.2 ≠ H) := by
  have h1 := backN_le l H p
  have h2 := forthG_le l H (l.length - p) p
  have hall : ∀ i, backN l H p ≤ i → i < forthN l H p → (atR l i).2.2 = H := fun i k1 k2 => by
    by_cases e : i < p
    · exact backN_all l H p i k1 e
    · exact forthG_all l H (l.length - p) p i (by omega) k2
  refine ⟨h1, h2.1, by unfold forthN; omega, ?_, hall, backN_stop l H p, fun h => forthG_stop l H _ p (by unfold forthN at h; omega)⟩
  by_cases hA : (aheadR l p).2.2 = ⟨#[]⟩
  · have hB : (atR l p).2.2 = H := by unfold hrefR at hH; rwa [if_pos hA] at hH
    have hpl := atR_ne (l := l) (k := p) (by rw [hB]; exact h0)
    have h3 := forthN_step (h := H) hpl
    rw [if_pos hB] at h3
    have h4 := forthG_le l H (l.length - (p + 1)) (p + 1)
    have : p + 1 ≤ forthN l H p := by rw [h3]; exact h4.1
    omega
  · have hA2 : (aheadR l p).2.2 = H := by unfold hrefR at hH; rwa [if_neg hA] at hH
    have hp0 := aheadR_ne hA
    unfold aheadR at hA2
    rw [if_pos hp0] at hA2
    obtain ⟨q, rfl⟩ : ∃ q, p = q + 1 := ⟨p - 1, by omega⟩
    rw [Nat.add_sub_cancel] at hA2
    have h3 := backN_succ l H q
    rw [if_pos hA2] at h3
    have h4 := backN_le l H q
    have : forthN l H (q + 1) = forthG l H (l.length - (q + 1)) (q + 1) := rfl
    omega

set_option maxHeartbeats 40000000 in
set_option maxRecDepth 20000 in
theorem lawLinks_walk (v : Value) (l : Row) (z : Int) (w : World) (hv : RowAt w v l) (hs : Sized l) :
    Calls Try.prog 8 #[v, .int .i64 z] w fun e w' => e = .returned (.bool true) ∧ Below w.heap.size w w' := by
  have haw := fun w => awake_any w
  have cL1 := long_any v l w hv hs
  by_cases b1 : longB l = true
  · rw [b1] at cL1
    clear hv hs
    go_enter Try.func8, Try.ntmps8
    go_wp2_with (first
      | (go_at_call 13; ((with_reducible refine cL1.mono ?_); rintro e w1 ⟨rfl, rfl⟩))
      | (go_at_call 9; ((with_reducible refine (haw _).mono ?_); rintro e w1 ⟨rfl, hb1⟩)))
    go_ret
    exact ⟨rfl, hb1⟩
  have b1' : longB l = false := by simpa using b1
  rw [b1'] at cL1
  have n1 := longB_false b1'
  have cW := within_any v l z w hv (by omega)
  have hpe := place_eq l.length z
  have hple := placeN_le l.length z
  unfold withinV withinR at cW
  obtain ⟨p, hp⟩ : ∃ p, placeN l.length z = p := ⟨_, rfl⟩
  rw [hp] at cW hpe hple
  obtain ⟨H, hH⟩ : ∃ H, hrefR l p = H := ⟨_, rfl⟩
  rw [hH] at cW
  have V := Lib.hid hv
  obtain ⟨a, c, rfl⟩ := hv.len
  clear hv hs b1 b1' hp
  by_cases h0 : H = ⟨#[]⟩
  · rw [if_pos h0] at cW
    dsimp only at cW
    have hA : (aheadR l p).2.2 = ⟨#[]⟩ := by
      unfold hrefR at hH
      by_cases h : (aheadR l p).2.2 = ⟨#[]⟩
      · exact h
      · rw [if_neg h] at hH; exact absurd (hH.trans h0) h
    have hB : (atR l p).2.2 = ⟨#[]⟩ := by
      unfold hrefR at hH
      rw [if_pos hA] at hH; exact hH.trans h0
    have HA := Lib.hid hA
    have HB := Lib.hid hB
    obtain ⟨n, hn⟩ : ∃ n, l.length = n := ⟨_, rfl⟩
    rw [hn] at V cL1 cW hpe hple n1 ⊢
    have Hn := Lib.hid hn
    clear hA hB hH h0 hn
    by_cases hn0 : n = 0
    · subst hn0
      have hp0 : p = 0 := by omega
      subst hp0
      rw [show ((0 : Nat) : Int) = 0 from rfl] at cW hpe
      clear hple n1
      go_enter Try.func8, Try.ntmps8
      go_wp2_with (first
        | (go_at_call 13; ((with_reducible refine cL1.mono ?_); rintro e w1 ⟨rfl, rfl⟩))
        | (go_at_call 26; ((with_reducible refine cW.mono ?_); rintro e w1 ⟨rfl, hb1⟩))
        | (go_at_call 9; ((with_reducible refine (haw _).mono ?_); rintro e w2 ⟨rfl, hb2⟩; replace hb1 := hb1.trans (hb2.mono hb1.size))))
      go_ret
      exact ⟨rfl, hb1⟩
    · obtain ⟨b, o, c2, e, hlc, hcm, hbl, _⟩ := V.out.lies (by rw [Hn.out]; omega)
      rw [Hn.out] at e hlc
      obtain ⟨rfl, _, rfl⟩ := Value.slice.inj e
      unfold maxLen at hcm
      clear e
      have hcells : ∀ w1, Below w.heap.size w w1 → ∀ i, i < n → w1.cell? ⟨b, o + i * 3 + 2, none⟩ = some (.string (atR l i).2.2) := fun w1 h i hi => by
        obtain ⟨b', o', c', e, _, _, hbl', hcs⟩ := V.out.lies (by rw [Hn.out]; omega)
        rw [Hn.out] at e
        simp only [Value.slice.injEq, Option.some.injEq, Addr.mk.injEq, and_true, true_and] at e
        obtain ⟨⟨rfl, rfl⟩, rfl⟩ := e
        have hil : i < l.length := by rw [Hn.out]; exact hi
        have h3 := ((hcs.below hbl' h) i hil).2.2
        rwa [← atR_in hil] at h3
      have HCE := Lib.hid hcells
      clear hcells
      rcases Nat.eq_zero_or_pos p with rfl | hp0
      · have hnI : (0 : Int) < (n : Int) := by have := Hn.out; omega
        have hnN : 0 < n := by omega
        rw [show ((0 : Nat) : Int) = 0 from rfl] at cW hpe
        have f2 := fun w1 h => HCE.out w1 h 0 hnN
        rw [HB.out] at f2
        simp only [Nat.zero_mul, Nat.add_zero] at f2
        have F2 := Lib.hid f2
        clear f2
        go_enter Try.func8, Try.ntmps8
        go_wp2_with (first
          | (go_at_call 13; ((with_reducible refine cL1.mono ?_); rintro e w1 ⟨rfl, rfl⟩))
          | (go_at_call 26; ((with_reducible refine cW.mono ?_); rintro e w1 ⟨rfl, hb1⟩; have f2 := F2.out _ hb1; have hbl1 := Nat.lt_of_lt_of_le hbl hb1.size))
          | (go_at_call 9; ((with_reducible refine (haw _).mono ?_); rintro e w2 ⟨rfl, hb2⟩; replace hb1 := hb1.trans (hb2.mono hb1.size))))
        go_ret
        exact ⟨rfl, hb1⟩
      · obtain ⟨i0, hi0⟩ : ∃ i, p - 1 = i := ⟨_, rfl⟩
        have hA := HA.out
        unfold aheadR at hA
        rw [if_pos hp0, hi0] at hA
        have hi1 : (p : Int) - 1 = (i0 : Int) := by omega
        have hwi : IntKind.i64.wrap (i0 : Int) = (i0 : Int) := IntWalk.i64_in _ (by omega)
        have hp0I : (0 : Int) < (p : Int) := by omega
        have hi0I : (i0 : Int) < (n : Int) := by omega
        have hi0N : i0 < n := by omega
        have f1 := fun w1 h => HCE.out w1 h i0 hi0N
        rw [hA] at f1
        have F1 := Lib.hid f1
        clear f1 hi0 hA
        by_cases hpn : p < n
        · have f2 := fun w1 h => HCE.out w1 h p hpn
          rw [HB.out] at f2
          have hpnI : (p : Int) < (n : Int) := by omega
          have F2 := Lib.hid f2
          clear f2
          go_enter Try.func8, Try.ntmps8
          go_wp2_with (first
            | (go_at_call 13; ((with_reducible refine cL1.mono ?_); rintro e w1 ⟨rfl, rfl⟩))
            | (go_at_call 26; ((with_reducible refine cW.mono ?_); rintro e w1 ⟨rfl, hb1⟩; have f1 := F1.out _ hb1; have f2 := F2.out _ hb1; have hbl1 := Nat.lt_of_lt_of_le hbl hb1.size))
            | (go_at_call 9; ((with_reducible refine (haw _).mono ?_); rintro e w2 ⟨rfl, hb2⟩; replace hb1 := hb1.trans (hb2.mono hb1.size))))
          go_ret
          exact ⟨rfl, hb1⟩
        · have hpnI : ¬ (p : Int) < (n : Int) := by omega
          go_enter Try.func8, Try.ntmps8
          go_wp2_with (first
            | (go_at_call 13; ((with_reducible refine cL1.mono ?_); rintro e w1 ⟨rfl, rfl⟩))
            | (go_at_call 26; ((with_reducible refine cW.mono ?_); rintro e w1 ⟨rfl, hb1⟩; have f1 := F1.out _ hb1; have hbl1 := Nat.lt_of_lt_of_le hbl hb1.size))
            | (go_at_call 9; ((with_reducible refine (haw _).mono ?_); rintro e w2 ⟨rfl, hb2⟩; replace hb1 := hb1.trans (hb2.mono hb1.size))))
          go_ret
          exact ⟨rfl, hb1⟩
  · rw [if_neg h0] at cW
    dsimp only at cW
    obtain ⟨k1, k2, k3, k4, k5, k6, k7⟩ := link_facts hple hH h0
    obtain ⟨F, hF⟩ : ∃ F, backN l H p = F := ⟨_, rfl⟩
    obtain ⟨T, hT⟩ : ∃ T, forthN l H p = T := ⟨_, rfl⟩
    rw [hF] at cW k1 k4 k5 k6
    rw [hT] at cW k2 k3 k4 k5 k7
    obtain ⟨n, hn⟩ : ∃ n, l.length = n := ⟨_, rfl⟩
    rw [hn] at V cL1 cW hpe hple n1 k3 k7 ⊢
    have Hn := Lib.hid hn
    have hE := isEmpty_of_ne h0
    have hEb : (H.toList == ([] : List UInt8)) = false := by
      cases hl : H.toList with
      | nil => rw [hl] at hE; simp at hE
      | cons _ _ => rfl
    have K5 := Lib.hid k5
    have K6 := Lib.hid k6
    have K7 := Lib.hid k7
    have HH := Lib.hid hH
    have H0 := Lib.hid h0
    clear hF hT hn k5 k6 k7 hH h0
    have q1 : ¬ p < F := by omega
    have q2 : ¬ T < p := by omega
    have q3 : ¬ n < T := by omega
    have q4 : ¬ F = T := by omega
    have q5 : (F : Int) < (n : Int) := by omega
    have q6 : F < n := by omega
    obtain ⟨b, o, c2, e, hlc, hcm, hbl, _⟩ := V.out.lies (by rw [Hn.out]; omega)
    rw [Hn.out] at e hlc
    obtain ⟨rfl, _, rfl⟩ := Value.slice.inj e
    unfold maxLen at hcm
    clear e
    have hcells : ∀ w1, Below w.heap.size w w1 → ∀ i, i < n → w1.cell? ⟨b, o + i * 3 + 2, none⟩ = some (.string (atR l i).2.2) := fun w1 h i hi => by
      obtain ⟨b', o', c', e, _, _, hbl', hcs⟩ := V.out.lies (by rw [Hn.out]; omega)
      rw [Hn.out] at e
      simp only [Value.slice.injEq, Option.some.injEq, Addr.mk.injEq, and_true, true_and] at e
      obtain ⟨⟨rfl, rfl⟩, rfl⟩ := e
      have hil : i < l.length := by rw [Hn.out]; exact hi
      have h3 := ((hcs.below hbl' h) i hil).2.2
      rwa [← atR_in hil] at h3
    have HCE := Lib.hid hcells
    clear hcells
    by_cases hA : (aheadR l p).2.2 = ⟨#[]⟩
    · have hB : (atR l p).2.2 = H := by have := HH.out; unfold hrefR at this; rwa [if_pos hA] at this
      have hpn : p < n := by have h := atR_ne (l := l) (k := p) (by rw [hB]; exact H0.out); rw [Hn.out] at h; exact h
      have hpnI : (p : Int) < (n : Int) := by omega
      have f2 := fun w1 h => HCE.out w1 h p hpn
      rw [hB] at f2
      clear hB
      rcases Nat.eq_zero_or_pos p with rfl | hp0
      · rw [show ((0 : Nat) : Int) = 0 from rfl] at hpe hpnI
        simp only [Nat.zero_mul, Nat.add_zero] at f2
        have F2 := Lib.hid f2
        clear f2 hA
        have q7 : ¬ (n : Int) ≤ 0 := by omega
        go_enter Try.func8, Try.ntmps8
        go_wp2_with (first
          | (go_at_call 13; ((with_reducible refine cL1.mono ?_); rintro e w1 ⟨rfl, rfl⟩))
          | (go_at_call 26; ((with_reducible refine cW.mono ?_); rintro e w1 ⟨rfl, hb1⟩; have f2 := F2.out _ hb1; have f3 := HCE.out _ hb1 F q6; rw [K5.out F (Nat.le_refl _) k4] at f3; have hbl1 := Nat.lt_of_lt_of_le hbl hb1.size))
          | (go_at_call 9; ((with_reducible refine (haw _).mono ?_); rintro e w2 ⟨rfl, hb2⟩; replace hb1 := hb1.trans (hb2.mono hb1.size))))
        go_loop [10] (fun i => ∃ j : Nat, F ≤ j ∧ j ≤ T ∧ i = .int .i64 j) (fun i => T - (RowKit.intOf i).toNat)
        case atStart => exact ⟨F, Nat.le_refl _, by omega, rfl⟩
        case round =>
          obtain ⟨j, hj1, hj2, rfl⟩ := hrel
          by_cases hlt : j < T
          · have f4 := HCE.out _ hb1 j (by omega)
            rw [K5.out j hj1 hlt] at f4
            have hjn : (j : Int) < (n : Int) := by omega
            go_wp2
            go_round
            case rel => exact ⟨j + 1, by omega, by omega, by go_num⟩
            case measure => simp [RowKit.intOf]; omega
          · have hjT : j = T := by omega
            subst hjT
            clear hlt hj1 hj2
            rcases Nat.eq_zero_or_pos F with rfl | hF0
            · by_cases hTn : j = n
              · subst hTn
                go_wp2_with (go_at_call 9; ((with_reducible refine (haw _).mono ?_); rintro e w2 ⟨rfl, hb2⟩; replace hb1 := hb1.trans (hb2.mono hb1.size)))
                all_goals (go_ret; exact ⟨rfl, hb1⟩)
              · have hTl : j < n := by omega
                have hTI : (j : Int) < (n : Int) := by omega
                have f5 := HCE.out _ hb1 j hTl
                have g5 : ((atR l j).2.2.toList == H.toList) = false := by rw [str_eq]; exact decide_eq_false (K7.out hTl)
                obtain ⟨Y, hY⟩ : ∃ Y, (atR l j).2.2 = Y := ⟨_, rfl⟩
                rw [hY] at f5 g5
                clear hY
                go_wp2_with (go_at_call 9; ((with_reducible refine (haw _).mono ?_); rintro e w2 ⟨rfl, hb2⟩; replace hb1 := hb1.trans (hb2.mono hb1.size)))
                all_goals (go_ret; exact ⟨rfl, hb1⟩)
            · obtain ⟨m0, hm0⟩ : ∃ i, F - 1 = i := ⟨_, rfl⟩
              have g6 : ((atR l (F - 1)).2.2.toList == H.toList) = false := by rw [str_eq]; exact decide_eq_false (K6.out hF0)
              rw [hm0] at g6
              have f6 := HCE.out _ hb1 m0 (by omega)
              obtain ⟨X, hX⟩ : ∃ X, (atR l m0).2.2 = X := ⟨_, rfl⟩
              rw [hX] at f6 g6
              have hm1 : (F : Int) - 1 = (m0 : Int) := by omega
              have hwm : IntKind.i64.wrap (m0 : Int) = (m0 : Int) := IntWalk.i64_in _ (by omega)
              have hm0I : (m0 : Int) < (n : Int) := by omega
              have hF0n : ¬ (F : Int) = 0 := by omega
              have hF0b : ¬ F = 0 := by omega
              clear hX hm0
              by_cases hTn : j = n
              · subst hTn
                go_wp2_with (go_at_call 9; ((with_reducible refine (haw _).mono ?_); rintro e w2 ⟨rfl, hb2⟩; replace hb1 := hb1.trans (hb2.mono hb1.size)))
                all_goals (go_ret; exact ⟨rfl, hb1⟩)
              · have hTl : j < n := by omega
                have hTI : (j : Int) < (n : Int) := by omega
                have f5 := HCE.out _ hb1 j hTl
                have g5 : ((atR l j).2.2.toList == H.toList) = false := by rw [str_eq]; exact decide_eq_false (K7.out hTl)
                obtain ⟨Y, hY⟩ : ∃ Y, (atR l j).2.2 = Y := ⟨_, rfl⟩
                rw [hY] at f5 g5
                clear hY
                go_wp2_with (go_at_call 9; ((with_reducible refine (haw _).mono ?_); rintro e w2 ⟨rfl, hb2⟩; replace hb1 := hb1.trans (hb2.mono hb1.size)))
                all_goals (go_ret; exact ⟨rfl, hb1⟩)
      · obtain ⟨i0, hi0⟩ : ∃ i, p - 1 = i := ⟨_, rfl⟩
        unfold aheadR at hA
        rw [if_pos hp0, hi0] at hA
        have hi1 : (p : Int) - 1 = (i0 : Int) := by omega
        have hwi : IntKind.i64.wrap (i0 : Int) = (i0 : Int) := IntWalk.i64_in _ (by omega)
        have hp0I : (0 : Int) < (p : Int) := by omega
        have hi0I : (i0 : Int) < (n : Int) := by omega
        have hi0N : i0 < n := by omega
        have f1 := fun w1 h => HCE.out w1 h i0 hi0N
        rw [hA] at f1
        have F1 := Lib.hid f1
        have F2 := Lib.hid f2
        clear f1 f2 hi0 hA
        go_enter Try.func8, Try.ntmps8
        go_wp2_with (first
          | (go_at_call 13; ((with_reducible refine cL1.mono ?_); rintro e w1 ⟨rfl, rfl⟩))
          | (go_at_call 26; ((with_reducible refine cW.mono ?_); rintro e w1 ⟨rfl, hb1⟩; have f1 := F1.out _ hb1; have f2 := F2.out _ hb1; have f3 := HCE.out _ hb1 F q6; rw [K5.out F (Nat.le_refl _) k4] at f3; have hbl1 := Nat.lt_of_lt_of_le hbl hb1.size))
          | (go_at_call 9; ((with_reducible refine (haw _).mono ?_); rintro e w2 ⟨rfl, hb2⟩; replace hb1 := hb1.trans (hb2.mono hb1.size))))
        go_loop [10] (fun i => ∃ j : Nat, F ≤ j ∧ j ≤ T ∧ i = .int .i64 j) (fun i => T - (RowKit.intOf i).toNat)
        case atStart => exact ⟨F, Nat.le_refl _, by omega, rfl⟩
        case round =>
          obtain ⟨j, hj1, hj2, rfl⟩ := hrel
          by_cases hlt : j < T
          · have f4 := HCE.out _ hb1 j (by omega)
            rw [K5.out j hj1 hlt] at f4
            have hjn : (j : Int) < (n : Int) := by omega
            go_wp2
            go_round
            case rel => exact ⟨j + 1, by omega, by omega, by go_num⟩
            case measure => simp [RowKit.intOf]; omega
          · have hjT : j = T := by omega
            subst hjT
            clear hlt hj1 hj2
            rcases Nat.eq_zero_or_pos F with rfl | hF0
            · by_cases hTn : j = n
              · subst hTn
                go_wp2_with (go_at_call 9; ((with_reducible refine (haw _).mono ?_); rintro e w2 ⟨rfl, hb2⟩; replace hb1 := hb1.trans (hb2.mono hb1.size)))
                all_goals (go_ret; exact ⟨rfl, hb1⟩)
              · have hTl : j < n := by omega
                have hTI : (j : Int) < (n : Int) := by omega
                have f5 := HCE.out _ hb1 j hTl
                have g5 : ((atR l j).2.2.toList == H.toList) = false := by rw [str_eq]; exact decide_eq_false (K7.out hTl)
                obtain ⟨Y, hY⟩ : ∃ Y, (atR l j).2.2 = Y := ⟨_, rfl⟩
                rw [hY] at f5 g5
                clear hY
                go_wp2_with (go_at_call 9; ((with_reducible refine (haw _).mono ?_); rintro e w2 ⟨rfl, hb2⟩; replace hb1 := hb1.trans (hb2.mono hb1.size)))
                all_goals (go_ret; exact ⟨rfl, hb1⟩)
            · obtain ⟨m0, hm0⟩ : ∃ i, F - 1 = i := ⟨_, rfl⟩
              have g6 : ((atR l (F - 1)).2.2.toList == H.toList) = false := by rw [str_eq]; exact decide_eq_false (K6.out hF0)
              rw [hm0] at g6
              have f6 := HCE.out _ hb1 m0 (by omega)
              obtain ⟨X, hX⟩ : ∃ X, (atR l m0).2.2 = X := ⟨_, rfl⟩
              rw [hX] at f6 g6
              have hm1 : (F : Int) - 1 = (m0 : Int) := by omega
              have hwm : IntKind.i64.wrap (m0 : Int) = (m0 : Int) := IntWalk.i64_in _ (by omega)
              have hm0I : (m0 : Int) < (n : Int) := by omega
              have hF0n : ¬ (F : Int) = 0 := by omega
              have hF0b : ¬ F = 0 := by omega
              clear hX hm0
              by_cases hTn : j = n
              · subst hTn
                go_wp2_with (go_at_call 9; ((with_reducible refine (haw _).mono ?_); rintro e w2 ⟨rfl, hb2⟩; replace hb1 := hb1.trans (hb2.mono hb1.size)))
                all_goals (go_ret; exact ⟨rfl, hb1⟩)
              · have hTl : j < n := by omega
                have hTI : (j : Int) < (n : Int) := by omega
                have f5 := HCE.out _ hb1 j hTl
                have g5 : ((atR l j).2.2.toList == H.toList) = false := by rw [str_eq]; exact decide_eq_false (K7.out hTl)
                obtain ⟨Y, hY⟩ : ∃ Y, (atR l j).2.2 = Y := ⟨_, rfl⟩
                rw [hY] at f5 g5
                clear hY
                go_wp2_with (go_at_call 9; ((with_reducible refine (haw _).mono ?_); rintro e w2 ⟨rfl, hb2⟩; replace hb1 := hb1.trans (hb2.mono hb1.size)))
                all_goals (go_ret; exact ⟨rfl, hb1⟩)
    · have hA2 : (aheadR l p).2.2 = H := by have := HH.out; unfold hrefR at this; rwa [if_neg hA] at this
      have hp0 := aheadR_ne hA
      obtain ⟨i0, hi0⟩ : ∃ i, p - 1 = i := ⟨_, rfl⟩
      unfold aheadR at hA2
      rw [if_pos hp0, hi0] at hA2
      have hi1 : (p : Int) - 1 = (i0 : Int) := by omega
      have hwi : IntKind.i64.wrap (i0 : Int) = (i0 : Int) := IntWalk.i64_in _ (by omega)
      have hp0I : (0 : Int) < (p : Int) := by omega
      have hi0I : (i0 : Int) < (n : Int) := by omega
      have hi0N : i0 < n := by omega
      have f1 := fun w1 h => HCE.out w1 h i0 hi0N
      rw [hA2] at f1
      have F1 := Lib.hid f1
      clear f1 hi0 hA hA2
      go_enter Try.func8, Try.ntmps8
      go_wp2_with (first
        | (go_at_call 13; ((with_reducible refine cL1.mono ?_); rintro e w1 ⟨rfl, rfl⟩))
        | (go_at_call 26; ((with_reducible refine cW.mono ?_); rintro e w1 ⟨rfl, hb1⟩; have f1 := F1.out _ hb1; have f3 := HCE.out _ hb1 F q6; rw [K5.out F (Nat.le_refl _) k4] at f3; have hbl1 := Nat.lt_of_lt_of_le hbl hb1.size))
        | (go_at_call 9; ((with_reducible refine (haw _).mono ?_); rintro e w2 ⟨rfl, hb2⟩; replace hb1 := hb1.trans (hb2.mono hb1.size))))
      go_loop [10] (fun i => ∃ j : Nat, F ≤ j ∧ j ≤ T ∧ i = .int .i64 j) (fun i => T - (RowKit.intOf i).toNat)
      case atStart => exact ⟨F, Nat.le_refl _, by omega, rfl⟩
      case round =>
        obtain ⟨j, hj1, hj2, rfl⟩ := hrel
        by_cases hlt : j < T
        · have f4 := HCE.out _ hb1 j (by omega)
          rw [K5.out j hj1 hlt] at f4
          have hjn : (j : Int) < (n : Int) := by omega
          go_wp2
          go_round
          case rel => exact ⟨j + 1, by omega, by omega, by go_num⟩
          case measure => simp [RowKit.intOf]; omega
        · have hjT : j = T := by omega
          subst hjT
          clear hlt hj1 hj2
          rcases Nat.eq_zero_or_pos F with rfl | hF0
          · by_cases hTn : j = n
            · subst hTn
              go_wp2_with (go_at_call 9; ((with_reducible refine (haw _).mono ?_); rintro e w2 ⟨rfl, hb2⟩; replace hb1 := hb1.trans (hb2.mono hb1.size)))
              all_goals (go_ret; exact ⟨rfl, hb1⟩)
            · have hTl : j < n := by omega
              have hTI : (j : Int) < (n : Int) := by omega
              have f5 := HCE.out _ hb1 j hTl
              have g5 : ((atR l j).2.2.toList == H.toList) = false := by rw [str_eq]; exact decide_eq_false (K7.out hTl)
              obtain ⟨Y, hY⟩ : ∃ Y, (atR l j).2.2 = Y := ⟨_, rfl⟩
              rw [hY] at f5 g5
              clear hY
              go_wp2_with (go_at_call 9; ((with_reducible refine (haw _).mono ?_); rintro e w2 ⟨rfl, hb2⟩; replace hb1 := hb1.trans (hb2.mono hb1.size)))
              all_goals (go_ret; exact ⟨rfl, hb1⟩)
          · obtain ⟨m0, hm0⟩ : ∃ i, F - 1 = i := ⟨_, rfl⟩
            have g6 : ((atR l (F - 1)).2.2.toList == H.toList) = false := by rw [str_eq]; exact decide_eq_false (K6.out hF0)
            rw [hm0] at g6
            have f6 := HCE.out _ hb1 m0 (by omega)
            obtain ⟨X, hX⟩ : ∃ X, (atR l m0).2.2 = X := ⟨_, rfl⟩
            rw [hX] at f6 g6
            have hm1 : (F : Int) - 1 = (m0 : Int) := by omega
            have hwm : IntKind.i64.wrap (m0 : Int) = (m0 : Int) := IntWalk.i64_in _ (by omega)
            have hm0I : (m0 : Int) < (n : Int) := by omega
            have hF0n : ¬ (F : Int) = 0 := by omega
            have hF0b : ¬ F = 0 := by omega
            clear hX hm0
            by_cases hTn : j = n
            · subst hTn
              go_wp2_with (go_at_call 9; ((with_reducible refine (haw _).mono ?_); rintro e w2 ⟨rfl, hb2⟩; replace hb1 := hb1.trans (hb2.mono hb1.size)))
              all_goals (go_ret; exact ⟨rfl, hb1⟩)
            · have hTl : j < n := by omega
              have hTI : (j : Int) < (n : Int) := by omega
              have f5 := HCE.out _ hb1 j hTl
              have g5 : ((atR l j).2.2.toList == H.toList) = false := by rw [str_eq]; exact decide_eq_false (K7.out hTl)
              obtain ⟨Y, hY⟩ : ∃ Y, (atR l j).2.2 = Y := ⟨_, rfl⟩
              rw [hY] at f5 g5
              clear hY
              go_wp2_with (go_at_call 9; ((with_reducible refine (haw _).mono ?_); rintro e w2 ⟨rfl, hb2⟩; replace hb1 := hb1.trans (hb2.mono hb1.size)))
              all_goals (go_ret; exact ⟨rfl, hb1⟩)

end Go.Proofs.Ytiaoflagjaclmaa
