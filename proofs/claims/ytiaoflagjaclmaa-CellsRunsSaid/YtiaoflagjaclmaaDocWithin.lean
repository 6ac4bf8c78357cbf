/-
  The document's Place, Within. (Written by gen_docwithin.py.)
-/
import Derived.Test.YtiaoflagjaclmaaWithin
namespace Go.Proofs.Ytiaoflagjaclmaa
open Go.RowKit Go.Lib

set_option maxHeartbeats 1000000 in
theorem rplace_any (a : Option Addr) (n c : Nat) (z : Int) (w : World) :
    Calls Try.prog 40 #[.slice a n c, .int .i64 z] w fun e w' => e = .returned (.int .i64 ((placeN n z : Nat) : Int)) ∧ w = w' := by
  unfold placeN
  by_cases h0 : z < 0
  · rw [if_pos h0]
    go_enter Try.func40, Try.ntmps40
    go_wp2
    go_ret
    exact ⟨rfl, rfl⟩
  · rw [if_neg h0]
    by_cases h1 : (n : Int) < z
    · rw [if_pos h1]
      go_enter Try.func40, Try.ntmps40
      go_wp2
      go_ret
      exact ⟨rfl, rfl⟩
    · rw [if_neg h1]
      obtain ⟨k, rfl⟩ := Int.eq_ofNat_of_zero_le (show 0 ≤ z by omega)
      go_enter Try.func40, Try.ntmps40
      go_wp2
      go_ret
      exact ⟨rfl, rfl⟩

set_option maxHeartbeats 8000000 in
theorem rwithin_off (v : Value) (l : Row) (z : Int) (w : World) (hv : RowAt w v l) (hn : l.length ≤ 100000) (h0 : hrefR l (placeN l.length z) = ⟨#[]⟩) :
    Calls Try.prog 27 #[v, .int .i64 z] w fun e w' => e = .returned (.tuple #[.int .i64 ((placeN l.length z : Nat) : Int), .int .i64 ((placeN l.length z : Nat) : Int)]) ∧ w = w' := by
  have hle := placeN_le l.length z
  have hc := fun a c w => rplace_any a l.length c z w
  obtain ⟨k, hk⟩ : ∃ k, placeN l.length z = k := ⟨_, rfl⟩
  rw [hk] at h0 hc hle ⊢
  have hA : (aheadR l k).2.2 = ⟨#[]⟩ := by
    unfold hrefR at h0
    by_cases h : (aheadR l k).2.2 = ⟨#[]⟩
    · exact h
    · rw [if_neg h] at h0; exact absurd h0 h
  have hB : (atR l k).2.2 = ⟨#[]⟩ := by
    unfold hrefR at h0
    rwa [if_pos hA] at h0
  by_cases hpos : 0 < l.length
  · obtain ⟨b, o, c, rfl, hlc, hcm, hb, hcs⟩ := hv.lies hpos
    unfold maxLen at hcm
    replace hc := hc (some ⟨b, o, none⟩) c
    by_cases hlt : k < l.length
    · obtain ⟨_, _, y3⟩ := hcs k hlt
      rw [← atR_in hlt, hB] at y3
      have hkI : (k : Int) < (l.length : Int) := by omega
      rcases Nat.eq_zero_or_pos k with rfl | hk0
      · clear hcs hA hB h0 hk hv
        obtain ⟨n, hn'⟩ : ∃ n, l.length = n := ⟨_, rfl⟩
        rw [hn'] at hc hkI hpos hlc hn ⊢
        rw [show ((0 : Nat) : Int) = 0 from rfl] at hc hkI ⊢
        clear hn' hlt
        go_enter Try.func27, Try.ntmps27
        go_wp2_with (go_at_call 40; ((with_reducible refine (hc _).mono ?_); rintro e w1 ⟨rfl, rfl⟩))
        go_ret2
        exact ⟨rfl, rfl⟩
      · obtain ⟨i, rfl⟩ : ∃ i, k = i + 1 := ⟨k - 1, by omega⟩
        have hil : i < l.length := by omega
        obtain ⟨_, _, x3⟩ := hcs i hil
        have e : aheadR l (i + 1) = l[i]! := by unfold aheadR; rw [if_pos (by omega), Nat.add_sub_cancel, atR_in hil]
        rw [← e, hA] at x3
        have hiI : (i : Int) < (l.length : Int) := by omega
        clear hcs hA hB h0 hk hv e
        obtain ⟨n, hn'⟩ : ∃ n, l.length = n := ⟨_, rfl⟩
        rw [hn'] at hc hkI hiI hpos hlc hn ⊢
        clear hn' hlt hil
        rw [Int.natCast_add] at hc hkI ⊢
        go_enter Try.func27, Try.ntmps27
        go_wp2_with (go_at_call 40; ((with_reducible refine (hc _).mono ?_); rintro e w1 ⟨rfl, rfl⟩))
        go_ret2
        exact ⟨rfl, rfl⟩
    · obtain ⟨i, rfl⟩ : ∃ i, k = i + 1 := ⟨k - 1, by omega⟩
      have hil : i < l.length := by omega
      obtain ⟨_, _, x3⟩ := hcs i hil
      have e : aheadR l (i + 1) = l[i]! := by unfold aheadR; rw [if_pos (by omega), Nat.add_sub_cancel, atR_in hil]
      rw [← e, hA] at x3
      have hiI : (i : Int) < (l.length : Int) := by omega
      have hkI : ¬ (i : Int) + 1 < (l.length : Int) := by omega
      clear hcs hA hB h0 hk hv e
      obtain ⟨n, hn'⟩ : ∃ n, l.length = n := ⟨_, rfl⟩
      rw [hn'] at hc hkI hiI hpos hlc hn ⊢
      clear hn' hlt hil
      rw [Int.natCast_add] at hc ⊢
      go_enter Try.func27, Try.ntmps27
      go_wp2_with (go_at_call 40; ((with_reducible refine (hc _).mono ?_); rintro e w1 ⟨rfl, rfl⟩))
      go_ret2
      exact ⟨rfl, rfl⟩
  · obtain ⟨a, c, rfl⟩ := hv.len
    have hz : l.length = 0 := by omega
    have hk0 : k = 0 := by omega
    subst hk0
    replace hc := hc a c
    clear hv h0 hk hA hB
    rw [hz] at hc ⊢
    rw [show ((0 : Nat) : Int) = 0 from rfl] at hc ⊢
    go_enter Try.func27, Try.ntmps27
    go_wp2_with (go_at_call 40; ((with_reducible refine (hc _).mono ?_); rintro e w1 ⟨rfl, rfl⟩))
    go_ret2
    exact ⟨rfl, rfl⟩

set_option maxHeartbeats 16000000 in
theorem rwithin_on (v : Value) (l : Row) (z : Int) (w : World) (hv : RowAt w v l) (hn : l.length ≤ 100000) (h0 : hrefR l (placeN l.length z) ≠ ⟨#[]⟩) :
    Calls Try.prog 27 #[v, .int .i64 z] w fun e w' => e = .returned (.tuple #[.int .i64 ((backN l (hrefR l (placeN l.length z)) (placeN l.length z) : Nat) : Int), .int .i64 ((forthN l (hrefR l (placeN l.length z)) (placeN l.length z) : Nat) : Int)]) ∧ w = w' := by
  have hle := placeN_le l.length z
  obtain ⟨k, hk⟩ : ∃ k, placeN l.length z = k := ⟨_, rfl⟩
  have hc := fun a c w => rplace_any a l.length c z w
  rw [hk] at h0 hc hle ⊢
  obtain ⟨H, hH⟩ : ∃ H, hrefR l k = H := ⟨_, rfl⟩
  rw [hH] at h0 ⊢
  have hpos : 0 < l.length := by
    have hH2 := hH
    unfold hrefR at hH2
    by_cases h : (aheadR l k).2.2 = ⟨#[]⟩
    · rw [if_pos h] at hH2
      have := atR_ne (l := l) (k := k) (by rw [hH2]; exact h0)
      omega
    · have := aheadR_ne h
      omega
  obtain ⟨b, o, c, rfl, hlc, hcm, hb, hcs⟩ := hv.lies hpos
  unfold maxLen at hcm
  replace hc := hc (some ⟨b, o, none⟩) c
  have hE := isEmpty_of_ne h0
  obtain ⟨n, hn'⟩ : ∃ n, l.length = n := ⟨_, rfl⟩
  rw [hn'] at hc hle hlc hpos hn
  rw [hn']
  have N := Lib.hid hn'
  have HC := Lib.hid hcs
  clear hn' hv hk hcs
  by_cases hA : (aheadR l k).2.2 = ⟨#[]⟩
  · have hB : (atR l k).2.2 = H := by unfold hrefR at hH; rwa [if_pos hA] at hH
    have hkn : k < n := by have := atR_ne (l := l) (k := k) (by rw [hB]; exact h0); have := N.out; omega
    have hkl : k < l.length := by have := N.out; omega
    obtain ⟨_, _, y3⟩ := HC.out k hkl
    rw [← atR_in hkl, hB] at y3
    have hkI : (k : Int) < (n : Int) := by omega
    rcases Nat.eq_zero_or_pos k with rfl | hk0
    · clear hH hA hB h0 hkl
      rw [show ((0 : Nat) : Int) = 0 from rfl] at hc
      go_enter Try.func27, Try.ntmps27
      go_wp2_with (go_at_call 40; ((with_reducible refine (hc _).mono ?_); rintro e w1 ⟨rfl, rfl⟩))
      go_loop [7] (fun f => f = .int .i64 0) (fun _ => 0)
      case atStart => rfl
      case round =>
        subst hrel
        go_wp2
        go_loop [8] (fun t => ∃ j2 : Nat, j2 ≤ n ∧ t = .int .i64 j2 ∧ Hid (forthN l H j2 = forthN l H 0)) (fun t => n - (intOf t).toNat)
        case atStart => exact ⟨0, hle, rfl, Lib.hid rfl⟩
        case round =>
          obtain ⟨j2, hj2, rfl, HJ2⟩ := hrel
          by_cases hlt : j2 < n
          · have hil2 : j2 < l.length := by have := N.out; omega
            obtain ⟨_, _, z3⟩ := HC.out j2 hil2
            have hat2 := atR_in hil2
            obtain ⟨X2, hX2⟩ : ∃ X2, (l[j2]!).2.2 = X2 := ⟨_, rfl⟩
            rw [hX2] at z3
            rw [← hat2] at hX2
            have hst := forthN_step (h := H) hil2
            rw [hX2] at hst
            have hjI : (j2 : Int) < (n : Int) := by omega
            clear hat2 hil2
            cases g2 : X2.toList == H.toList with
            | true =>
              have e : X2 = H := by rw [str_eq] at g2; simpa using g2
              have HS2 : Hid (forthN l H (j2 + 1) = forthN l H 0) := Lib.hid (by rw [if_pos e] at hst; rw [← hst]; exact HJ2.out)
              clear HJ2 e hX2 hst
              go_wp2
              go_round
              case rel => exact ⟨j2 + 1, hlt, by go_num, HS2⟩
              case measure => simp [intOf]; omega
            | false =>
              have e : ¬ X2 = H := by rw [str_eq] at g2; simpa using g2
              have HS2 : Hid (j2 = forthN l H 0) := Lib.hid (by rw [if_neg e] at hst; rw [← hst]; exact HJ2.out)
              clear HJ2 e hX2 hst
              go_wp2
              go_ret2
              exact ⟨ret_two rfl (by rw [← HS2.out]), rfl⟩
          · have hend : j2 = forthN l H 0 := by rw [← HJ2.out, forthN_end (by have := N.out; omega)]
            have HS2 := Lib.hid hend
            clear hend HJ2
            go_wp2
            go_ret2
            exact ⟨ret_two rfl (by rw [← HS2.out]), rfl⟩
    · obtain ⟨i0, hi0⟩ : ∃ i, k = i + 1 := ⟨k - 1, by omega⟩
      have hil : i0 < l.length := by omega
      obtain ⟨_, _, q3⟩ := HC.out i0 hil
      have e : aheadR l k = l[i0]! := by unfold aheadR; rw [if_pos (by omega), show k - 1 = i0 by omega, atR_in hil]
      rw [← e, hA] at q3
      have hiI : (i0 : Int) < (n : Int) := by omega
      have hkE : (k : Int) - 1 = (i0 : Int) := by omega
      have hk0I : (0 : Int) < (k : Int) := by omega
      clear hH hA hB h0 e hil hkl hi0
      go_enter Try.func27, Try.ntmps27
      go_wp2_with (go_at_call 40; ((with_reducible refine (hc _).mono ?_); rintro e w1 ⟨rfl, rfl⟩))
      go_loop [7] (fun f => ∃ j : Nat, j ≤ k ∧ f = .int .i64 j ∧ Hid (backN l H j = backN l H k)) (fun f => (intOf f).toNat)
      case atStart => exact ⟨k, Nat.le_refl _, rfl, Lib.hid rfl⟩
      case round =>
        obtain ⟨j, hj, rfl, HJ⟩ := hrel
        rcases Nat.eq_zero_or_pos j with rfl | hj0
        · rw [show ((0 : Nat) : Int) = 0 from rfl]
          go_wp2
          go_loop [8] (fun t => ∃ j2 : Nat, j2 ≤ n ∧ t = .int .i64 j2 ∧ Hid (forthN l H j2 = forthN l H k)) (fun t => n - (intOf t).toNat)
          case atStart => exact ⟨k, hle, rfl, Lib.hid rfl⟩
          case round =>
            obtain ⟨j2, hj2, rfl, HJ2⟩ := hrel
            by_cases hlt : j2 < n
            · have hil2 : j2 < l.length := by have := N.out; omega
              obtain ⟨_, _, z3⟩ := HC.out j2 hil2
              have hat2 := atR_in hil2
              obtain ⟨X2, hX2⟩ : ∃ X2, (l[j2]!).2.2 = X2 := ⟨_, rfl⟩
              rw [hX2] at z3
              rw [← hat2] at hX2
              have hst := forthN_step (h := H) hil2
              rw [hX2] at hst
              have hjI : (j2 : Int) < (n : Int) := by omega
              clear hat2 hil2
              cases g2 : X2.toList == H.toList with
              | true =>
                have e : X2 = H := by rw [str_eq] at g2; simpa using g2
                have HS2 : Hid (forthN l H (j2 + 1) = forthN l H k) := Lib.hid (by rw [if_pos e] at hst; rw [← hst]; exact HJ2.out)
                clear HJ2 e hX2 hst
                go_wp2
                go_round
                case rel => exact ⟨j2 + 1, hlt, by go_num, HS2⟩
                case measure => simp [intOf]; omega
              | false =>
                have e : ¬ X2 = H := by rw [str_eq] at g2; simpa using g2
                have HS2 : Hid (j2 = forthN l H k) := Lib.hid (by rw [if_neg e] at hst; rw [← hst]; exact HJ2.out)
                clear HJ2 e hX2 hst
                go_wp2
                go_ret2
                exact ⟨ret_two (by rw [← HJ.out]; rfl) (by rw [← HS2.out]), rfl⟩
            · have hend : j2 = forthN l H k := by rw [← HJ2.out, forthN_end (by have := N.out; omega)]
              have HS2 := Lib.hid hend
              clear hend HJ2
              go_wp2
              go_ret2
              exact ⟨ret_two (by rw [← HJ.out]; rfl) (by rw [← HS2.out]), rfl⟩
        · obtain ⟨i, rfl⟩ : ∃ i, j = i + 1 := ⟨j - 1, by omega⟩
          have hil : i < l.length := by have := N.out; omega
          obtain ⟨_, _, x3⟩ := HC.out i hil
          have hat := atR_in hil
          obtain ⟨X, hX⟩ : ∃ X, (l[i]!).2.2 = X := ⟨_, rfl⟩
          rw [hX] at x3
          rw [← hat] at hX
          have hin : i < n := by have := N.out; omega
          clear hat hil
          cases g1 : X.toList == H.toList with
          | true =>
            have e : X = H := by rw [str_eq] at g1; simpa using g1
            have HS : Hid (backN l H i = backN l H k) := Lib.hid (by have := HJ.out; rw [backN_succ] at this; rwa [if_pos (hX.trans e)] at this)
            clear HJ e hX
            rw [Int.natCast_add]
            go_wp2
            go_round
            case rel => exact ⟨i, by omega, by go_num, HS⟩
            case measure => simp [intOf]
          | false =>
            have e : ¬ X = H := by rw [str_eq] at g1; simpa using g1
            have HS : Hid (i + 1 = backN l H k) := Lib.hid (by have := HJ.out; rw [backN_succ] at this; rw [if_neg (fun q => e (hX.symm.trans q))] at this; exact this)
            clear HJ e hX
            rw [Int.natCast_add]
            go_wp2
            go_loop [8] (fun t => ∃ j2 : Nat, j2 ≤ n ∧ t = .int .i64 j2 ∧ Hid (forthN l H j2 = forthN l H k)) (fun t => n - (intOf t).toNat)
            case atStart => exact ⟨k, hle, rfl, Lib.hid rfl⟩
            case round =>
              obtain ⟨j2, hj2, rfl, HJ2⟩ := hrel
              by_cases hlt : j2 < n
              · have hil2 : j2 < l.length := by have := N.out; omega
                obtain ⟨_, _, z3⟩ := HC.out j2 hil2
                have hat2 := atR_in hil2
                obtain ⟨X2, hX2⟩ : ∃ X2, (l[j2]!).2.2 = X2 := ⟨_, rfl⟩
                rw [hX2] at z3
                rw [← hat2] at hX2
                have hst := forthN_step (h := H) hil2
                rw [hX2] at hst
                have hjI : (j2 : Int) < (n : Int) := by omega
                clear hat2 hil2
                cases g2 : X2.toList == H.toList with
                | true =>
                  have e : X2 = H := by rw [str_eq] at g2; simpa using g2
                  have HS2 : Hid (forthN l H (j2 + 1) = forthN l H k) := Lib.hid (by rw [if_pos e] at hst; rw [← hst]; exact HJ2.out)
                  clear HJ2 e hX2 hst
                  go_wp2
                  go_round
                  case rel => exact ⟨j2 + 1, hlt, by go_num, HS2⟩
                  case measure => simp [intOf]; omega
                | false =>
                  have e : ¬ X2 = H := by rw [str_eq] at g2; simpa using g2
                  have HS2 : Hid (j2 = forthN l H k) := Lib.hid (by rw [if_neg e] at hst; rw [← hst]; exact HJ2.out)
                  clear HJ2 e hX2 hst
                  go_wp2
                  go_ret2
                  exact ⟨ret_two (by rw [← HS.out]; rfl) (by rw [← HS2.out]), rfl⟩
              · have hend : j2 = forthN l H k := by rw [← HJ2.out, forthN_end (by have := N.out; omega)]
                have HS2 := Lib.hid hend
                clear hend HJ2
                go_wp2
                go_ret2
                exact ⟨ret_two (by rw [← HS.out]; rfl) (by rw [← HS2.out]), rfl⟩
  · have hA2 : (aheadR l k).2.2 = H := by unfold hrefR at hH; rwa [if_neg hA] at hH
    have hk0 := aheadR_ne hA
    obtain ⟨i0, hi0⟩ : ∃ i, k = i + 1 := ⟨k - 1, by omega⟩
    have hil : i0 < l.length := by have := N.out; omega
    obtain ⟨_, _, q3⟩ := HC.out i0 hil
    have e : aheadR l k = l[i0]! := by unfold aheadR; rw [if_pos (by omega), show k - 1 = i0 by omega, atR_in hil]
    rw [← e, hA2] at q3
    have hiI : (i0 : Int) < (n : Int) := by omega
    have hkE : (k : Int) - 1 = (i0 : Int) := by omega
    have hk0I : (0 : Int) < (k : Int) := by omega
    clear hH hA hA2 h0 e hil hi0
    go_enter Try.func27, Try.ntmps27
    go_wp2_with (go_at_call 40; ((with_reducible refine (hc _).mono ?_); rintro e w1 ⟨rfl, rfl⟩))
    go_loop [7] (fun f => ∃ j : Nat, j ≤ k ∧ f = .int .i64 j ∧ Hid (backN l H j = backN l H k)) (fun f => (intOf f).toNat)
    case atStart => exact ⟨k, Nat.le_refl _, rfl, Lib.hid rfl⟩
    case round =>
      obtain ⟨j, hj, rfl, HJ⟩ := hrel
      rcases Nat.eq_zero_or_pos j with rfl | hj0
      · rw [show ((0 : Nat) : Int) = 0 from rfl]
        go_wp2
        go_loop [8] (fun t => ∃ j2 : Nat, j2 ≤ n ∧ t = .int .i64 j2 ∧ Hid (forthN l H j2 = forthN l H k)) (fun t => n - (intOf t).toNat)
        case atStart => exact ⟨k, hle, rfl, Lib.hid rfl⟩
        case round =>
          obtain ⟨j2, hj2, rfl, HJ2⟩ := hrel
          by_cases hlt : j2 < n
          · have hil2 : j2 < l.length := by have := N.out; omega
            obtain ⟨_, _, z3⟩ := HC.out j2 hil2
            have hat2 := atR_in hil2
            obtain ⟨X2, hX2⟩ : ∃ X2, (l[j2]!).2.2 = X2 := ⟨_, rfl⟩
            rw [hX2] at z3
            rw [← hat2] at hX2
            have hst := forthN_step (h := H) hil2
            rw [hX2] at hst
            have hjI : (j2 : Int) < (n : Int) := by omega
            clear hat2 hil2
            cases g2 : X2.toList == H.toList with
            | true =>
              have e : X2 = H := by rw [str_eq] at g2; simpa using g2
              have HS2 : Hid (forthN l H (j2 + 1) = forthN l H k) := Lib.hid (by rw [if_pos e] at hst; rw [← hst]; exact HJ2.out)
              clear HJ2 e hX2 hst
              go_wp2
              go_round
              case rel => exact ⟨j2 + 1, hlt, by go_num, HS2⟩
              case measure => simp [intOf]; omega
            | false =>
              have e : ¬ X2 = H := by rw [str_eq] at g2; simpa using g2
              have HS2 : Hid (j2 = forthN l H k) := Lib.hid (by rw [if_neg e] at hst; rw [← hst]; exact HJ2.out)
              clear HJ2 e hX2 hst
              go_wp2
              go_ret2
              exact ⟨ret_two (by rw [← HJ.out]; rfl) (by rw [← HS2.out]), rfl⟩
          · have hend : j2 = forthN l H k := by rw [← HJ2.out, forthN_end (by have := N.out; omega)]
            have HS2 := Lib.hid hend
            clear hend HJ2
            go_wp2
            go_ret2
            exact ⟨ret_two (by rw [← HJ.out]; rfl) (by rw [← HS2.out]), rfl⟩
      · obtain ⟨i, rfl⟩ : ∃ i, j = i + 1 := ⟨j - 1, by omega⟩
        have hil : i < l.length := by have := N.out; omega
        obtain ⟨_, _, x3⟩ := HC.out i hil
        have hat := atR_in hil
        obtain ⟨X, hX⟩ : ∃ X, (l[i]!).2.2 = X := ⟨_, rfl⟩
        rw [hX] at x3
        rw [← hat] at hX
        have hin : i < n := by have := N.out; omega
        clear hat hil
        cases g1 : X.toList == H.toList with
        | true =>
          have e : X = H := by rw [str_eq] at g1; simpa using g1
          have HS : Hid (backN l H i = backN l H k) := Lib.hid (by have := HJ.out; rw [backN_succ] at this; rwa [if_pos (hX.trans e)] at this)
          clear HJ e hX
          rw [Int.natCast_add]
          go_wp2
          go_round
          case rel => exact ⟨i, by omega, by go_num, HS⟩
          case measure => simp [intOf]
        | false =>
          have e : ¬ X = H := by rw [str_eq] at g1; simpa using g1
          have HS : Hid (i + 1 = backN l H k) := Lib.hid (by have := HJ.out; rw [backN_succ] at this; rw [if_neg (fun q => e (hX.symm.trans q))] at this; exact this)
          clear HJ e hX
          rw [Int.natCast_add]
          go_wp2
          go_loop [8] (fun t => ∃ j2 : Nat, j2 ≤ n ∧ t = .int .i64 j2 ∧ Hid (forthN l H j2 = forthN l H k)) (fun t => n - (intOf t).toNat)
          case atStart => exact ⟨k, hle, rfl, Lib.hid rfl⟩
          case round =>
            obtain ⟨j2, hj2, rfl, HJ2⟩ := hrel
            by_cases hlt : j2 < n
            · have hil2 : j2 < l.length := by have := N.out; omega
              obtain ⟨_, _, z3⟩ := HC.out j2 hil2
              have hat2 := atR_in hil2
              obtain ⟨X2, hX2⟩ : ∃ X2, (l[j2]!).2.2 = X2 := ⟨_, rfl⟩
              rw [hX2] at z3
              rw [← hat2] at hX2
              have hst := forthN_step (h := H) hil2
              rw [hX2] at hst
              have hjI : (j2 : Int) < (n : Int) := by omega
              clear hat2 hil2
              cases g2 : X2.toList == H.toList with
              | true =>
                have e : X2 = H := by rw [str_eq] at g2; simpa using g2
                have HS2 : Hid (forthN l H (j2 + 1) = forthN l H k) := Lib.hid (by rw [if_pos e] at hst; rw [← hst]; exact HJ2.out)
                clear HJ2 e hX2 hst
                go_wp2
                go_round
                case rel => exact ⟨j2 + 1, hlt, by go_num, HS2⟩
                case measure => simp [intOf]; omega
              | false =>
                have e : ¬ X2 = H := by rw [str_eq] at g2; simpa using g2
                have HS2 : Hid (j2 = forthN l H k) := Lib.hid (by rw [if_neg e] at hst; rw [← hst]; exact HJ2.out)
                clear HJ2 e hX2 hst
                go_wp2
                go_ret2
                exact ⟨ret_two (by rw [← HS.out]; rfl) (by rw [← HS2.out]), rfl⟩
            · have hend : j2 = forthN l H k := by rw [← HJ2.out, forthN_end (by have := N.out; omega)]
              have HS2 := Lib.hid hend
              clear hend HJ2
              go_wp2
              go_ret2
              exact ⟨ret_two (by rw [← HS.out]; rfl) (by rw [← HS2.out]), rfl⟩

theorem rwithin_any (v : Value) (l : Row) (z : Int) (w : World) (hv : RowAt w v l) (hn : l.length ≤ 100000) :
    Calls Try.prog 27 #[v, .int .i64 z] w fun e w' => e = .returned (withinV l (placeN l.length z)) ∧ w = w' := by
  unfold withinV withinR
  by_cases h0 : hrefR l (placeN l.length z) = ⟨#[]⟩
  · rw [if_pos h0]; exact rwithin_off v l z w hv hn h0
  · rw [if_neg h0]; exact rwithin_on v l z w hv hn h0

end Go.Proofs.Ytiaoflagjaclmaa
