/-
  The law of Set: bits alone, of those cells alone. (Written by gen_lawstyles.py.)
-/
import Derived.Test.YtiaoflagjaclmaaDoorAwake
import Derived.Test.YtiaoflagjaclmaaDoorLong
import Derived.Test.YtiaoflagjaclmaaDoorSame
import Derived.Test.YtiaoflagjaclmaaDoorSetOut
import Derived.Test.YtiaoflagjaclmaaDoorBit
namespace Go.Proofs.YtiaoflagjaclmaaDoor
open Go.RowKit Go.Lib

set_option maxHeartbeats 40000000 in
set_option maxRecDepth 20000 in
theorem lawStyles_walk (v : Value) (l : Row) (f t s c : Int) (w : World) (hE : Tg.Env w) (hv : RowAt w v l) (hs : Sized l) :
    Calls Tryd.prog 5 #[v, .int .i64 f, .int .i64 t, .int .i64 s, .int .i64 c] w fun e w' => e = .returned (.bool true) ∧ Below w.heap.size w w' := by
  have haw := fun w => awake_any w
  have cL1 := long_any v l w hv hs
  by_cases b1 : longB l = true
  · rw [b1] at cL1
    clear hv hs hE
    go_enter Tryd.func5, Tryd.ntmps5
    go_wp2_with (first
      | (go_at_call 6; ((with_reducible refine cL1.mono ?_); rintro e w1 ⟨rfl, rfl⟩))
      | (go_at_call 7; ((with_reducible refine (haw _).mono ?_); rintro e w1 ⟨rfl, hb1⟩)))
    go_ret
    exact ⟨rfl, hb1⟩
  have b1' : longB l = false := by simpa using b1
  rw [b1'] at cL1
  have n1 := longB_false b1'
  by_cases hB : fitB l.length f t = true
  · have h' := of_decide_eq_true hB
    obtain ⟨i, rfl⟩ := Int.eq_ofNat_of_zero_le h'.1
    obtain ⟨j, rfl⟩ := Int.eq_ofNat_of_zero_le (show 0 ≤ t by omega)
    have hij : i ≤ j := by omega
    have hjl : j ≤ l.length := by omega
    have hfl := fair_of b1'
    have cS := set_on v l i j s c w hv (by omega) hij hjl
    have htw := turnR_twice (u := setC s c) (setC_twice s c) l i j
    have hcell : ∀ k, k < l.length → ((turnR (setC s c) l i j)[k]!).1 = (l[k]!).1 ∧ ((turnR (setC s c) l i j)[k]!).2.2 = (l[k]!).2.2 ∧ (¬ (i ≤ k ∧ k < j) → ((turnR (setC s c) l i j)[k]!).2.1 = (l[k]!).2.1) := fun k hk => by
      by_cases e : i ≤ k ∧ k < j
      · rw [turnR_in hk e.1 e.2]; exact ⟨rfl, rfl, fun h => absurd e h⟩
      · rw [turnR_off e]; exact ⟨rfl, rfl, fun _ => rfl⟩
    have hall := fun h => all_set l i j s c h hjl
    have hsome := some_cleared l i j s c
    have hmay := may_set l i j s c
    have hfM := fair_turn (u := setC s c) (fun _ => rfl) hfl i j
    have hlen := turnR_length (setC s c) l i j
    have cS2 := fun v1 w h => set_on v1 (turnR (setC s c) l i j) i j s c w h (by omega) hij (by omega)
    rw [htw] at cS2
    obtain ⟨M, hM⟩ : ∃ M, turnR (setC s c) l i j = M := ⟨_, rfl⟩
    rw [hM] at cS cS2 hcell hall hsome hmay hfM hlen
    have cA := fun v1 w h => call_any v1 M i j (lowZ s) w h (by omega)
    have cB := fun v1 w h => csome_any v1 M i j (bits .andNot .i64 (bits .and .i64 c 15) s) w h (by omega)
    rw [hsome] at cB
    have cP := fun w h hE => mayRow_any v l w h (by omega) hfl hE
    have cQ := fun v1 w h hE => mayRow_any v1 M w h (by omega) hfM hE
    have sM : ∀ v1 v2 w, RowAt w v1 M → RowAt w v2 M → Calls Tryd.prog 12 #[v1, v2] w fun e w' => e = .returned (.bool true) ∧ Below w.heap.size w w' := fun v1 v2 w h1 h2 => by
      have h := same_any v1 v2 M M w h1 h2
      rwa [show sameR M M = true from decide_eq_true rfl] at h
    unfold RowPost at cS cS2
    obtain ⟨B1, hB1⟩ : ∃ B, mayR l = B := ⟨_, rfl⟩
    obtain ⟨B2, hB2⟩ : ∃ B, mayR M = B := ⟨_, rfl⟩
    rw [hB1] at cP hmay
    rw [hB2] at cQ hmay
    have V := Lib.hid hv
    have HE := Lib.hid hE
    obtain ⟨a, c0, rfl⟩ := hv.len
    obtain ⟨n, hn⟩ : ∃ n, l.length = n := ⟨_, rfl⟩
    rw [hn] at n1 hjl hlen cL1 cS cP V ⊢
    rw [hlen] at cS cS2
    have N := Lib.hid hn
    have NM := Lib.hid hlen
    have HC := Lib.hid hcell
    have HAll := Lib.hid hall
    have HMay := Lib.hid hmay
    clear hv hs b1 b1' hB h' hn hlen hcell hall hmay hM hB1 hB2 hsome hfM hfl htw hE
    go_enter Tryd.func5, Tryd.ntmps5
    go_wp2_with (first
      | (go_at_call 6; ((with_reducible refine cL1.mono ?_); rintro e w1 ⟨rfl, rfl⟩))
      | (go_at_call 15; ((with_reducible refine cS.mono ?_); rintro e w1 ⟨v1, rfl, own1, hb⟩; obtain ⟨a1, c1, e1⟩ := own_len own1; subst e1; rw [← NM.out] at own1; have A1 := Lib.hid (rowAt_of_own own1); clear own1; rw [NM.out] at A1; replace V := Lib.hid (V.out.below hb); replace HE := Lib.hid (HE.out.below hb))))
    go_loopw [13] (fun q wr => ∃ k : Nat, k ≤ n ∧ q = .int .i64 k ∧ ∃ z, wr = w1.drewN z) (fun q _ => n - (RowKit.intOf q).toNat)
    case atStart => exact ⟨0, Nat.zero_le _, rfl, 0, rfl⟩
    case round =>
      obtain ⟨k, hk, rfl, z, rfl⟩ := hrel
      by_cases hlt : k < n
      · have hkI : (k : Int) < (n : Int) := by omega
        have hkl : k < l.length := by rw [N.out]; exact hlt
        obtain ⟨b1, o1, d1, e, hl1, hm1, hb1, hc1⟩ := V.out.lies (by omega)
        obtain ⟨b2, o2, d2, e', hl2, hm2, hb2, hc2⟩ := A1.out.lies (by rw [NM.out]; omega)
        rw [N.out] at e hl1
        rw [NM.out] at e' hl2
        obtain ⟨rfl, _, rfl⟩ := Value.slice.inj e
        obtain ⟨rfl, _, rfl⟩ := Value.slice.inj e'
        unfold maxLen at hm1 hm2
        obtain ⟨x1, x2, x3⟩ := hc1 k hkl
        obtain ⟨y1, y2, y3⟩ := hc2 k (by rw [NM.out]; exact hlt)
        obtain ⟨k1, k2, k3⟩ := HC.out k hkl
        rw [k1] at y1
        rw [k2] at y3
        obtain ⟨X, hX⟩ : ∃ X, l[k]! = X := ⟨_, rfl⟩
        rw [hX] at x1 x2 x3 y1 y3 k3
        obtain ⟨Y, hY⟩ : ∃ Y, (M[k]!).2.1 = Y := ⟨_, rfl⟩
        rw [hY] at y2 k3
        obtain ⟨X1, X2, X3⟩ := X
        dsimp only at x1 x2 x3 y1 y3 k3
        clear hX hY hc1 hc2 k1 k2 e e' hkl
        by_cases g1 : i ≤ k
        · by_cases g2 : k < j
          · have g2I : (k : Int) < (j : Int) := by omega
            have g1I : (i : Int) ≤ (k : Int) := by omega
            clear k3
            go_wp2
            go_quiet (fail)
            go_wp2
            go_roundw
            case rel => exact ⟨k + 1, hlt, by go_num, _, rfl⟩
            case measure => simp [RowKit.intOf]; omega
          · have g2I : ¬ (k : Int) < (j : Int) := by omega
            have g1I : (i : Int) ≤ (k : Int) := by omega
            obtain rfl : Y = X2 := k3 (fun h => g2 h.2)
            clear k3
            go_wp2
            go_quiet (fail)
            go_wp2
            go_roundw
            case rel => exact ⟨k + 1, hlt, by go_num, _, rfl⟩
            case measure => simp [RowKit.intOf]; omega
        · have g1I : ¬ (i : Int) ≤ (k : Int) := by omega
          obtain rfl : Y = X2 := k3 (fun h => g1 h.1)
          clear k3
          go_wp2
          go_quiet (fail)
          go_wp2
          go_roundw
          case rel => exact ⟨k + 1, hlt, by go_num, _, rfl⟩
          case measure => simp [RowKit.intOf]; omega
      · have hkn : k = n := by omega
        subst hkn
        have hd := below_draws w1 z
        obtain ⟨w2, hw2⟩ : ∃ W, w1.drewN z = W := ⟨_, rfl⟩
        rw [hw2] at hd ⊢
        replace V := Lib.hid (V.out.below hd)
        replace HE := Lib.hid (HE.out.below hd)
        replace A1 := Lib.hid (A1.out.below hd)
        replace hb := hb.trans (hd.mono hb.size)
        clear hw2 hd hlt hk
        by_cases hEq : i = j
        · subst hEq
          clear HAll cA
          cases B1 with
          | true =>
            obtain rfl : B2 = true := HMay.out rfl
            clear HMay
            go_wp2_with (first
              | (go_at_call 15; ((with_reducible refine (cS2 _ _ A1.out).mono ?_); rintro e w3 ⟨v3, rfl, own3, hb3⟩; rw [← NM.out] at own3; have A3 := Lib.hid (rowAt_of_own own3); clear own3; replace A1 := Lib.hid (A1.out.below hb3); replace V := Lib.hid (V.out.below hb3); replace HE := Lib.hid (HE.out.below hb3); replace hb := hb.trans (hb3.mono hb.size)))
              | (go_at_call 12; ((with_reducible refine (sM _ _ _ A3.out A1.out).mono ?_); rintro e w4 ⟨rfl, hb4⟩; replace A1 := Lib.hid (A1.out.below hb4); replace V := Lib.hid (V.out.below hb4); replace HE := Lib.hid (HE.out.below hb4); replace hb := hb.trans (hb4.mono hb.size)))
              | (go_at_call 22; ((with_reducible refine (cB _ _ A1.out).mono ?_); rintro e w6 ⟨rfl, hb6⟩; replace A1 := Lib.hid (A1.out.below hb6); replace V := Lib.hid (V.out.below hb6); replace HE := Lib.hid (HE.out.below hb6); replace hb := hb.trans (hb6.mono hb.size)))
              | (go_at_call 8; ((with_reducible refine (cP _ V.out HE.out).mono ?_); rintro e w7 ⟨rfl, hb7⟩; replace A1 := Lib.hid (A1.out.below hb7); replace HE := Lib.hid (HE.out.below hb7); replace hb := hb.trans (hb7.mono hb.size)))
              | (go_at_call 8; ((with_reducible refine (cQ _ _ A1.out HE.out).mono ?_); rintro e w8 ⟨rfl, hb8⟩; replace hb := hb.trans (hb8.mono hb.size)))
              | (go_at_call 7; ((with_reducible refine (haw _).mono ?_); rintro e w9 ⟨rfl, hb9⟩; replace hb := hb.trans (hb9.mono hb.size))))
            go_ret
            exact ⟨rfl, hb⟩
          | false =>
            clear HMay cQ
            go_wp2_with (first
              | (go_at_call 15; ((with_reducible refine (cS2 _ _ A1.out).mono ?_); rintro e w3 ⟨v3, rfl, own3, hb3⟩; rw [← NM.out] at own3; have A3 := Lib.hid (rowAt_of_own own3); clear own3; replace A1 := Lib.hid (A1.out.below hb3); replace V := Lib.hid (V.out.below hb3); replace HE := Lib.hid (HE.out.below hb3); replace hb := hb.trans (hb3.mono hb.size)))
              | (go_at_call 12; ((with_reducible refine (sM _ _ _ A3.out A1.out).mono ?_); rintro e w4 ⟨rfl, hb4⟩; replace A1 := Lib.hid (A1.out.below hb4); replace V := Lib.hid (V.out.below hb4); replace HE := Lib.hid (HE.out.below hb4); replace hb := hb.trans (hb4.mono hb.size)))
              | (go_at_call 22; ((with_reducible refine (cB _ _ A1.out).mono ?_); rintro e w6 ⟨rfl, hb6⟩; replace A1 := Lib.hid (A1.out.below hb6); replace V := Lib.hid (V.out.below hb6); replace HE := Lib.hid (HE.out.below hb6); replace hb := hb.trans (hb6.mono hb.size)))
              | (go_at_call 8; ((with_reducible refine (cP _ V.out HE.out).mono ?_); rintro e w7 ⟨rfl, hb7⟩; replace A1 := Lib.hid (A1.out.below hb7); replace HE := Lib.hid (HE.out.below hb7); replace hb := hb.trans (hb7.mono hb.size)))
              | (go_at_call 7; ((with_reducible refine (haw _).mono ?_); rintro e w9 ⟨rfl, hb9⟩; replace hb := hb.trans (hb9.mono hb.size))))
            go_ret
            exact ⟨rfl, hb⟩
        · have hlt2 : i < j := by omega
          have hEqI : ¬ (i : Int) = (j : Int) := by omega
          have hA := HAll.out hlt2
          rw [hA] at cA
          unfold lowZ at cA
          clear hA
          cases B1 with
          | true =>
            obtain rfl : B2 = true := HMay.out rfl
            clear HMay
            go_wp2_with (first
              | (go_at_call 15; ((with_reducible refine (cS2 _ _ A1.out).mono ?_); rintro e w3 ⟨v3, rfl, own3, hb3⟩; rw [← NM.out] at own3; have A3 := Lib.hid (rowAt_of_own own3); clear own3; replace A1 := Lib.hid (A1.out.below hb3); replace V := Lib.hid (V.out.below hb3); replace HE := Lib.hid (HE.out.below hb3); replace hb := hb.trans (hb3.mono hb.size)))
              | (go_at_call 12; ((with_reducible refine (sM _ _ _ A3.out A1.out).mono ?_); rintro e w4 ⟨rfl, hb4⟩; replace A1 := Lib.hid (A1.out.below hb4); replace V := Lib.hid (V.out.below hb4); replace HE := Lib.hid (HE.out.below hb4); replace hb := hb.trans (hb4.mono hb.size)))
              | (go_at_call 20; ((with_reducible refine (cA _ _ A1.out).mono ?_); rintro e w5 ⟨rfl, hb5⟩; replace A1 := Lib.hid (A1.out.below hb5); replace V := Lib.hid (V.out.below hb5); replace HE := Lib.hid (HE.out.below hb5); replace hb := hb.trans (hb5.mono hb.size)))
              | (go_at_call 22; ((with_reducible refine (cB _ _ A1.out).mono ?_); rintro e w6 ⟨rfl, hb6⟩; replace A1 := Lib.hid (A1.out.below hb6); replace V := Lib.hid (V.out.below hb6); replace HE := Lib.hid (HE.out.below hb6); replace hb := hb.trans (hb6.mono hb.size)))
              | (go_at_call 8; ((with_reducible refine (cP _ V.out HE.out).mono ?_); rintro e w7 ⟨rfl, hb7⟩; replace A1 := Lib.hid (A1.out.below hb7); replace HE := Lib.hid (HE.out.below hb7); replace hb := hb.trans (hb7.mono hb.size)))
              | (go_at_call 8; ((with_reducible refine (cQ _ _ A1.out HE.out).mono ?_); rintro e w8 ⟨rfl, hb8⟩; replace hb := hb.trans (hb8.mono hb.size)))
              | (go_at_call 7; ((with_reducible refine (haw _).mono ?_); rintro e w9 ⟨rfl, hb9⟩; replace hb := hb.trans (hb9.mono hb.size))))
            go_ret
            exact ⟨rfl, hb⟩
          | false =>
            clear HMay cQ
            go_wp2_with (first
              | (go_at_call 15; ((with_reducible refine (cS2 _ _ A1.out).mono ?_); rintro e w3 ⟨v3, rfl, own3, hb3⟩; rw [← NM.out] at own3; have A3 := Lib.hid (rowAt_of_own own3); clear own3; replace A1 := Lib.hid (A1.out.below hb3); replace V := Lib.hid (V.out.below hb3); replace HE := Lib.hid (HE.out.below hb3); replace hb := hb.trans (hb3.mono hb.size)))
              | (go_at_call 12; ((with_reducible refine (sM _ _ _ A3.out A1.out).mono ?_); rintro e w4 ⟨rfl, hb4⟩; replace A1 := Lib.hid (A1.out.below hb4); replace V := Lib.hid (V.out.below hb4); replace HE := Lib.hid (HE.out.below hb4); replace hb := hb.trans (hb4.mono hb.size)))
              | (go_at_call 20; ((with_reducible refine (cA _ _ A1.out).mono ?_); rintro e w5 ⟨rfl, hb5⟩; replace A1 := Lib.hid (A1.out.below hb5); replace V := Lib.hid (V.out.below hb5); replace HE := Lib.hid (HE.out.below hb5); replace hb := hb.trans (hb5.mono hb.size)))
              | (go_at_call 22; ((with_reducible refine (cB _ _ A1.out).mono ?_); rintro e w6 ⟨rfl, hb6⟩; replace A1 := Lib.hid (A1.out.below hb6); replace V := Lib.hid (V.out.below hb6); replace HE := Lib.hid (HE.out.below hb6); replace hb := hb.trans (hb6.mono hb.size)))
              | (go_at_call 8; ((with_reducible refine (cP _ V.out HE.out).mono ?_); rintro e w7 ⟨rfl, hb7⟩; replace A1 := Lib.hid (A1.out.below hb7); replace HE := Lib.hid (HE.out.below hb7); replace hb := hb.trans (hb7.mono hb.size)))
              | (go_at_call 7; ((with_reducible refine (haw _).mono ?_); rintro e w9 ⟨rfl, hb9⟩; replace hb := hb.trans (hb9.mono hb.size))))
            go_ret
            exact ⟨rfl, hb⟩
  · have hB2 : fitB l.length f t = false := by simpa using hB
    have cS := set_off v l f t s c w hv hB2
    unfold errV at cS
    clear hv hs hE b1 b1' hB hB2
    go_enter Tryd.func5, Tryd.ntmps5
    go_wp2_with (first
      | (go_at_call 6; ((with_reducible refine cL1.mono ?_); rintro e w1 ⟨rfl, rfl⟩))
      | (go_at_call 15; ((with_reducible refine cS.mono ?_); rintro e w1 ⟨rfl, hb⟩))
      | (go_at_call 7; ((with_reducible refine (haw _).mono ?_); rintro e w2 ⟨rfl, hb2⟩; replace hb := hb.trans (hb2.mono hb.size))))
    go_ret
    exact ⟨rfl, hb⟩

end Go.Proofs.YtiaoflagjaclmaaDoor
