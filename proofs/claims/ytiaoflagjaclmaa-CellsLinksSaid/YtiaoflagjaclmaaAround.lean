/-
  The program's and the document's Around.
-/
import Derived.Test.YtiaoflagjaclmaaDocWithin
import Derived.Deep.QuietTactic
import Derived.BigQuiet
namespace Go.Proofs.Ytiaoflagjaclmaa
open Go.RowKit Go.Lib

def arB (l : Row) (k : Nat) : Int := if k = 0 then (atR l 0).2.1 else (aheadR l k).2.1
def arH (l : Row) (k : Nat) : ByteArray := if (aheadR l k).2.2 = (atR l k).2.2 then (aheadR l k).2.2 else ⟨#[]⟩
theorem ret_pair {a c : Int} {b d : ByteArray} (h : a = c) (k : b = d) : Ending.returned (.tuple #[.int .i64 a, .string b]) = .returned (.tuple #[.int .i64 c, .string d]) := by rw [h, k]
theorem ce0_h : ce0.2.2 = ⟨#[]⟩ := rfl

set_option maxHeartbeats 8000000 in
theorem around_any (v : Value) (l : Row) (z : Int) (w : World) (hv : RowAt w v l) (hn : l.length ≤ 100000) :
    Calls Try.prog 24 #[v, .int .i64 z] w fun e w' => e = .returned (.tuple #[.int .i64 (arB l (placeN l.length z)), .string (arH l (placeN l.length z))]) ∧ Below w.heap.size w w' := by
  obtain ⟨a, c, rfl⟩ := hv.len
  have hc := fun w => clamp_any a l.length c z w hn
  have hle := placeN_le l.length z
  obtain ⟨k, hk⟩ : ∃ k, placeN l.length z = k := ⟨_, rfl⟩
  rw [hk] at hc hle ⊢
  have hbs := beside_out _ l k w hv hn hle _ _ rfl rfl
  obtain ⟨A, hA⟩ : ∃ A, aheadR l k = A := ⟨_, rfl⟩
  obtain ⟨B, hB⟩ : ∃ B, atR l k = B := ⟨_, rfl⟩
  obtain ⟨X, hX⟩ : ∃ X, arB l k = X := ⟨_, rfl⟩
  obtain ⟨Y, hY⟩ : ∃ Y, arH l k = Y := ⟨_, rfl⟩
  rw [hX, hY]
  unfold arB at hX
  unfold arH at hY
  rw [hA, hB] at hbs hY
  rw [hA] at hX
  obtain ⟨n, hn'⟩ : ∃ n, l.length = n := ⟨_, rfl⟩
  rw [hn'] at hc hbs hle
  rw [hn']
  clear hk hv hn' hn hA
  have e8 : ∀ wx : World, Below w.heap.size w wx → ∀ o1 o2, Below w.heap.size w ((wx.alloc o1).alloc o2) := fun wx h o1 o2 => h.trans ((((Below.refl _ _).alloc (Nat.le_refl _) _).alloc (by simp) _).mono h.size)
  rcases Nat.eq_zero_or_pos k with rfl | hk0
  · rw [if_pos rfl, hB] at hX
    clear hB hle
    have HX := Lib.hid hX
    clear hX
    rw [show ((0 : Nat) : Int) = 0 from rfl] at hc hbs
    cases g : A.2.2.toList == B.2.2.toList with
    | true =>
      have e : A.2.2 = B.2.2 := by rw [str_eq] at g; simpa using g
      rw [if_pos e] at hY
      have HY := Lib.hid hY
      clear hY e
      go_enter Try.func24, Try.ntmps24
      go_wp2_with (first
        | (go_at_call 38; ((with_reducible refine (hc _).mono ?_); rintro e w1 ⟨rfl, rfl⟩))
        | (go_at_call 39; ((with_reducible refine hbs.mono ?_); rintro e w1 ⟨rfl, hb1⟩)))
      go_ret2
      exact ⟨ret_pair HX.out HY.out, e8 _ hb1 _ _⟩
    | false =>
      have e : ¬ A.2.2 = B.2.2 := by rw [str_eq] at g; simpa using g
      rw [if_neg e] at hY
      have HY := Lib.hid hY
      clear hY e
      go_enter Try.func24, Try.ntmps24
      go_wp2_with (first
        | (go_at_call 38; ((with_reducible refine (hc _).mono ?_); rintro e w1 ⟨rfl, rfl⟩))
        | (go_at_call 39; ((with_reducible refine hbs.mono ?_); rintro e w1 ⟨rfl, hb1⟩)))
      go_ret2
      exact ⟨ret_pair HX.out HY.out, e8 _ hb1 _ _⟩
  · have hkne : ¬ (k : Int) = 0 := by omega
    have hkI : ((k : Int) == 0) = false := by simpa using hkne
    rw [if_neg (by omega)] at hX
    have HX := Lib.hid hX
    clear hX hB
    cases g : A.2.2.toList == B.2.2.toList with
    | true =>
      have e : A.2.2 = B.2.2 := by rw [str_eq] at g; simpa using g
      rw [if_pos e] at hY
      have HY := Lib.hid hY
      clear hY e
      go_enter Try.func24, Try.ntmps24
      go_wp2_with (first
        | (go_at_call 38; ((with_reducible refine (hc _).mono ?_); rintro e w1 ⟨rfl, rfl⟩))
        | (go_at_call 39; ((with_reducible refine hbs.mono ?_); rintro e w1 ⟨rfl, hb1⟩)))
      go_ret2
      exact ⟨ret_pair HX.out HY.out, e8 _ hb1 _ _⟩
    | false =>
      have e : ¬ A.2.2 = B.2.2 := by rw [str_eq] at g; simpa using g
      rw [if_neg e] at hY
      have HY := Lib.hid hY
      clear hY e
      go_enter Try.func24, Try.ntmps24
      go_wp2_with (first
        | (go_at_call 38; ((with_reducible refine (hc _).mono ?_); rintro e w1 ⟨rfl, rfl⟩))
        | (go_at_call 39; ((with_reducible refine hbs.mono ?_); rintro e w1 ⟨rfl, hb1⟩)))
      go_ret2
      exact ⟨ret_pair HX.out HY.out, e8 _ hb1 _ _⟩

set_option maxHeartbeats 16000000 in
theorem raround_any (v : Value) (l : Row) (z : Int) (w : World) (hv : RowAt w v l) :
    Calls Try.prog 25 #[v, .int .i64 z] w fun e w' => e = .returned (.tuple #[.int .i64 (arB l (placeN l.length z)), .string (arH l (placeN l.length z))]) ∧ Below w.heap.size w w' := by
  have hle := placeN_le l.length z
  have hc := fun a c w => rplace_any a l.length c z w
  obtain ⟨k, hk⟩ : ∃ k, placeN l.length z = k := ⟨_, rfl⟩
  rw [hk] at hc hle ⊢
  clear hk
  obtain ⟨X, hX⟩ : ∃ X, arB l k = X := ⟨_, rfl⟩
  obtain ⟨Y, hY⟩ : ∃ Y, arH l k = Y := ⟨_, rfl⟩
  rw [hX, hY]
  unfold arB at hX
  unfold arH at hY
  by_cases hpos : 0 < l.length
  · obtain ⟨b, o, c, rfl, hlc, hcm, hb, hcs⟩ := hv.lies hpos
    unfold maxLen at hcm
    replace hc := hc (some ⟨b, o, none⟩) c
    rcases Nat.eq_zero_or_pos k with rfl | hk0
    · obtain ⟨_, y2, _⟩ := hcs 0 hpos
      rw [if_pos rfl, atR_in hpos] at hX
      obtain ⟨A, hA⟩ : ∃ A, l[0]! = A := ⟨_, rfl⟩
      rw [hA] at hX y2
      have ha : (aheadR l 0).2.2 = ⟨#[]⟩ := rfl
      rw [ha] at hY
      have hY2 : ⟨#[]⟩ = Y := by
        by_cases h : (⟨#[]⟩ : ByteArray) = (atR l 0).2.2
        · rw [if_pos h] at hY; exact hY
        · rw [if_neg h] at hY; exact hY
      have HX := Lib.hid hX
      have HY := Lib.hid hY2
      obtain ⟨n, hn'⟩ : ∃ n, l.length = n := ⟨_, rfl⟩
      have hposI : (0 : Int) < (n : Int) := by omega
      rw [hn'] at hc hlc ⊢
      rw [Nat.zero_mul, Nat.add_zero] at y2
      clear hcs hX hY hY2 ha hv hn' hA
      rw [show ((0 : Nat) : Int) = 0 from rfl] at hc
      go_enter Try.func25, Try.ntmps25
      go_wp2_with (go_at_call 40; ((with_reducible refine (hc _).mono ?_); rintro e w1 ⟨rfl, rfl⟩))
      go_quiet (fail)
      go_wp2
      go_ret2
      first | exact ⟨ret_pair HX.out HY.out, below_draws w _⟩ | exact ⟨ret_pair HX.out HY.out, Below.refl _ _⟩ | exact ⟨ret_pair HX.out HY.out, (Below.refl _ w).drew⟩
    · obtain ⟨i, hi⟩ : ∃ i, k = i + 1 := ⟨k - 1, by omega⟩
      have hil : i < l.length := by omega
      obtain ⟨_, x2, x3⟩ := hcs i hil
      have e : aheadR l k = l[i]! := by unfold aheadR; rw [if_pos (by omega), show k - 1 = i by omega, atR_in hil]
      rw [if_neg (by omega), e] at hX
      rw [e] at hY
      have hk1 : (k : Int) - 1 = (i : Int) := by omega
      have hk2 : (0 : Int) < (k : Int) := by omega
      have hk3 : (i : Int) < (l.length : Int) := by omega
      obtain ⟨A, hA⟩ : ∃ A, l[i]! = A := ⟨_, rfl⟩
      rw [hA] at hX hY x2 x3
      have HX := Lib.hid hX
      clear hX e hA
      by_cases hlt : k < l.length
      · obtain ⟨_, _, y3⟩ := hcs k hlt
        rw [atR_in hlt] at hY
        obtain ⟨B, hB⟩ : ∃ B, l[k]! = B := ⟨_, rfl⟩
        rw [hB] at hY y3
        have hltI : (k : Int) < (l.length : Int) := by omega
        obtain ⟨n, hn'⟩ : ∃ n, l.length = n := ⟨_, rfl⟩
        rw [hn'] at hc hlc hk3 hltI ⊢
        clear hB hcs hv hn' hi hil hpos hlt hk0 hle
        cases g : A.2.2.toList == B.2.2.toList with
        | true =>
          have e : A.2.2 = B.2.2 := by rw [str_eq] at g; simpa using g
          rw [if_pos e, e] at hY
          have HY := Lib.hid hY
          clear hY e
          go_enter Try.func25, Try.ntmps25
          go_wp2_with (go_at_call 40; ((with_reducible refine (hc _).mono ?_); rintro e w1 ⟨rfl, rfl⟩))
          go_quiet (fail)
          go_wp2
          go_ret2
          first | exact ⟨ret_pair HX.out HY.out, below_draws w _⟩ | exact ⟨ret_pair HX.out HY.out, Below.refl _ _⟩ | exact ⟨ret_pair HX.out HY.out, (Below.refl _ w).drew⟩
        | false =>
          have e : ¬ A.2.2 = B.2.2 := by rw [str_eq] at g; simpa using g
          rw [if_neg e] at hY
          have HY := Lib.hid hY
          clear hY e
          go_enter Try.func25, Try.ntmps25
          go_wp2_with (go_at_call 40; ((with_reducible refine (hc _).mono ?_); rintro e w1 ⟨rfl, rfl⟩))
          go_quiet (fail)
          go_wp2
          go_ret2
          first | exact ⟨ret_pair HX.out HY.out, below_draws w _⟩ | exact ⟨ret_pair HX.out HY.out, Below.refl _ _⟩ | exact ⟨ret_pair HX.out HY.out, (Below.refl _ w).drew⟩
      · have hB : (atR l k).2.2 = ⟨#[]⟩ := by rw [atR_out (by omega)]; rfl
        rw [hB] at hY
        have hY2 : ⟨#[]⟩ = Y := by
          by_cases h : A.2.2 = (⟨#[]⟩ : ByteArray)
          · rw [if_pos h] at hY; rw [← hY, h]
          · rw [if_neg h] at hY; exact hY
        have HY := Lib.hid hY2
        have hltI : ¬ (k : Int) < (l.length : Int) := by omega
        obtain ⟨n, hn'⟩ : ∃ n, l.length = n := ⟨_, rfl⟩
        rw [hn'] at hc hlc hk3 hltI ⊢
        have hltN : ¬ k < n := by omega
        clear hB hcs hv hn' hi hil hpos hlt hk0 hle hY hY2
        go_enter Try.func25, Try.ntmps25
        go_wp2_with (go_at_call 40; ((with_reducible refine (hc _).mono ?_); rintro e w1 ⟨rfl, rfl⟩))
        go_quiet (fail)
        go_wp2
        go_ret2
        first | exact ⟨ret_pair HX.out HY.out, below_draws w _⟩ | exact ⟨ret_pair HX.out HY.out, Below.refl _ _⟩ | exact ⟨ret_pair HX.out HY.out, (Below.refl _ w).drew⟩
  · obtain ⟨a, c, rfl⟩ := hv.len
    have hk0 : k = 0 := by omega
    have hz : l.length = 0 := by omega
    subst hk0
    rw [if_pos rfl, atR_out (by omega)] at hX
    have ha : (aheadR l 0).2.2 = ⟨#[]⟩ := rfl
    rw [ha, atR_out (by omega)] at hY
    have HX : Hid (0 = X) := Lib.hid hX
    have HY : Hid (⟨#[]⟩ = Y) := Lib.hid (by rw [← hY]; rfl)
    replace hc := hc a c
    rw [hz] at hc ⊢
    clear hv hX hY ha hle hpos hz
    rw [show ((0 : Nat) : Int) = 0 from rfl] at hc
    go_enter Try.func25, Try.ntmps25
    go_wp2_with (go_at_call 40; ((with_reducible refine (hc _).mono ?_); rintro e w1 ⟨rfl, rfl⟩))
    go_quiet (fail)
    go_wp2
    go_ret2
    first | exact ⟨ret_pair HX.out HY.out, below_draws w _⟩ | exact ⟨ret_pair HX.out HY.out, Below.refl _ _⟩ | exact ⟨ret_pair HX.out HY.out, (Below.refl _ w).drew⟩

end Go.Proofs.Ytiaoflagjaclmaa
