/-
  The program's places: clamp, beside; Within, Around.
-/
import Derived.Test.YtiaoflagjaclmaaDoorRow
namespace Go.Proofs.YtiaoflagjaclmaaDoor
open Go.RowKit Go.Lib

/-- A place within a row. -/
def placeN (n : Nat) (z : Int) : Nat := if z < 0 then 0 else if (n : Int) < z then n else z.toNat
theorem placeN_le (n : Nat) (z : Int) : placeN n z ≤ n := by unfold placeN; split <;> (try split) <;> omega

set_option maxHeartbeats 1000000 in
theorem clamp_any (a : Option Addr) (n c : Nat) (z : Int) (w : World) (hn : n ≤ 100000) :
    Calls Tryd.prog 46 #[.slice a n c, .int .i64 z] w fun e w' => e = .returned (.int .i64 ((placeN n z : Nat) : Int)) ∧ w = w' := by
  unfold placeN
  by_cases h0 : z < 0
  · rw [if_pos h0]
    have h1 : ¬ 0 ≤ z := by omega
    go_enter Tryd.func46, Tryd.ntmps46
    go_wp2
    go_ret
    exact ⟨ret_int (by omega), rfl⟩
  · rw [if_neg h0]
    by_cases h1 : (n : Int) < z
    · rw [if_pos h1]
      go_enter Tryd.func46, Tryd.ntmps46
      go_wp2
      go_ret
      exact ⟨ret_int (by omega), rfl⟩
    · rw [if_neg h1]
      go_enter Tryd.func46, Tryd.ntmps46
      go_wp2
      go_ret
      exact ⟨ret_int (by omega), rfl⟩

/-- The cell at a place, or none. -/
def atR (l : Row) (k : Nat) : Ce := l.getD k ce0
def aheadR (l : Row) (k : Nat) : Ce := if 0 < k then atR l (k - 1) else ce0
theorem atR_in {l : Row} {k : Nat} (h : k < l.length) : atR l k = l[k]! := by
  unfold atR
  rw [List.getD_eq_getElem?_getD, List.getElem!_eq_getElem?_getD, List.getElem?_eq_getElem h]; rfl
theorem atR_out {l : Row} {k : Nat} (h : l.length ≤ k) : atR l k = ce0 := by
  unfold atR
  rw [List.getD_eq_getElem?_getD, List.getElem?_eq_none h]; rfl

theorem two_new (w : World) (a b : Array Value) (t u : TypeId) : Below w.heap.size w ((w.alloc (.cells a t)).alloc (.cells b u)).drew :=
  (((Below.refl _ w).alloc (Nat.le_refl _) _).alloc (by simp) _).drew

set_option maxHeartbeats 4000000 in
theorem beside_any (v : Value) (l : Row) (k : Nat) (w : World) (hv : RowAt w v l) (hn : l.length ≤ 100000) (hk : k ≤ l.length) :
    Calls Tryd.prog 47 #[v, .int .i64 (k : Int)] w fun e w' => e = .returned (.tuple #[aggC (aheadR l k), aggC (atR l k)]) ∧ Below w.heap.size w w' := by

  rcases Nat.eq_zero_or_pos k with rfl | hk0
  · have e0 : aheadR l 0 = ce0 := rfl
    rw [e0, show ((0 : Nat) : Int) = 0 from rfl]
    unfold ce0
    by_cases hl : 0 < l.length
    · obtain ⟨b, o, c, rfl, hlc, hcm, hb, hcs⟩ := hv.lies hl
      unfold maxLen at hcm
      obtain ⟨y1, y2, y3⟩ := hcs 0 hl
      rw [atR_in hl]
      obtain ⟨B, hB⟩ : ∃ B, l[0]! = B := ⟨_, rfl⟩
      rw [hB] at y1 y2 y3 ⊢
      obtain ⟨B1, B2, B3⟩ := B
      simp only [Nat.zero_mul, Nat.add_zero] at y1 y2 y3
      clear hB hcs e0
      obtain ⟨n, hn'⟩ : ∃ n, l.length = n := ⟨_, rfl⟩
      rw [hn'] at hlc hl hk hn ⊢
      clear hn' hv
      have hi1 : (0 : Int) < (n : Int) := by omega
      go_enter Tryd.func47, Tryd.ntmps47
      go_wp2
      go_region
      all_goals go_wp2
      all_goals exact bodyPost_ret (v := .tuple #[aggC (0, 0, ⟨#[]⟩), aggC (B1, B2, B3)]) (by simp [results, Tryd.results47, go_sem, aggC]) rfl ⟨rfl, two_new w _ _ _ _⟩
    · have hl0 : l.length = 0 := by omega
      rw [atR_out (by omega)]
      unfold ce0
      obtain ⟨a, c, rfl⟩ := hv.len
      rw [hl0]
      clear hv e0
      go_enter Tryd.func47, Tryd.ntmps47
      go_wp2
      go_region
      all_goals go_wp2
      all_goals exact bodyPost_ret (v := .tuple #[aggC (0, 0, ⟨#[]⟩), aggC (0, 0, ⟨#[]⟩)]) (by simp [results, Tryd.results47, go_sem, aggC]) rfl ⟨rfl, two_new w _ _ _ _⟩
  · obtain ⟨j, rfl⟩ : ∃ j, k = j + 1 := ⟨k - 1, by omega⟩
    obtain ⟨b, o, c, rfl, hlc, hcm, hb, hcs⟩ := hv.lies (by omega)
    unfold maxLen at hcm
    obtain ⟨x1, x2, x3⟩ := hcs j (by omega)
    have e0 : aheadR l (j + 1) = l[j]! := by unfold aheadR; rw [if_pos (by omega)]; exact atR_in (by omega)
    rw [e0]
    obtain ⟨A, hA⟩ : ∃ A, l[j]! = A := ⟨_, rfl⟩
    rw [hA] at x1 x2 x3 ⊢
    obtain ⟨A1, A2, A3⟩ := A
    clear hA e0
    by_cases hl : j + 1 < l.length
    · obtain ⟨y1, y2, y3⟩ := hcs (j + 1) hl
      rw [atR_in hl]
      obtain ⟨B, hB⟩ : ∃ B, l[j + 1]! = B := ⟨_, rfl⟩
      rw [hB] at y1 y2 y3 ⊢
      obtain ⟨B1, B2, B3⟩ := B
      clear hB hcs
      obtain ⟨n, hn'⟩ : ∃ n, l.length = n := ⟨_, rfl⟩
      rw [hn'] at hlc hl hk hn ⊢
      clear hn' hv
      have hi1 : ((j + 1 : Nat) : Int) < (n : Int) := by omega
      rw [Int.natCast_add]
      go_enter Tryd.func47, Tryd.ntmps47
      go_wp2
      go_region
      all_goals go_wp2
      all_goals exact bodyPost_ret (v := .tuple #[aggC (A1, A2, A3), aggC (B1, B2, B3)]) (by simp [results, Tryd.results47, go_sem, aggC]) rfl ⟨rfl, two_new w _ _ _ _⟩
    · have hl0 : l.length = j + 1 := by omega
      rw [atR_out (by omega)]
      unfold ce0
      rw [hl0] at hlc ⊢
      clear hv hcs hl hk hl0 hn
      rw [Int.natCast_add]
      go_enter Tryd.func47, Tryd.ntmps47
      go_wp2
      go_region
      all_goals go_wp2
      all_goals exact bodyPost_ret (v := .tuple #[aggC (A1, A2, A3), aggC (0, 0, ⟨#[]⟩)]) (by simp [results, Tryd.results47, go_sem, aggC]) rfl ⟨rfl, two_new w _ _ _ _⟩

/-- The href around a place; how far it goes. -/
def hrefR (l : Row) (k : Nat) : ByteArray := if (aheadR l k).2.2 = ⟨#[]⟩ then (atR l k).2.2 else (aheadR l k).2.2
def backN (l : Row) (h : ByteArray) : Nat → Nat
  | 0 => 0
  | k + 1 => if (atR l k).2.2 = h then backN l h k else k + 1
theorem backN_succ (l : Row) (h : ByteArray) (k : Nat) : backN l h (k + 1) = if (atR l k).2.2 = h then backN l h k else k + 1 := rfl
def forthG (l : Row) (h : ByteArray) : Nat → Nat → Nat
  | 0, k => k
  | n + 1, k => if (atR l k).2.2 = h then forthG l h n (k + 1) else k
def forthN (l : Row) (h : ByteArray) (k : Nat) : Nat := forthG l h (l.length - k) k
theorem forthN_step {l : Row} {h : ByteArray} {k : Nat} (hk : k < l.length) : forthN l h k = if (atR l k).2.2 = h then forthN l h (k + 1) else k := by
  unfold forthN
  obtain ⟨n, hn⟩ : ∃ n, l.length - k = n + 1 := ⟨l.length - k - 1, by omega⟩
  rw [hn, show l.length - (k + 1) = n by omega]
  rfl
theorem forthN_end {l : Row} {h : ByteArray} {k : Nat} (hk : ¬ k < l.length) : forthN l h k = k := by
  unfold forthN
  rw [show l.length - k = 0 by omega]
  rfl
def withinR (l : Row) (k : Nat) : Nat × Nat := if hrefR l k = ⟨#[]⟩ then (k, k) else (backN l (hrefR l k) k, forthN l (hrefR l k) k)
def withinV (l : Row) (k : Nat) : Value := .tuple #[.int .i64 ((withinR l k).1 : Int), .int .i64 ((withinR l k).2 : Int)]

theorem size_zero_iff (w : ByteArray) : w.size = 0 ↔ w = ⟨#[]⟩ := by
  constructor
  · intro h
    cases w with | mk a =>
    have : a.size = 0 := h
    have : a = #[] := Array.eq_empty_of_size_eq_zero this
    rw [this]
  · rintro rfl; rfl
theorem isEmpty_of_ne {s : ByteArray} (h : s ≠ ⟨#[]⟩) : s.toList.isEmpty = false := by
  rw [ByteArray.toList_eq]
  cases hl : s.data.toList with
  | nil =>
    have h1 : s.size = 0 := by rw [size_eq, hl]; rfl
    exact absurd ((size_zero_iff s).1 h1) h
  | cons => rfl
theorem atR_ne {l : Row} {k : Nat} (h : (atR l k).2.2 ≠ ⟨#[]⟩) : k < l.length := by
  by_cases hk : k < l.length
  · exact hk
  · exact absurd (by rw [atR_out (by omega)]; rfl) h
theorem aheadR_ne {l : Row} {k : Nat} (h : (aheadR l k).2.2 ≠ ⟨#[]⟩) : 0 < k := by
  by_cases hk : 0 < k
  · exact hk
  · exact absurd (by unfold aheadR; rw [if_neg hk]; rfl) h

/-- beside, with what it answers written out. -/
theorem beside_out (v : Value) (l : Row) (k : Nat) (w : World) (hv : RowAt w v l) (hn : l.length ≤ 100000) (hk : k ≤ l.length) (A B : Ce) (hA : aheadR l k = A) (hB : atR l k = B) :
    Calls Tryd.prog 47 #[v, .int .i64 (k : Int)] w fun e w' => e = .returned (.tuple #[.agg #[.int .i32 A.1, .int .i64 A.2.1, .string A.2.2], .agg #[.int .i32 B.1, .int .i64 B.2.1, .string B.2.2]]) ∧ Below w.heap.size w w' := by
  subst hA hB
  exact beside_any v l k w hv hn hk

set_option maxHeartbeats 4000000 in
theorem within_off (v : Value) (l : Row) (z : Int) (w : World) (hv : RowAt w v l) (hn : l.length ≤ 100000) (h0 : hrefR l (placeN l.length z) = ⟨#[]⟩) :
    Calls Tryd.prog 27 #[v, .int .i64 z] w fun e w' => e = .returned (.tuple #[.int .i64 ((placeN l.length z : Nat) : Int), .int .i64 ((placeN l.length z : Nat) : Int)]) ∧ Below w.heap.size w w' := by
  obtain ⟨a, c, rfl⟩ := hv.len
  have hc := fun w => clamp_any a l.length c z w hn
  have hle := placeN_le l.length z
  obtain ⟨k, hk⟩ : ∃ k, placeN l.length z = k := ⟨_, rfl⟩
  rw [hk] at h0 hc hle ⊢
  have hbs := beside_out _ l k w hv hn hle _ _ rfl rfl
  have hA : (aheadR l k).2.2 = ⟨#[]⟩ := by
    unfold hrefR at h0
    by_cases h : (aheadR l k).2.2 = ⟨#[]⟩
    · exact h
    · rw [if_neg h] at h0; exact absurd h0 h
  have hB : (atR l k).2.2 = ⟨#[]⟩ := by
    unfold hrefR at h0
    rwa [if_pos hA] at h0
  rw [hA, hB] at hbs
  obtain ⟨n, hn'⟩ : ∃ n, l.length = n := ⟨_, rfl⟩
  rw [hn'] at hc hbs hle
  rw [hn']
  clear hk h0 hA hB hv hn' hn
  go_enter Tryd.func27, Tryd.ntmps27
  go_wp2_with (first
    | (go_at_call 46; ((with_reducible refine (hc _).mono ?_); rintro e w1 ⟨rfl, rfl⟩))
    | (go_at_call 47; ((with_reducible refine hbs.mono ?_); rintro e w1 ⟨rfl, hb1⟩)))
  go_ret2
  exact ⟨rfl, hb1.trans ((((Below.refl _ _).alloc (Nat.le_refl _) _).alloc (by simp) _).mono hb1.size)⟩

theorem ret_two {a b c d : Int} (h : a = c) (k : b = d) : Ending.returned (.tuple #[.int .i64 a, .int .i64 b]) = .returned (.tuple #[.int .i64 c, .int .i64 d]) := by rw [h, k]

set_option maxHeartbeats 8000000 in
theorem within_on (v : Value) (l : Row) (z : Int) (w : World) (hv : RowAt w v l) (hn : l.length ≤ 100000) (h0 : hrefR l (placeN l.length z) ≠ ⟨#[]⟩) :
    Calls Tryd.prog 27 #[v, .int .i64 z] w fun e w' => e = .returned (.tuple #[.int .i64 ((backN l (hrefR l (placeN l.length z)) (placeN l.length z) : Nat) : Int), .int .i64 ((forthN l (hrefR l (placeN l.length z)) (placeN l.length z) : Nat) : Int)]) ∧ Below w.heap.size w w' := by
  have hle := placeN_le l.length z
  obtain ⟨k, hk⟩ : ∃ k, placeN l.length z = k := ⟨_, rfl⟩
  have hc := fun a c w => clamp_any a l.length c z w hn
  rw [hk] at h0 hc hle ⊢
  have hbs := fun v hv => beside_out v l k w hv hn hle _ _ rfl rfl
  obtain ⟨H, hH⟩ : ∃ H, hrefR l k = H := ⟨_, rfl⟩
  rw [hH] at h0 ⊢
  have hpos : 0 < l.length := by
    have hH2 := hH
    unfold hrefR at hH2
    by_cases h : (aheadR l k).2.2 = ⟨#[]⟩
    · rw [if_pos h] at hH2
      have := atR_ne (l := l) (k := k) (by rw [hH2]; exact h0)
      omega
    · have := aheadR_ne h
      omega
  obtain ⟨b, o, c, rfl, hlc, hcm, hb, hcs⟩ := hv.lies hpos
  unfold maxLen at hcm
  replace hbs := hbs _ hv
  replace hc := hc (some ⟨b, o, none⟩) c
  have hE := isEmpty_of_ne h0
  obtain ⟨n, hn'⟩ : ∃ n, l.length = n := ⟨_, rfl⟩
  rw [hn'] at hc hbs hle hlc hpos hn
  rw [hn']
  have N := Lib.hid hn'
  clear hn' hv hk
  by_cases hA : (aheadR l k).2.2 = ⟨#[]⟩
  · have hB : (atR l k).2.2 = H := by unfold hrefR at hH; rwa [if_pos hA] at hH
    rw [hA, hB] at hbs
    clear hH hA hB h0
    go_enter Tryd.func27, Tryd.ntmps27
    go_wp2_with (first
      | (go_at_call 46; ((with_reducible refine (hc _).mono ?_); rintro e w1 ⟨rfl, rfl⟩))
      | (go_at_call 47; ((with_reducible refine hbs.mono ?_); rintro e w1 ⟨rfl, hb1⟩; have HC := Lib.hid (hcs.below hb hb1); have hbw : b < w1.heap.size := Nat.lt_of_lt_of_le hb hb1.size; clear hcs hbs hc)))
    go_loop [4] (fun f => ∃ j : Nat, j ≤ k ∧ f = .int .i64 j ∧ Hid (backN l H j = backN l H k)) (fun f => (intOf f).toNat)
    case atStart => exact ⟨k, Nat.le_refl _, rfl, Lib.hid rfl⟩
    case round =>
      obtain ⟨j, hj, rfl, HJ⟩ := hrel
      rcases Nat.eq_zero_or_pos j with rfl | hj0
      · rw [show ((0 : Nat) : Int) = 0 from rfl]
        go_wp2
        go_loop [5] (fun t => ∃ j2 : Nat, j2 ≤ n ∧ t = .int .i64 j2 ∧ Hid (forthN l H j2 = forthN l H k)) (fun t => n - (intOf t).toNat)
        case atStart => exact ⟨k, hle, rfl, Lib.hid rfl⟩
        case round =>
          obtain ⟨j2, hj2, rfl, HJ2⟩ := hrel
          by_cases hlt : j2 < n
          · have hil2 : j2 < l.length := by have := N.out; omega
            obtain ⟨_, _, z3⟩ := HC.out j2 hil2
            have hat2 := atR_in hil2
            obtain ⟨X2, hX2⟩ : ∃ X2, (l[j2]!).2.2 = X2 := ⟨_, rfl⟩
            rw [hX2] at z3
            rw [← hat2] at hX2
            have hst := forthN_step (h := H) hil2
            rw [hX2] at hst
            have hjI : (j2 : Int) < (n : Int) := by omega
            clear hat2 hil2
            cases g2 : X2.toList == H.toList with
            | true =>
              have e : X2 = H := by rw [str_eq] at g2; simpa using g2
              have HS2 : Hid (forthN l H (j2 + 1) = forthN l H k) := Lib.hid (by rw [if_pos e] at hst; rw [← hst]; exact HJ2.out)
              clear HJ2 e hX2 hst
              go_wp2
              go_round
              case rel => exact ⟨j2 + 1, hlt, by go_num, HS2⟩
              case measure => simp [intOf]; omega
            | false =>
              have e : ¬ X2 = H := by rw [str_eq] at g2; simpa using g2
              have HS2 : Hid (j2 = forthN l H k) := Lib.hid (by rw [if_neg e] at hst; rw [← hst]; exact HJ2.out)
              clear HJ2 e hX2 hst
              go_wp2
              go_ret2
              exact ⟨ret_two (by rw [← HJ.out]; rfl) (by rw [← HS2.out]), hb1.trans ((((Below.refl _ _).alloc (Nat.le_refl _) _).alloc (by simp) _).mono hb1.size)⟩
          · have hend : j2 = forthN l H k := by rw [← HJ2.out, forthN_end (by have := N.out; omega)]
            have HS2 := Lib.hid hend
            clear hend HJ2
            go_wp2
            go_ret2
            exact ⟨ret_two (by rw [← HJ.out]; rfl) (by rw [← HS2.out]), hb1.trans ((((Below.refl _ _).alloc (Nat.le_refl _) _).alloc (by simp) _).mono hb1.size)⟩
      · obtain ⟨i, rfl⟩ : ∃ i, j = i + 1 := ⟨j - 1, by omega⟩
        have hil : i < l.length := by have := N.out; omega
        obtain ⟨_, _, x3⟩ := HC.out i hil
        have hat := atR_in hil
        obtain ⟨X, hX⟩ : ∃ X, (l[i]!).2.2 = X := ⟨_, rfl⟩
        rw [hX] at x3
        rw [← hat] at hX
        have hin : i < n := by have := N.out; omega
        clear hat hil
        cases g1 : X.toList == H.toList with
        | true =>
          have e : X = H := by rw [str_eq] at g1; simpa using g1
          have HS : Hid (backN l H i = backN l H k) := Lib.hid (by have := HJ.out; rw [backN_succ] at this; rwa [if_pos (hX.trans e)] at this)
          clear HJ e hX
          rw [Int.natCast_add]
          go_wp2
          go_round
          case rel => exact ⟨i, by omega, by go_num, HS⟩
          case measure => simp [intOf]
        | false =>
          have e : ¬ X = H := by rw [str_eq] at g1; simpa using g1
          have HS : Hid (i + 1 = backN l H k) := Lib.hid (by have := HJ.out; rw [backN_succ] at this; rw [if_neg (fun q => e (hX.symm.trans q))] at this; exact this)
          clear HJ e hX
          rw [Int.natCast_add]
          go_wp2
          go_loop [5] (fun t => ∃ j2 : Nat, j2 ≤ n ∧ t = .int .i64 j2 ∧ Hid (forthN l H j2 = forthN l H k)) (fun t => n - (intOf t).toNat)
          case atStart => exact ⟨k, hle, rfl, Lib.hid rfl⟩
          case round =>
            obtain ⟨j2, hj2, rfl, HJ2⟩ := hrel
            by_cases hlt : j2 < n
            · have hil2 : j2 < l.length := by have := N.out; omega
              obtain ⟨_, _, z3⟩ := HC.out j2 hil2
              have hat2 := atR_in hil2
              obtain ⟨X2, hX2⟩ : ∃ X2, (l[j2]!).2.2 = X2 := ⟨_, rfl⟩
              rw [hX2] at z3
              rw [← hat2] at hX2
              have hst := forthN_step (h := H) hil2
              rw [hX2] at hst
              have hjI : (j2 : Int) < (n : Int) := by omega
              clear hat2 hil2
              cases g2 : X2.toList == H.toList with
              | true =>
                have e : X2 = H := by rw [str_eq] at g2; simpa using g2
                have HS2 : Hid (forthN l H (j2 + 1) = forthN l H k) := Lib.hid (by rw [if_pos e] at hst; rw [← hst]; exact HJ2.out)
                clear HJ2 e hX2 hst
                go_wp2
                go_round
                case rel => exact ⟨j2 + 1, hlt, by go_num, HS2⟩
                case measure => simp [intOf]; omega
              | false =>
                have e : ¬ X2 = H := by rw [str_eq] at g2; simpa using g2
                have HS2 : Hid (j2 = forthN l H k) := Lib.hid (by rw [if_neg e] at hst; rw [← hst]; exact HJ2.out)
                clear HJ2 e hX2 hst
                go_wp2
                go_ret2
                exact ⟨ret_two (by rw [← HS.out]; rfl) (by rw [← HS2.out]), hb1.trans ((((Below.refl _ _).alloc (Nat.le_refl _) _).alloc (by simp) _).mono hb1.size)⟩
            · have hend : j2 = forthN l H k := by rw [← HJ2.out, forthN_end (by have := N.out; omega)]
              have HS2 := Lib.hid hend
              clear hend HJ2
              go_wp2
              go_ret2
              exact ⟨ret_two (by rw [← HS.out]; rfl) (by rw [← HS2.out]), hb1.trans ((((Below.refl _ _).alloc (Nat.le_refl _) _).alloc (by simp) _).mono hb1.size)⟩
  · have hA2 : (aheadR l k).2.2 = H := by unfold hrefR at hH; rwa [if_neg hA] at hH
    rw [hA2] at hbs
    clear hH hA hA2 h0
    go_enter Tryd.func27, Tryd.ntmps27
    go_wp2_with (first
      | (go_at_call 46; ((with_reducible refine (hc _).mono ?_); rintro e w1 ⟨rfl, rfl⟩))
      | (go_at_call 47; ((with_reducible refine hbs.mono ?_); rintro e w1 ⟨rfl, hb1⟩; have HC := Lib.hid (hcs.below hb hb1); have hbw : b < w1.heap.size := Nat.lt_of_lt_of_le hb hb1.size; clear hcs hbs hc)))
    go_loop [4] (fun f => ∃ j : Nat, j ≤ k ∧ f = .int .i64 j ∧ Hid (backN l H j = backN l H k)) (fun f => (intOf f).toNat)
    case atStart => exact ⟨k, Nat.le_refl _, rfl, Lib.hid rfl⟩
    case round =>
      obtain ⟨j, hj, rfl, HJ⟩ := hrel
      rcases Nat.eq_zero_or_pos j with rfl | hj0
      · rw [show ((0 : Nat) : Int) = 0 from rfl]
        go_wp2
        go_loop [5] (fun t => ∃ j2 : Nat, j2 ≤ n ∧ t = .int .i64 j2 ∧ Hid (forthN l H j2 = forthN l H k)) (fun t => n - (intOf t).toNat)
        case atStart => exact ⟨k, hle, rfl, Lib.hid rfl⟩
        case round =>
          obtain ⟨j2, hj2, rfl, HJ2⟩ := hrel
          by_cases hlt : j2 < n
          · have hil2 : j2 < l.length := by have := N.out; omega
            obtain ⟨_, _, z3⟩ := HC.out j2 hil2
            have hat2 := atR_in hil2
            obtain ⟨X2, hX2⟩ : ∃ X2, (l[j2]!).2.2 = X2 := ⟨_, rfl⟩
            rw [hX2] at z3
            rw [← hat2] at hX2
            have hst := forthN_step (h := H) hil2
            rw [hX2] at hst
            have hjI : (j2 : Int) < (n : Int) := by omega
            clear hat2 hil2
            cases g2 : X2.toList == H.toList with
            | true =>
              have e : X2 = H := by rw [str_eq] at g2; simpa using g2
              have HS2 : Hid (forthN l H (j2 + 1) = forthN l H k) := Lib.hid (by rw [if_pos e] at hst; rw [← hst]; exact HJ2.out)
              clear HJ2 e hX2 hst
              go_wp2
              go_round
              case rel => exact ⟨j2 + 1, hlt, by go_num, HS2⟩
              case measure => simp [intOf]; omega
            | false =>
              have e : ¬ X2 = H := by rw [str_eq] at g2; simpa using g2
              have HS2 : Hid (j2 = forthN l H k) := Lib.hid (by rw [if_neg e] at hst; rw [← hst]; exact HJ2.out)
              clear HJ2 e hX2 hst
              go_wp2
              go_ret2
              exact ⟨ret_two (by rw [← HJ.out]; rfl) (by rw [← HS2.out]), hb1.trans ((((Below.refl _ _).alloc (Nat.le_refl _) _).alloc (by simp) _).mono hb1.size)⟩
          · have hend : j2 = forthN l H k := by rw [← HJ2.out, forthN_end (by have := N.out; omega)]
            have HS2 := Lib.hid hend
            clear hend HJ2
            go_wp2
            go_ret2
            exact ⟨ret_two (by rw [← HJ.out]; rfl) (by rw [← HS2.out]), hb1.trans ((((Below.refl _ _).alloc (Nat.le_refl _) _).alloc (by simp) _).mono hb1.size)⟩
      · obtain ⟨i, rfl⟩ : ∃ i, j = i + 1 := ⟨j - 1, by omega⟩
        have hil : i < l.length := by have := N.out; omega
        obtain ⟨_, _, x3⟩ := HC.out i hil
        have hat := atR_in hil
        obtain ⟨X, hX⟩ : ∃ X, (l[i]!).2.2 = X := ⟨_, rfl⟩
        rw [hX] at x3
        rw [← hat] at hX
        have hin : i < n := by have := N.out; omega
        clear hat hil
        cases g1 : X.toList == H.toList with
        | true =>
          have e : X = H := by rw [str_eq] at g1; simpa using g1
          have HS : Hid (backN l H i = backN l H k) := Lib.hid (by have := HJ.out; rw [backN_succ] at this; rwa [if_pos (hX.trans e)] at this)
          clear HJ e hX
          rw [Int.natCast_add]
          go_wp2
          go_round
          case rel => exact ⟨i, by omega, by go_num, HS⟩
          case measure => simp [intOf]
        | false =>
          have e : ¬ X = H := by rw [str_eq] at g1; simpa using g1
          have HS : Hid (i + 1 = backN l H k) := Lib.hid (by have := HJ.out; rw [backN_succ] at this; rw [if_neg (fun q => e (hX.symm.trans q))] at this; exact this)
          clear HJ e hX
          rw [Int.natCast_add]
          go_wp2
          go_loop [5] (fun t => ∃ j2 : Nat, j2 ≤ n ∧ t = .int .i64 j2 ∧ Hid (forthN l H j2 = forthN l H k)) (fun t => n - (intOf t).toNat)
          case atStart => exact ⟨k, hle, rfl, Lib.hid rfl⟩
          case round =>
            obtain ⟨j2, hj2, rfl, HJ2⟩ := hrel
            by_cases hlt : j2 < n
            · have hil2 : j2 < l.length := by have := N.out; omega
              obtain ⟨_, _, z3⟩ := HC.out j2 hil2
              have hat2 := atR_in hil2
              obtain ⟨X2, hX2⟩ : ∃ X2, (l[j2]!).2.2 = X2 := ⟨_, rfl⟩
              rw [hX2] at z3
              rw [← hat2] at hX2
              have hst := forthN_step (h := H) hil2
              rw [hX2] at hst
              have hjI : (j2 : Int) < (n : Int) := by omega
              clear hat2 hil2
              cases g2 : X2.toList == H.toList with
              | true =>
                have e : X2 = H := by rw [str_eq] at g2; simpa using g2
                have HS2 : Hid (forthN l H (j2 + 1) = forthN l H k) := Lib.hid (by rw [if_pos e] at hst; rw [← hst]; exact HJ2.out)
                clear HJ2 e hX2 hst
                go_wp2
                go_round
                case rel => exact ⟨j2 + 1, hlt, by go_num, HS2⟩
                case measure => simp [intOf]; omega
              | false =>
                have e : ¬ X2 = H := by rw [str_eq] at g2; simpa using g2
                have HS2 : Hid (j2 = forthN l H k) := Lib.hid (by rw [if_neg e] at hst; rw [← hst]; exact HJ2.out)
                clear HJ2 e hX2 hst
                go_wp2
                go_ret2
                exact ⟨ret_two (by rw [← HS.out]; rfl) (by rw [← HS2.out]), hb1.trans ((((Below.refl _ _).alloc (Nat.le_refl _) _).alloc (by simp) _).mono hb1.size)⟩
            · have hend : j2 = forthN l H k := by rw [← HJ2.out, forthN_end (by have := N.out; omega)]
              have HS2 := Lib.hid hend
              clear hend HJ2
              go_wp2
              go_ret2
              exact ⟨ret_two (by rw [← HS.out]; rfl) (by rw [← HS2.out]), hb1.trans ((((Below.refl _ _).alloc (Nat.le_refl _) _).alloc (by simp) _).mono hb1.size)⟩

theorem within_any (v : Value) (l : Row) (z : Int) (w : World) (hv : RowAt w v l) (hn : l.length ≤ 100000) :
    Calls Tryd.prog 27 #[v, .int .i64 z] w fun e w' => e = .returned (withinV l (placeN l.length z)) ∧ Below w.heap.size w w' := by
  unfold withinV withinR
  by_cases h0 : hrefR l (placeN l.length z) = ⟨#[]⟩
  · rw [if_pos h0]; exact within_off v l z w hv hn h0
  · rw [if_neg h0]; exact within_on v l z w hv hn h0

end Go.Proofs.YtiaoflagjaclmaaDoor
