/-
  The program's and the document's All, Some.
-/
import Derived.Test.YtafincmcmgedbaaGreatDoorCSet
import Derived.Test.YtafincmcmgedbaaGreatDoorCDocFit
import Derived.Deep.QuietTactic
import Derived.BigQuiet

namespace Go.Proofs.YtafincmcmgedbaaGreatDoor
open Go.RowKit Go.Lib

def andZ (x q : Int) : Int := bits .and .i64 x q
def lacksB (q : Int) (c : Ce) : Bool := decide (andZ c.2.1 q ≠ q)
def hasB (q : Int) (c : Ce) : Bool := decide (andZ c.2.1 q ≠ 0)
def allO (l : Row) (f t q : Int) : Bool := fitB l.length f t && decide (f < t) && !((l.drop f.toNat).take (t.toNat - f.toNat)).any (lacksB q)
def someO (l : Row) (f t q : Int) : Bool := fitB l.length f t && ((l.drop f.toNat).take (t.toNat - f.toNat)).any (hasB q)

set_option maxHeartbeats 2000000 in
theorem allFn_any (c : Ce) (q : Int) (B : Nat) (w : World) (hB : w.cell? ⟨B, 0, none⟩ = some (.int .i64 q)) :
    Calls Tryz.prog 122 #[.agg #[.int .i32 c.1, .int .i64 c.2.1, .string c.2.2], .pointer (some ⟨B, 0, none⟩)] w fun e w' => e = .returned (.bool (lacksB q c)) ∧ Below w.heap.size w w' := by
  obtain ⟨c1, c2, c3⟩ := c
  dsimp only
  have hBl := lt_of_cell' hB
  replace hBl : B < w.heap.size := hBl
  have e0 : lacksB q (c1, c2, c3) = (bits .and .i64 c2 q != q) := by
    unfold lacksB andZ; rw [Bool.eq_iff_iff]; simp
  rw [e0]
  clear e0
  go_enter Tryz.func122, Tryz.ntmps122
  go_wp2
  all_goals (try (go_quiet (fail)))
  all_goals (try go_wp2)
  all_goals go_ret
  all_goals (refine ⟨ret_bool ?_, ?_⟩ <;> first | rfl | exact (Below.refl _ w).alloc (Nat.le_refl _) _ | exact ((Below.refl _ w).alloc (Nat.le_refl _) _).trans ((below_draws _ _).mono (by simp)))
set_option maxHeartbeats 2000000 in
theorem someFn_any (c : Ce) (q : Int) (B : Nat) (w : World) (hB : w.cell? ⟨B, 0, none⟩ = some (.int .i64 q)) :
    Calls Tryz.prog 124 #[.agg #[.int .i32 c.1, .int .i64 c.2.1, .string c.2.2], .pointer (some ⟨B, 0, none⟩)] w fun e w' => e = .returned (.bool (hasB q c)) ∧ Below w.heap.size w w' := by
  obtain ⟨c1, c2, c3⟩ := c
  dsimp only
  have hBl := lt_of_cell' hB
  replace hBl : B < w.heap.size := hBl
  have e0 : hasB q (c1, c2, c3) = (bits .and .i64 c2 q != 0) := by
    unfold hasB andZ; rw [Bool.eq_iff_iff]; simp
  rw [e0]
  clear e0
  go_enter Tryz.func124, Tryz.ntmps124
  go_wp2
  all_goals (try (go_quiet (fail)))
  all_goals (try go_wp2)
  all_goals go_ret
  all_goals (refine ⟨ret_bool ?_, ?_⟩ <;> first | rfl | exact (Below.refl _ w).alloc (Nat.le_refl _) _ | exact ((Below.refl _ w).alloc (Nat.le_refl _) _).trans ((below_draws _ _).mono (by simp)))

theorem any_step {P : Ce → Bool} {l : Row} {k : Nat} (hk : k < l.length) : (l.drop k).any P = (P l[k]! || (l.drop (k + 1)).any P) := by
  have e : l.drop k = l[k]! :: l.drop (k + 1) := by
    rw [List.drop_eq_getElem_cons hk, List.getElem!_eq_getElem?_getD, List.getElem?_eq_getElem hk]; rfl
  rw [e]
  rfl

set_option maxHeartbeats 4000000 in
theorem indexAll_any (v : Value) (l : Row) (q : Int) (B : Nat) (w : World) (hv : RowAt w v l) (hl : l.length ≤ 100000) (hB : w.cell? ⟨B, 0, none⟩ = some (.int .i64 q)) :
    Calls Tryz.prog 136 #[v, .func (.func 122) #[] #[.pointer (some ⟨B, 0, none⟩)]] w fun e w' => (∃ z : Int, e = .returned (.int .i64 z) ∧ decide (0 ≤ z) = l.any (lacksB q)) ∧ Below w.heap.size w w' := by
  obtain ⟨a, c, rfl⟩ := hv.len
  have V := Lib.hid hv
  have HB := Lib.hid hB
  have hBl : B < w.heap.size := lt_of_cell' hB
  obtain ⟨n, hn⟩ : ∃ n, l.length = n := ⟨_, rfl⟩
  rw [hn] at hl V ⊢
  have N := Lib.hid hn
  obtain ⟨R, hR⟩ : ∃ R, l.any (lacksB q) = R := ⟨_, rfl⟩
  rw [hR]
  have HR : Hid ((l.drop 0).any (lacksB q) = R) := Lib.hid hR
  have cF := allFn_any
  clear hv hn hB hR
  go_enter Tryz.func136, Tryz.ntmps136
  go_wp2
  go_loopw [8] (fun i wr => ∃ k : Nat, k ≤ n ∧ i = .int .i64 k ∧ Hid ((l.drop k).any (lacksB q) = R) ∧ Below w.heap.size w wr) (fun i _ => n - (RowKit.intOf i).toNat)
  case atStart => exact ⟨0, Nat.zero_le _, rfl, HR, Below.refl _ _⟩
  case round =>
    obtain ⟨k, hk, rfl, HK, hb⟩ := hrel
    by_cases hlt : k < n
    · have hkl : k < l.length := by rw [N.out]; exact hlt
      obtain ⟨b, o, c2, e, hlc, hcm, hbl, hcs⟩ := V.out.lies (by omega)
      rw [N.out] at e hlc
      obtain ⟨rfl, _, rfl⟩ := Value.slice.inj e
      unfold maxLen at hcm
      obtain ⟨x1, x2, x3⟩ := (hcs.below hbl hb) k hkl
      have hst := any_step (P := lacksB q) hkl
      rw [HK.out] at hst
      obtain ⟨X, hX⟩ : ∃ X, l[k]! = X := ⟨_, rfl⟩
      rw [hX] at x1 x2 x3 hst
      have cF2 := cF X q B wr ((hb.cell (p := ⟨B, 0, none⟩) hBl).trans HB.out)
      obtain ⟨M, hM⟩ : ∃ M, lacksB q X = M := ⟨_, rfl⟩
      rw [hM] at hst cF2
      have HS := Lib.hid hst
      have hkI : (k : Int) < (n : Int) := by omega
      have hbw : b < wr.heap.size := Nat.lt_of_lt_of_le hbl hb.size
      clear hst HK hX hcs e hkl hM cF
      cases M with
      | true =>
        go_wp2_with (go_at_call 122; ((with_reducible refine cF2.mono ?_); rintro e w2 ⟨rfl, hb3⟩))
        go_ret
        exact ⟨⟨_, rfl, by rw [HS.out]; simp⟩, hb.trans (hb3.mono hb.size)⟩
      | false =>
        go_wp2_with (go_at_call 122; ((with_reducible refine cF2.mono ?_); rintro e w2 ⟨rfl, hb3⟩))
        go_roundw
        case rel => exact ⟨k + 1, hlt, by go_num, Lib.hid (by rw [HS.out, Bool.false_or]), hb.trans (hb3.mono hb.size)⟩
        case measure => simp [RowKit.intOf]; omega
    · have hkn : k = n := by omega
      subst hkn
      have hR2 : R = false := by rw [← HK.out, List.drop_eq_nil_of_le (by rw [N.out]; omega)]; rfl
      have HR2 := Lib.hid hR2
      clear hR2
      go_wp2
      go_ret
      exact ⟨⟨_, rfl, by rw [HR2.out]; decide⟩, hb⟩
set_option maxHeartbeats 2000000 in
theorem containsAll_any (v : Value) (l : Row) (q : Int) (B : Nat) (w : World) (hv : RowAt w v l) (hl : l.length ≤ 100000) (hB : w.cell? ⟨B, 0, none⟩ = some (.int .i64 q)) :
    Calls Tryz.prog 123 #[v, .func (.func 122) #[] #[.pointer (some ⟨B, 0, none⟩)]] w fun e w' => e = .returned (.bool (l.any (lacksB q))) ∧ Below w.heap.size w w' := by
  have hc := indexAll_any v l q B w hv hl hB
  obtain ⟨R, hR⟩ : ∃ R, l.any (lacksB q) = R := ⟨_, rfl⟩
  rw [hR] at hc ⊢
  clear hR hv hB
  go_enter Tryz.func123, Tryz.ntmps123
  go_wp2_with (go_at_call 136; ((with_reducible refine hc.mono ?_); rintro e w1 ⟨⟨z, rfl, hz⟩, hb⟩))
  go_ret
  exact ⟨rfl, hb⟩

set_option maxHeartbeats 4000000 in
theorem call_any (v : Value) (l : Row) (f t q : Int) (w : World) (hv : RowAt w v l) (hl : l.length ≤ 100000) :
    Calls Tryz.prog 93 #[v, .int .i64 f, .int .i64 t, .int .i64 q] w fun e w' => e = .returned (.bool (allO l f t q)) ∧ Below w.heap.size w w' := by
  have ba : ∀ o, Below w.heap.size w (w.alloc o) := fun o => (Below.refl _ w).alloc (Nat.le_refl _) _
  have cf := fun o => fit_any v l f t (w.alloc o) (hv.below (ba o))
  unfold allO
  by_cases hB : fitB l.length f t = true
  · have h' := of_decide_eq_true hB
    obtain ⟨i, rfl⟩ := Int.eq_ofNat_of_zero_le h'.1
    obtain ⟨j, rfl⟩ := Int.eq_ofNat_of_zero_le (show 0 ≤ t by omega)
    rw [hB] at cf ⊢
    rw [Bool.true_and, Int.toNat_natCast, Int.toNat_natCast]
    by_cases hlt : i < j
    · have hltI : (i : Int) < (j : Int) := by omega
      rw [decide_eq_true hltI, Bool.true_and]
      obtain ⟨v1, r1, s1⟩ := slice_lh hv i j (by omega) (by omega)
      have hz1 : ((l.drop i).take (j - i)).length ≤ 100000 := by rw [List.length_take, List.length_drop]; omega
      obtain ⟨R, hR⟩ : ∃ R, (l.drop i).take (j - i) = R := ⟨_, rfl⟩
      rw [hR] at r1 hz1 ⊢
      have cC := containsAll_any v1 R q w.heap.size (w.alloc (.cells #[.int .i64 q] 3)) (r1.below (ba _)) hz1 (by simp)
      obtain ⟨M, hM⟩ : ∃ M, R.any (lacksB q) = M := ⟨_, rfl⟩
      rw [hM] at cC ⊢
      clear hB hv h' hR hM r1
      go_enter Tryz.func93, Tryz.ntmps93
      go_wp2_with (first
        | (go_at_call 109; ((with_reducible refine (cf _).mono ?_); rintro e w1 ⟨rfl, rfl⟩))
        | (go_at_call 123; ((with_reducible refine cC.mono ?_); rintro e w2 ⟨rfl, hb⟩)))
      go_ret
      exact ⟨ret_bool (by simp), (ba _).trans (hb.mono (by simp))⟩
    · have hltI : ¬ (i : Int) < (j : Int) := by omega
      rw [decide_eq_false hltI, Bool.false_and]
      clear hB hv h'
      go_enter Tryz.func93, Tryz.ntmps93
      go_wp2_with (go_at_call 109; ((with_reducible refine (cf _).mono ?_); rintro e w1 ⟨rfl, rfl⟩))
      go_ret
      exact ⟨rfl, ba _⟩
  · have hB2 : fitB l.length f t = false := by simpa using hB
    rw [hB2] at cf ⊢
    rw [Bool.false_and, Bool.false_and]
    clear hB hB2 hv
    go_enter Tryz.func93, Tryz.ntmps93
    go_wp2_with (go_at_call 109; ((with_reducible refine (cf _).mono ?_); rintro e w1 ⟨rfl, rfl⟩))
    go_ret
    exact ⟨rfl, ba _⟩

set_option maxHeartbeats 4000000 in
theorem indexSome_any (v : Value) (l : Row) (q : Int) (B : Nat) (w : World) (hv : RowAt w v l) (hl : l.length ≤ 100000) (hB : w.cell? ⟨B, 0, none⟩ = some (.int .i64 q)) :
    Calls Tryz.prog 136 #[v, .func (.func 124) #[] #[.pointer (some ⟨B, 0, none⟩)]] w fun e w' => (∃ z : Int, e = .returned (.int .i64 z) ∧ decide (0 ≤ z) = l.any (hasB q)) ∧ Below w.heap.size w w' := by
  obtain ⟨a, c, rfl⟩ := hv.len
  have V := Lib.hid hv
  have HB := Lib.hid hB
  have hBl : B < w.heap.size := lt_of_cell' hB
  obtain ⟨n, hn⟩ : ∃ n, l.length = n := ⟨_, rfl⟩
  rw [hn] at hl V ⊢
  have N := Lib.hid hn
  obtain ⟨R, hR⟩ : ∃ R, l.any (hasB q) = R := ⟨_, rfl⟩
  rw [hR]
  have HR : Hid ((l.drop 0).any (hasB q) = R) := Lib.hid hR
  have cF := someFn_any
  clear hv hn hB hR
  go_enter Tryz.func136, Tryz.ntmps136
  go_wp2
  go_loopw [8] (fun i wr => ∃ k : Nat, k ≤ n ∧ i = .int .i64 k ∧ Hid ((l.drop k).any (hasB q) = R) ∧ Below w.heap.size w wr) (fun i _ => n - (RowKit.intOf i).toNat)
  case atStart => exact ⟨0, Nat.zero_le _, rfl, HR, Below.refl _ _⟩
  case round =>
    obtain ⟨k, hk, rfl, HK, hb⟩ := hrel
    by_cases hlt : k < n
    · have hkl : k < l.length := by rw [N.out]; exact hlt
      obtain ⟨b, o, c2, e, hlc, hcm, hbl, hcs⟩ := V.out.lies (by omega)
      rw [N.out] at e hlc
      obtain ⟨rfl, _, rfl⟩ := Value.slice.inj e
      unfold maxLen at hcm
      obtain ⟨x1, x2, x3⟩ := (hcs.below hbl hb) k hkl
      have hst := any_step (P := hasB q) hkl
      rw [HK.out] at hst
      obtain ⟨X, hX⟩ : ∃ X, l[k]! = X := ⟨_, rfl⟩
      rw [hX] at x1 x2 x3 hst
      have cF2 := cF X q B wr ((hb.cell (p := ⟨B, 0, none⟩) hBl).trans HB.out)
      obtain ⟨M, hM⟩ : ∃ M, hasB q X = M := ⟨_, rfl⟩
      rw [hM] at hst cF2
      have HS := Lib.hid hst
      have hkI : (k : Int) < (n : Int) := by omega
      have hbw : b < wr.heap.size := Nat.lt_of_lt_of_le hbl hb.size
      clear hst HK hX hcs e hkl hM cF
      cases M with
      | true =>
        go_wp2_with (go_at_call 124; ((with_reducible refine cF2.mono ?_); rintro e w2 ⟨rfl, hb3⟩))
        go_ret
        exact ⟨⟨_, rfl, by rw [HS.out]; simp⟩, hb.trans (hb3.mono hb.size)⟩
      | false =>
        go_wp2_with (go_at_call 124; ((with_reducible refine cF2.mono ?_); rintro e w2 ⟨rfl, hb3⟩))
        go_roundw
        case rel => exact ⟨k + 1, hlt, by go_num, Lib.hid (by rw [HS.out, Bool.false_or]), hb.trans (hb3.mono hb.size)⟩
        case measure => simp [RowKit.intOf]; omega
    · have hkn : k = n := by omega
      subst hkn
      have hR2 : R = false := by rw [← HK.out, List.drop_eq_nil_of_le (by rw [N.out]; omega)]; rfl
      have HR2 := Lib.hid hR2
      clear hR2
      go_wp2
      go_ret
      exact ⟨⟨_, rfl, by rw [HR2.out]; decide⟩, hb⟩
set_option maxHeartbeats 2000000 in
theorem containsSome_any (v : Value) (l : Row) (q : Int) (B : Nat) (w : World) (hv : RowAt w v l) (hl : l.length ≤ 100000) (hB : w.cell? ⟨B, 0, none⟩ = some (.int .i64 q)) :
    Calls Tryz.prog 123 #[v, .func (.func 124) #[] #[.pointer (some ⟨B, 0, none⟩)]] w fun e w' => e = .returned (.bool (l.any (hasB q))) ∧ Below w.heap.size w w' := by
  have hc := indexSome_any v l q B w hv hl hB
  obtain ⟨R, hR⟩ : ∃ R, l.any (hasB q) = R := ⟨_, rfl⟩
  rw [hR] at hc ⊢
  clear hR hv hB
  go_enter Tryz.func123, Tryz.ntmps123
  go_wp2_with (go_at_call 136; ((with_reducible refine hc.mono ?_); rintro e w1 ⟨⟨z, rfl, hz⟩, hb⟩))
  go_ret
  exact ⟨rfl, hb⟩

set_option maxHeartbeats 4000000 in
theorem csome_any (v : Value) (l : Row) (f t q : Int) (w : World) (hv : RowAt w v l) (hl : l.length ≤ 100000) :
    Calls Tryz.prog 97 #[v, .int .i64 f, .int .i64 t, .int .i64 q] w fun e w' => e = .returned (.bool (someO l f t q)) ∧ Below w.heap.size w w' := by
  have ba : ∀ o, Below w.heap.size w (w.alloc o) := fun o => (Below.refl _ w).alloc (Nat.le_refl _) _
  have cf := fun o => fit_any v l f t (w.alloc o) (hv.below (ba o))
  unfold someO
  by_cases hB : fitB l.length f t = true
  · have h' := of_decide_eq_true hB
    obtain ⟨i, rfl⟩ := Int.eq_ofNat_of_zero_le h'.1
    obtain ⟨j, rfl⟩ := Int.eq_ofNat_of_zero_le (show 0 ≤ t by omega)
    rw [hB] at cf ⊢
    rw [Bool.true_and, Int.toNat_natCast, Int.toNat_natCast]
    obtain ⟨v1, r1, s1⟩ := slice_lh hv i j (by omega) (by omega)
    have hz1 : ((l.drop i).take (j - i)).length ≤ 100000 := by rw [List.length_take, List.length_drop]; omega
    obtain ⟨R, hR⟩ : ∃ R, (l.drop i).take (j - i) = R := ⟨_, rfl⟩
    rw [hR] at r1 hz1 ⊢
    have cC := containsSome_any v1 R q w.heap.size (w.alloc (.cells #[.int .i64 q] 3)) (r1.below (ba _)) hz1 (by simp)
    obtain ⟨M, hM⟩ : ∃ M, R.any (hasB q) = M := ⟨_, rfl⟩
    rw [hM] at cC ⊢
    clear hB hv h' hR hM r1
    go_enter Tryz.func97, Tryz.ntmps97
    go_wp2_with (first
      | (go_at_call 109; ((with_reducible refine (cf _).mono ?_); rintro e w1 ⟨rfl, rfl⟩))
      | (go_at_call 123; ((with_reducible refine cC.mono ?_); rintro e w2 ⟨rfl, hb⟩)))
    go_ret
    exact ⟨ret_bool (by simp), (ba _).trans (hb.mono (by simp))⟩
  · have hB2 : fitB l.length f t = false := by simpa using hB
    rw [hB2] at cf ⊢
    rw [Bool.false_and]
    clear hB hB2 hv
    go_enter Tryz.func97, Tryz.ntmps97
    go_wp2_with (go_at_call 109; ((with_reducible refine (cf _).mono ?_); rintro e w1 ⟨rfl, rfl⟩))
    go_ret
    exact ⟨rfl, ba _⟩
end Go.Proofs.YtafincmcmgedbaaGreatDoor
