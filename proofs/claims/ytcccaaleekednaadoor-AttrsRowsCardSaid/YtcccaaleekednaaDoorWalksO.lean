/-
  The contracts of the document's Own, Find, May, Put; of the statements' spoil.
-/
import Derived.Test.YtcccaaleekednaaDoorWalksK
import Derived.Test.YtcccaaleekednaaDoorWalksN
import Derived.Test.YtcccaaleekednaaDoorLawPut
namespace Go.Proofs.YtcccaaleekednaaDoor
open Go.RowKit Go.Lib

set_option maxHeartbeats 2000000 in
theorem rown_any (v : Value) (l : Row) (w : World) (hv : RowAt w v l) (hl : l.length ≤ 100000) :
    Calls Tryd.prog 16 #[v] w (OwnPost l w) := by
  obtain ⟨i0, hi, hz0, hz1, hz2⟩ := info_parts infoAttr
  have hown0 : (w.alloc (.cells #[] 32)).ownsRow w.heap.size 32 2 (.slice (some ⟨w.heap.size, 0, none⟩) 0 0) 0 [] := World.ownsRow_made w #[] 0 (Nat.le_refl _) (Nat.zero_le _) (by simp)
  have hb0 : Below w.heap.size w (w.alloc (.cells #[] 32)) := (Below.refl _ _).alloc (Nat.le_refl _) _
  rcases hv with ⟨a, c, rfl, hac, rfl⟩ | ⟨b, o, c, rfl, hlc, hcm, hbb, hc⟩
  · cases a with
    | none =>
      have hc0 := hac rfl
      subst hc0
      clear hac
      go_enter Tryd.func16, Tryd.ntmps16
      go_wp2_with (at_builtin; refine wpList_append_own_none rfl _ _ 25 rfl w.heap.size 32 i0 2 Tryd.underlying25 hi _ _ _ rfl hown0 rfl ?_)
      go_ret
      exact ⟨_, rfl, hown0, hb0⟩
    | some ad =>
      clear hac
      go_enter Tryd.func16, Tryd.ntmps16
      go_wp2_with (at_builtin; refine wpList_append_own _ rfl _ _ 25 rfl w.heap.size 32 i0 _ 2 32 Tryd.underlying25 hi hz0 hz1 hz2 rfl (by decide) _ _ _ rfl hown0 ad 0 c [] rfl (by simp) (by simp) (by simp) (by unfold maxLen; omega) (by omega) (by simp) ?_; intro v' w1 hown' hgrow _)
      go_ret
      exact ⟨_, rfl, hown', below_grown hb0 (by simp) hown0 hgrow⟩
  · have C0 := hc.below hbb hb0
    obtain ⟨N, hN⟩ : ∃ N, l.length = N := ⟨_, rfl⟩
    have hcl := cellsR_length l
    rw [hN] at hl hlc hcl
    have HN := Lib.hid hN
    have HCL := Lib.hid hcl
    rw [hN]
    clear hN hcl
    go_enter Tryd.func16, Tryd.ntmps16
    go_wp2_with (at_builtin; refine wpList_append_own _ rfl _ _ 25 rfl w.heap.size 32 i0 _ 2 32 Tryd.underlying25 hi hz0 hz1 hz2 rfl (by decide) _ _ _ rfl hown0 ⟨b, o, none⟩ N c (cellsR l) rfl HCL.out C0.addF (cellsR_one l) (by unfold maxLen; omega) (by omega) (by simp) ?_; intro v' w1 hown' hgrow _)
    go_ret
    refine ⟨_, rfl, ?_, below_grown hb0 (by simp) hown0 hgrow⟩
    rw [HN.out]
    simpa using hown'

theorem findZ_at {l : Row} {n : ByteArray} {k : Nat} (hk : k < l.length) (h : (l[k]!).1 = n) (h2 : ∀ j, j < k → (l[j]!).1 ≠ n) : findZ l n = (k : Int) := by
  unfold findZ
  rw [findR_is l n k hk h h2, if_pos hk]
theorem findZ_none {l : Row} {n : ByteArray} (h : ∀ j, j < l.length → (l[j]!).1 ≠ n) : findZ l n = -1 := by
  unfold findZ
  rw [findR_none l n h, if_neg (by omega)]

set_option maxHeartbeats 2000000 in
theorem rfind_any (v : Value) (l : Row) (n : ByteArray) (w : World) (hv : RowAt w v l) (hl : l.length ≤ 100000) :
    Calls Tryd.prog 17 #[v, .string n] w fun e w' => e = .returned (.int .i64 (findZ l n)) ∧ w = w' := by
  obtain ⟨a1, c1, e1⟩ := hv.len
  have HV := Lib.hid hv
  clear hv
  subst e1
  obtain ⟨N, hN⟩ : ∃ N, l.length = N := ⟨_, rfl⟩
  rw [hN] at hl ⊢
  have HN := Lib.hid hN
  clear hN
  obtain ⟨Z, hZ⟩ : ∃ Z, findZ l n = Z := ⟨_, rfl⟩
  rw [hZ]
  have HZ := Lib.hid hZ
  clear hZ
  go_enter Tryd.func17, Tryd.ntmps17
  go_wp2
  go_loop [5] (fun i => ∃ k : Nat, k ≤ N ∧ i = .int .i64 k ∧ Hid (∀ j, j < k → (l[j]!).1 ≠ n)) (fun i => N - (intOf i).toNat)
  case atStart => exact ⟨0, Nat.zero_le _, rfl, Lib.hid (fun j hj => by omega)⟩
  case round =>
    obtain ⟨k, hk, rfl, HK⟩ := hrel
    by_cases hlt : k < N
    · have hkI : (k : Int) < (N : Int) := by omega
      rcases HV.out with ⟨_, _, e, _, e2⟩ | ⟨b, o, d, e, _, _, hbb, hc⟩
      · have := HN.out; rw [e2] at this; simp at this; omega
      · obtain ⟨rfl, _, rfl⟩ := Value.slice.inj e
        clear e
        obtain ⟨x1, _⟩ := hc k (by rw [HN.out]; exact hlt)
        obtain ⟨A, hA⟩ : ∃ A, (l[k]!).1 = A := ⟨_, rfl⟩
        rw [hA] at x1
        have HA := Lib.hid hA
        clear hA hc
        cases g : A.toList == n.toList with
        | true =>
          have hAn : A = n := by rw [str_eq] at g; simpa using g
          have HF : Hid (Z = (k : Int)) := Lib.hid (by rw [← HZ.out]; exact findZ_at (by rw [HN.out]; exact hlt) (by rw [HA.out]; exact hAn) HK.out)
          clear hAn
          go_wp2
          go_ret
          exact ⟨ret_int HF.out.symm, rfl⟩
        | false =>
          have hAn : ¬ A = n := by rw [str_eq] at g; simpa using g
          have HK2 : Hid (∀ j, j < k + 1 → (l[j]!).1 ≠ n) := Lib.hid (fun j hj => by
            rcases Nat.lt_or_ge j k with h | h
            · exact HK.out j h
            · have : j = k := by omega
              rw [this, HA.out]; exact hAn)
          clear hAn HK
          go_wp2
          go_round
          case rel => exact ⟨k + 1, hlt, by go_num, HK2⟩
          case measure => simp [intOf]; omega
    · have hkN : k = N := by omega
      have HF : Hid (Z = -1) := Lib.hid (by rw [← HZ.out]; exact findZ_none (fun j hj => HK.out j (by rw [HN.out] at hj; omega)))
      clear HK
      go_wp2
      go_ret
      exact ⟨ret_int HF.out.symm, rfl⟩

/-! ### May -/
theorem kinds_append : ∀ (m l : Row), kindsR (l ++ m) ≤ kindsR l + m.length
  | [], l => by simp
  | a :: m, l => by
    have h1 := kinds_append m (l ++ [a])
    have h2 := kindsR_snoc l a
    have e : l ++ a :: m = (l ++ [a]) ++ m := by simp
    rw [e]
    rw [List.length_cons]
    split at h2 <;> omega
theorem findR_take : ∀ (l : Row) (k : Nat) (n : ByteArray), findR (l.take k) n = min (findR l n) k
  | [], k, n => by simp [findR]
  | a :: l, 0, n => by simp [findR]
  | a :: l, k + 1, n => by
    have ih := findR_take l k n
    by_cases e : a.1 = n
    · simp [findR, e]
    · simp only [List.take_succ_cons, findR, if_neg e, ih]
      omega
theorem has_take {l : Row} {k : Nat} (hk : k ≤ l.length) (n : ByteArray) : hasR (l.take k) n = decide (findR l n < k) := by
  rw [hasR_iff, findR_take, List.length_take, decide_eq_decide]
  omega
theorem find_lt {l : Row} {k : Nat} (hk : k < l.length) : (findZ l (l[k]!).1 < (k : Int)) ↔ hasR (l.take k) (l[k]!).1 = true := by
  have hle : findR l (l[k]!).1 ≤ k := by
    rcases Nat.lt_or_ge k (findR l (l[k]!).1) with h | h
    · exact absurd rfl (findR_ahead l _ k h)
    · exact h
  have hz : findZ l (l[k]!).1 = (findR l (l[k]!).1 : Int) := by unfold findZ; rw [if_pos (by omega)]
  rw [hz, has_take (by omega), decide_eq_true_eq]
  omega
theorem dist_no {l : Row} {k : Nat} (hk : k < l.length) (h : hasR (l.take k) (l[k]!).1 = true) : distR l = false := by
  rw [← kindsR_eq]
  apply decide_eq_false
  have h1 := kindsR_snoc (l.take k) l[k]!
  rw [if_pos h, ← take_snocR' hk] at h1
  have h2 := kinds_append (l.drop (k + 1)) (l.take (k + 1))
  rw [List.take_append_drop, List.length_drop, h1] at h2
  have h3 := kindsR_le (l.take k)
  rw [List.length_take] at h3
  omega
theorem kinds_step {l : Row} {k : Nat} (hk : k < l.length) (h0 : kindsR (l.take k) = k) (h : hasR (l.take k) (l[k]!).1 = false) : kindsR (l.take (k + 1)) = k + 1 := by
  rw [take_snocR' hk, kindsR_snoc, h, h0]
  rfl

set_option maxHeartbeats 4000000 in
theorem rmayRow_any (v : Value) (l : Row) (w : World) (hv : RowAt w v l) (hsh : Short l) :
    Calls Tryd.prog 20 #[v] w fun e w' => e = .returned (.bool (mayR l)) ∧ Below w.heap.size w w' := by
  obtain ⟨hl, hsz⟩ := hsh
  obtain ⟨a1, c1, e1⟩ := hv.len
  have HV := Lib.hid hv
  have HS := Lib.hid hsz
  have cF := fun n wx hx => rfind_any v l n wx hx (by omega)
  clear hv hsz
  subst e1
  have hmay : mayR l = (okR l && distR l) := rfl
  obtain ⟨M, hM⟩ : ∃ M, mayR l = M := ⟨_, rfl⟩
  rw [hM] at hmay ⊢
  have HM := Lib.hid hmay
  clear hM hmay
  obtain ⟨N, hN⟩ : ∃ N, l.length = N := ⟨_, rfl⟩
  rw [hN] at hl cF ⊢
  have HN := Lib.hid hN
  clear hN
  go_enter Tryd.func20, Tryd.ntmps20
  go_wp2
  go_loopw [3] (fun i wr => ∃ k : Nat, k ≤ N ∧ i = .int .i64 k ∧ Hid (kindsR (l.take k) = k) ∧ Hid (okR (l.drop k) = okR l) ∧ Below w.heap.size w wr) (fun i _ => N - (intOf i).toNat)
  case atStart => exact ⟨0, Nat.zero_le _, rfl, Lib.hid rfl, Lib.hid rfl, Below.refl _ _⟩
  case round =>
    obtain ⟨k, hk, rfl, HD, HO, hb⟩ := hrel
    by_cases hlt : k < N
    · have hkI : (k : Int) < (N : Int) := by omega
      have hkl : k < l.length := by rw [HN.out]; exact hlt
      have q1 := HV.out.below hb
      have cF2 : ∀ wx, Below w.heap.size w wx → _ := fun wx hx => cF (l[k]!).1 wx (by have := HV.out.below hx; rwa [HN.out] at this)
      rcases q1 with ⟨_, _, e, _, e2⟩ | ⟨b, o, d, e, _, _, hbb, hc⟩
      · have := HN.out; rw [e2] at this; simp at this; omega
      · obtain ⟨rfl, _, rfl⟩ := Value.slice.inj e
        clear e
        obtain ⟨x1, x2⟩ := hc k hkl
        obtain ⟨z1, z2⟩ := HS.out k hkl
        have hst := okR_cons (l := l) (k := k) hkl
        rw [HO.out] at hst
        have hfl := find_lt hkl
        have hdn := dist_no hkl
        have hks := kinds_step hkl HD.out
        obtain ⟨Z, hZ⟩ : ∃ Z, findZ l (l[k]!).1 = Z := ⟨_, rfl⟩
        rw [hZ] at hfl
        simp only [hZ] at cF2
        obtain ⟨Q, hQ⟩ : ∃ Q, hasR (l.take k) (l[k]!).1 = Q := ⟨_, rfl⟩
        rw [hQ] at hfl hdn hks
        obtain ⟨A, hA⟩ : ∃ A, (l[k]!).1 = A := ⟨_, rfl⟩
        obtain ⟨B, hB⟩ : ∃ B, (l[k]!).2 = B := ⟨_, rfl⟩
        rw [hA] at x1 z1 hst
        rw [hB] at x2 z2 hst
        simp only [hA] at cF2
        clear hZ hQ hA hB hc HD HO
        have cN := fun wx => rname_any A wx (by omega)
        have cV := fun wx => rvalue_any B wx (by omega)
        obtain ⟨P1, hP1⟩ : ∃ P1, nameS A = P1 := ⟨_, rfl⟩
        obtain ⟨P2, hP2⟩ : ∃ P2, valueS B = P2 := ⟨_, rfl⟩
        rw [hP1, hP2] at hst
        simp only [hP1] at cN
        simp only [hP2] at cV
        clear hP1 hP2
        cases P1 with
        | false =>
          simp only [Bool.false_and] at hst
          have HF := Lib.hid hst
          clear hst hfl hdn hks
          go_wp2_with (go_at_call 11; ((with_reducible refine (cN _).mono ?_); rintro e w1 ⟨rfl, rfl⟩))
          go_ret
          exact ⟨ret_bool (by rw [HM.out, HF.out]; rfl), hb⟩
        | true =>
          cases P2 with
          | false =>
            simp only [Bool.and_false, Bool.false_and] at hst
            have HF := Lib.hid hst
            clear hst hfl hdn hks
            go_wp2_with (first
              | (go_at_call 11; ((with_reducible refine (cN _).mono ?_); rintro e w1 ⟨rfl, rfl⟩))
              | (go_at_call 13; ((with_reducible refine (cV _).mono ?_); rintro e w1 ⟨rfl, hb1⟩)))
            go_ret
            exact ⟨ret_bool (by rw [HM.out, HF.out]; rfl), hb.trans (hb1.mono hb.size)⟩
          | true =>
            simp only [Bool.true_and] at hst
            have HF := Lib.hid hst
            have hcr : ∀ wx, Below wr.heap.size wr wx → wx.cell? ⟨b, o + k * 2, none⟩ = some (.string A) := fun wx hx => (hx.cell (p := ⟨b, o + k * 2, none⟩) hbb).trans x1
            cases Q with
            | true =>
              have hZk : Z < (k : Int) := hfl.2 rfl
              have hd := Lib.hid (hdn rfl)
              clear hst hfl hdn hks
              go_wp2_with (first
                | (go_at_call 11; ((with_reducible refine (cN _).mono ?_); rintro e w1 ⟨rfl, rfl⟩))
                | (go_at_call 13; ((with_reducible refine (cV _).mono ?_); rintro e w1 ⟨rfl, hb1⟩; have hq := hcr _ hb1; have hb2 := hb.trans (hb1.mono hb.size)))
                | (go_at_call 17; ((with_reducible refine (cF2 _ hb2).mono ?_); rintro e w2 ⟨rfl, rfl⟩)))
              go_ret
              exact ⟨ret_bool (by rw [HM.out, hd.out, Bool.and_false]), hb2⟩
            | false =>
              have hZk : ¬ Z < (k : Int) := fun h => by have := hfl.1 h; cases this
              have hd := Lib.hid (hks rfl)
              clear hst hfl hdn hks
              go_wp2_with (first
                | (go_at_call 11; ((with_reducible refine (cN _).mono ?_); rintro e w1 ⟨rfl, rfl⟩))
                | (go_at_call 13; ((with_reducible refine (cV _).mono ?_); rintro e w1 ⟨rfl, hb1⟩; have hq := hcr _ hb1; have hb2 := hb.trans (hb1.mono hb.size)))
                | (go_at_call 17; ((with_reducible refine (cF2 _ hb2).mono ?_); rintro e w2 ⟨rfl, rfl⟩)))
              go_roundw
              case rel => exact ⟨k + 1, hlt, by go_num, hd, Lib.hid HF.out.symm, hb2⟩
              case measure => simp [intOf]; omega
    · have hkN : k = N := by omega
      have hO : okR l = true := by rw [← HO.out, List.drop_eq_nil_of_le (by rw [HN.out]; omega)]; rfl
      have hD : distR l = true := by
        rw [← kindsR_eq]
        have := HD.out
        rw [List.take_of_length_le (by rw [HN.out]; omega)] at this
        exact decide_eq_true (by rw [this, HN.out]; exact hkN)
      have HF : Hid (M = true) := Lib.hid (by rw [HM.out, hO, hD]; rfl)
      clear hO hD HO HD
      go_wp2
      go_ret
      exact ⟨ret_bool HF.out.symm, hb⟩

end Go.Proofs.YtcccaaleekednaaDoor
