/-
  The document's May, ints, Same of lines.
-/
import Derived.Test.YtmlipcedkgfmiaaDoorLMay
namespace Go.Proofs.YtmlipcedkgfmiaaDoor
open Go.RowKit Go.Lib

def badB (k z : Int) : Bool := wrongB z || decide (k ≠ 0)
theorem mayS_doc {q k : Int} {ls : IRow} {cs : Row} (hq : 0 ≤ q ∧ q ≤ 6) (hl : ls.length ≤ 6) (hk : 0 ≤ k ∧ k ≤ 3) : mayS ⟨q, ls, k, cs⟩ = (!ls.any (badB k) && mayR cs) := by
  have e1 : upB q 6 = true := decide_eq_true hq
  have e2 : upB k 3 = true := decide_eq_true hk
  unfold mayS
  dsimp only
  rw [e1, Bool.true_and]
  unfold listsB kindB
  rw [decide_eq_true hl, Bool.true_and, e2]
  cases ls with
  | nil => simp
  | cons z l =>
    rw [if_neg (by simp)]
    by_cases h : k = 0
    · subst h
      have : badB 0 = wrongB := by funext x; simp [badB]
      rw [this]; simp
    · have h1 : decide (k = 0) = false := decide_eq_false h
      rw [h1]
      simp [badB, h]
theorem mayS_off {q k : Int} {ls : IRow} {cs : Row} (h : q < 0 ∨ 6 < q ∨ 6 < ls.length ∨ k < 0 ∨ 3 < k) : mayS ⟨q, ls, k, cs⟩ = false := by
  unfold mayS
  dsimp only
  rw [Bool.eq_false_iff]
  intro hm
  simp only [Bool.and_eq_true] at hm
  obtain ⟨⟨⟨h1, h2⟩, h3⟩, _⟩ := hm
  have g1 : 0 ≤ q ∧ q ≤ 6 := of_decide_eq_true h1
  unfold listsB at h2
  simp only [Bool.and_eq_true, decide_eq_true_eq] at h2
  unfold kindB at h3
  split at h3
  · have g2 : 0 ≤ k ∧ k ≤ 3 := of_decide_eq_true h3
    omega
  · have g3 := of_decide_eq_true h3
    omega

set_option maxRecDepth 20000 in
set_option maxHeartbeats 8000000 in
theorem rlmay_any (q k : Int) (sl sc : Value) (ls : IRow) (cs : Row) (w : World) (h : LnAt w sl sc ls cs) (hcs : cs.length ≤ 50000) (hf : Fair cs) :
    Calls Tryd.prog 13 #[.agg #[.int .i64 q, sl, .int .i64 k, sc]] w fun e w' => e = .returned (.bool (mayS ⟨q, ls, k, cs⟩)) ∧ Below w.heap.size w w' := by
  have cR : ∀ w1, Below w.heap.size w w1 → Calls Tryd.prog 41 #[sc] w1 fun e w' => e = .returned (.bool (mayR cs)) ∧ Below w1.heap.size w1 w' := fun w1 h1 => rmayRow_any sc cs w1 (h.r.below h1) (by omega) hf
  have HZ := Lib.hid h.z
  obtain ⟨a1, c1, e1, hnc, hcm⟩ := h.z.cap
  obtain ⟨a2, c2, e2⟩ := h.r.len
  subst e1 e2
  unfold maxLen at hcm
  have ba : ∀ o, Below w.heap.size w (w.alloc o) := fun o => (Below.refl _ w).alloc (Nat.le_refl _) _
  by_cases hoff : q < 0 ∨ 6 < q ∨ 6 < ls.length ∨ k < 0 ∨ 3 < k
  · rw [mayS_off hoff]
    obtain ⟨n1, hn1⟩ : ∃ n, ls.length = n := ⟨_, rfl⟩
    rw [hn1] at hoff ⊢
    clear h hcs hf cR HZ hnc hn1
    have hc : q < 0 ∨ ¬ q < 0 ∧ 6 < q ∨ ¬ q < 0 ∧ ¬ 6 < q ∧ (6 : Int) < (n1 : Int) ∨ ¬ q < 0 ∧ ¬ 6 < q ∧ ¬ (6 : Int) < (n1 : Int) ∧ k < 0 ∨ ¬ q < 0 ∧ ¬ 6 < q ∧ ¬ (6 : Int) < (n1 : Int) ∧ ¬ k < 0 ∧ 3 < k := by omega
    clear hoff
    rcases hc with h1 | ⟨h1, h2⟩ | ⟨h1, h2, h3⟩ | ⟨h1, h2, h3, h4⟩ | ⟨h1, h2, h3, h4, h5⟩ <;>
      (go_enter Tryd.func13, Tryd.ntmps13
       go_wp2
       go_ret
       exact ⟨rfl, ba _⟩)
  · have g1 : ¬ q < 0 := fun h => hoff (.inl h)
    have g2 : ¬ 6 < q := fun h => hoff (.inr (.inl h))
    have g3 : ¬ 6 < ls.length := fun h => hoff (.inr (.inr (.inl h)))
    have g4 : ¬ k < 0 := fun h => hoff (.inr (.inr (.inr (.inl h))))
    have g5 : ¬ 3 < k := fun h => hoff (.inr (.inr (.inr (.inr h))))
    rw [mayS_doc ⟨by omega, by omega⟩ (by omega) ⟨by omega, by omega⟩]
    obtain ⟨n, hn⟩ : ∃ n, ls.length = n := ⟨_, rfl⟩
    have N := Lib.hid hn
    obtain ⟨n2, hn2⟩ : ∃ n, cs.length = n := ⟨_, rfl⟩
    obtain ⟨S, hS⟩ : ∃ S, ls.any (badB k) = S := ⟨_, rfl⟩
    obtain ⟨R, hR⟩ : ∃ R, mayR cs = R := ⟨_, rfl⟩
    rw [hS, hR, hn, hn2]
    rw [hR, hn2] at cR
    rw [hn] at HZ hnc g3
    have g6 : ¬ (6 : Int) < (n : Int) := by omega
    have HS : Hid ((ls.drop 0).any (badB k) = S) := Lib.hid hS
    clear h hcs hf hS hR hn hn2 hoff
    go_enter Tryd.func13, Tryd.ntmps13
    go_wp2
    go_loop [3] (fun i => ∃ j : Nat, j ≤ n ∧ i = .int .i64 j ∧ Hid ((ls.drop j).any (badB k) = S)) (fun i => n - (RowKit.intOf i).toNat)
    case atStart => exact ⟨0, Nat.zero_le _, rfl, HS⟩
    case round =>
      obtain ⟨j, hj, rfl, HK⟩ := hrel
      by_cases hlt : j < n
      · have hkl : j < ls.length := by rw [N.out]; exact hlt
        obtain ⟨b, o, c3, e, hlc, hcm2, hbl, hIn⟩ := HZ.out.lies (by omega)
        rw [N.out] at e hlc
        simp only [Value.slice.injEq] at e
        obtain ⟨rfl, _, rfl⟩ := e
        unfold maxLen at hcm2
        have x1 := hIn j hkl
        have hst := anyZ_step (P := badB k) hkl
        rw [HK.out] at hst
        obtain ⟨X, hX⟩ : ∃ X, ls[j]! = X := ⟨_, rfl⟩
        rw [hX] at x1 hst
        have hkI : (j : Int) < (n : Int) := by omega
        have hbw : b ≠ w.heap.size := by omega
        clear HK hX hIn hkl cR HS
        have hX3 : X = 0 ∨ X = 1 ∨ (X ≠ 0 ∧ X ≠ 1) := by omega
        rcases hX3 with rfl | rfl | ⟨hx0, hx1⟩
        · by_cases hk0 : k = 0
          · subst hk0
            have HT : Hid ((ls.drop (j + 1)).any (badB 0) = S) := Lib.hid (by rw [hst]; simp [badB, wrongB, upB])
            clear hst
            go_wp2
            go_round
            case rel => exact ⟨j + 1, hlt, by go_num, HT⟩
            case measure => simp [RowKit.intOf]; omega
          · have HT : Hid (S = true) := Lib.hid (by rw [hst]; simp [badB, hk0])
            have hk1 : (k != 0) = true := by simpa using hk0
            clear hst
            go_wp2
            go_ret
            exact ⟨ret_bool (by rw [HT.out]; rfl), ba _⟩
        · by_cases hk0 : k = 0
          · subst hk0
            have HT : Hid ((ls.drop (j + 1)).any (badB 0) = S) := Lib.hid (by rw [hst]; simp [badB, wrongB, upB])
            clear hst
            go_wp2
            go_round
            case rel => exact ⟨j + 1, hlt, by go_num, HT⟩
            case measure => simp [RowKit.intOf]; omega
          · have HT : Hid (S = true) := Lib.hid (by rw [hst]; simp [badB, hk0])
            have hk1 : (k != 0) = true := by simpa using hk0
            clear hst
            go_wp2
            go_ret
            exact ⟨ret_bool (by rw [HT.out]; rfl), ba _⟩
        · have HT : Hid (S = true) := Lib.hid (by rw [hst]; have : wrongB X = true := by { unfold wrongB upB; simp; omega }; simp [badB, this])
          have hk1 : (X != 0) = true := by simpa using hx0
          have hk2 : (X != 1) = true := by simpa using hx1
          clear hst
          go_wp2
          go_ret
          exact ⟨ret_bool (by rw [HT.out]; rfl), ba _⟩
      · have hkn : j = n := by omega
        subst hkn
        have hS2 : S = false := by rw [← HK.out, List.drop_eq_nil_of_le (by rw [N.out]; omega)]; rfl
        have HS2 := Lib.hid hS2
        clear hS2 HK HS
        go_wp2_with (go_at_call 41; ((with_reducible refine (cR _ (ba _)).mono ?_); rintro e w3 ⟨rfl, hb3⟩))
        go_ret
        exact ⟨ret_bool (by rw [HS2.out]; rfl), (ba _).trans (hb3.mono (ba _).size)⟩

/-! ### ints -/
def sameZ (l m : IRow) : Bool := decide (l = m)
theorem dropZ_cons {l : IRow} {k : Nat} (h : k < l.length) : l.drop k = l[k]! :: l.drop (k + 1) := by
  rw [List.drop_eq_getElem_cons h, List.getElem!_eq_getElem?_getD, List.getElem?_eq_getElem h]; rfl
theorem sameZ_step {l m : IRow} {k : Nat} (h1 : k < l.length) (h2 : k < m.length) : sameZ (l.drop k) (m.drop k) = (decide (l[k]! = m[k]!) && sameZ (l.drop (k + 1)) (m.drop (k + 1))) := by
  rw [dropZ_cons h1, dropZ_cons h2]
  unfold sameZ
  rw [Bool.eq_iff_iff]
  simp only [List.cons.injEq, decide_eq_true_eq, Bool.and_eq_true]

set_option maxRecDepth 20000 in
set_option maxHeartbeats 8000000 in
theorem rints_any (v1 v2 : Value) (l m : IRow) (w : World) (h1 : IntsAt w v1 l) (h2 : IntsAt w v2 m) (hln : l.length ≤ 100000) :
    Calls Tryd.prog 44 #[v1, v2] w fun e w' => e = .returned (.bool (sameZ l m)) ∧ Below w.heap.size w w' := by
  obtain ⟨a1, c1, e1⟩ := h1.len
  obtain ⟨a2, c2, e2⟩ := h2.len
  have H1 := Lib.hid h1
  have H2 := Lib.hid h2
  clear h1 h2
  subst e1 e2
  obtain ⟨n1, hn1⟩ : ∃ n1, l.length = n1 := ⟨_, rfl⟩
  obtain ⟨n2, hn2⟩ : ∃ n2, m.length = n2 := ⟨_, rfl⟩
  rw [hn1] at hln ⊢
  rw [hn2]
  by_cases hn : n1 = n2
  · subst hn
    obtain ⟨S, hS⟩ : ∃ S, sameZ l m = S := ⟨_, rfl⟩
    rw [hS]
    have HS := Lib.hid hS
    have N1 := Lib.hid hn1
    have N2 := Lib.hid hn2
    clear hS hn1 hn2
    go_enter Tryd.func44, Tryd.ntmps44
    go_wp2
    go_loopw [5] (fun i wr => ∃ k : Nat, k ≤ n1 ∧ i = .int .i64 k ∧ Hid (sameZ (l.drop k) (m.drop k) = S) ∧ ∃ z, wr = w.drewN z) (fun i _ => n1 - (RowKit.intOf i).toNat)
    case atStart => exact ⟨0, Nat.zero_le _, rfl, HS, 0, rfl⟩
    case round =>
      obtain ⟨k, hk, rfl, HK, z, rfl⟩ := hrel
      by_cases hlt : k < n1
      · have hkI : (k : Int) < (n1 : Int) := by omega
        have hst := sameZ_step (l := l) (m := m) (k := k) (by rw [N1.out]; exact hlt) (by rw [N2.out]; exact hlt)
        rw [HK.out] at hst
        obtain ⟨b1, o1, d1, e, _, hm1, _, hc1⟩ := H1.out.lies (by rw [N1.out]; omega)
        obtain ⟨b2, o2, d2, e', _, hm2, _, hc2⟩ := H2.out.lies (by rw [N2.out]; omega)
        rw [N1.out] at e
        rw [N2.out] at e'
        obtain ⟨rfl, _, rfl⟩ := Value.slice.inj e
        obtain ⟨rfl, _, rfl⟩ := Value.slice.inj e'
        unfold maxLen at hm1 hm2
        have x1 := hc1 k (by rw [N1.out]; exact hlt)
        have y1 := hc2 k (by rw [N2.out]; exact hlt)
        obtain ⟨X, hX⟩ : ∃ X, l[k]! = X := ⟨_, rfl⟩
        obtain ⟨Y, hY⟩ : ∃ Y, m[k]! = Y := ⟨_, rfl⟩
        rw [hX] at x1 hst
        rw [hY] at y1 hst
        clear hX hY hc1 hc2 HK e e'
        by_cases g1 : X = Y
        · subst g1
          have HT : Hid (sameZ (l.drop (k + 1)) (m.drop (k + 1)) = S) := Lib.hid (by rw [hst]; simp)
          clear hst
          go_wp2_with fail
          go_quiet (fail)
          go_wp2
          go_roundw
          case rel => exact ⟨k + 1, hlt, by go_num, HT, _, rfl⟩
          case measure => simp [RowKit.intOf]; omega
        · have HT : Hid (S = false) := Lib.hid (by rw [hst]; simp [g1])
          have g1b : (X != Y) = true := by simpa using g1
          clear hst
          go_wp2_with fail
          go_quiet (fail)
          go_wp2
          go_ret
          exact ⟨ret_bool HT.out.symm, by rw [World.drewN_drewN]; exact below_draws w _⟩
      · have hkn : k = n1 := by omega
        subst hkn
        have hl : S = true := by rw [← HK.out, List.drop_eq_nil_of_le (by rw [N1.out]; omega), List.drop_eq_nil_of_le (by rw [N2.out]; omega)]; rfl
        have HL := Lib.hid hl
        clear hl HK
        go_wp2
        go_ret
        exact ⟨ret_bool HL.out.symm, below_draws w z⟩
  · have e0 : sameZ l m = false := decide_eq_false (fun e => hn (by rw [← hn1, ← hn2, e]))
    rw [e0]
    have g1 : ((n1 : Int) != (n2 : Int)) = true := by simp; omega
    have g2 : ¬ (n1 : Int) = (n2 : Int) := by omega
    clear hn1 hn2 e0 hn
    go_enter Tryd.func44, Tryd.ntmps44
    go_wp2
    go_ret
    exact ⟨rfl, Below.refl _ _⟩

end Go.Proofs.YtmlipcedkgfmiaaDoor
