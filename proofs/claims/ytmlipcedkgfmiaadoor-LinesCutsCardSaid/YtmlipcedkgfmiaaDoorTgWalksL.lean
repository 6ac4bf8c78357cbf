/-
  The contract of the document's Target.
-/
import Derived.Test.YtmlipcedkgfmiaaDoorTgWalksK
namespace Go.Proofs.YtmlipcedkgfmiaaDoor.Tg
open Go.RowKit Go.Lib

/-- How much stands ahead of the first colon. -/
def ahN (l : List UInt8) : Nat := (aheadL l).length
theorem ahN_le (l : List UInt8) : ahN l ≤ l.length := ahead_length l
theorem ahN_ne : ∀ (l : List UInt8) (j : Nat), j < ahN l → l.getD j 0 ≠ 58
  | [], j, h => by simp [ahN, aheadL] at h
  | b :: t, j, h => by
    unfold ahN aheadL at h
    rw [List.takeWhile_cons] at h
    by_cases hb : b = 58
    · subst hb; simp at h
    · have hb' : (b != 58) = true := by simpa using hb
      rw [hb', if_pos rfl] at h
      cases j with
      | zero => simpa using hb
      | succ j => simpa using ahN_ne t j (by simpa [ahN, aheadL] using h)
theorem ahN_at : ∀ l : List UInt8, ahN l < l.length → l.getD (ahN l) 0 = 58
  | [], h => by simp at h
  | b :: t, h => by
    by_cases hb : b = 58
    · subst hb; simp [ahN, aheadL]
    · have hb' : (b != 58) = true := by simpa using hb
      have e : ahN (b :: t) = ahN t + 1 := by
        unfold ahN aheadL
        rw [List.takeWhile_cons, hb', if_pos rfl, List.length_cons]
      rw [e] at h ⊢
      have := ahN_at t (by simpa using h)
      simpa using this
theorem ahead_take : ∀ l : List UInt8, aheadL l = l.take (ahN l)
  | [] => rfl
  | b :: t => by
    by_cases hb : b = 58
    · subst hb; simp [ahN, aheadL]
    · have hb' : (b != 58) = true := by simpa using hb
      have e : ahN (b :: t) = ahN t + 1 := by
        unfold ahN aheadL
        rw [List.takeWhile_cons, hb', if_pos rfl, List.length_cons]
      rw [e, List.take_succ_cons, ← ahead_take t]
      unfold aheadL
      rw [List.takeWhile_cons, hb', if_pos rfl]

/-- The letters from k on are the word's. -/
def wordB (l : List UInt8) (k : Nat) : Bool := ((l.take 10).drop k).map smallB == jsL.drop k
theorem word_step {s : ByteArray} {k : Nat} (hk : k < 10) (h10 : 10 ≤ s.size) (hs : k < s.size) : wordB s.data.toList k = (smallB s[k] == jsL.getD k 0 && wordB s.data.toList (k + 1)) := by
  unfold wordB
  have hl : 10 ≤ s.data.toList.length := by rw [← size_eq]; exact h10
  have h1 : k < (s.data.toList.take 10).length := by rw [List.length_take]; omega
  have hj : k < jsL.length := hk
  rw [List.drop_eq_getElem_cons h1, List.drop_eq_getElem_cons hj, List.map_cons]
  have e1 : (s.data.toList.take 10)[k] = s[k] := by
    rw [List.getElem_take]; rfl
  have e2 : jsL.getD k 0 = jsL[k] := by rw [List.getD_eq_getElem?_getD, List.getElem?_eq_getElem hj]; rfl
  rw [e1, e2]
  rfl
theorem word_end (l : List UInt8) : wordB l 10 = true := by
  unfold wordB
  rw [List.drop_eq_nil_of_le (by rw [List.length_take]; omega), List.drop_eq_nil_of_le (by decide)]
  rfl
theorem smallB_int (b : UInt8) : ((smallB b).toNat : Int) = if (65 : Int) ≤ (b.toNat : Int) ∧ (b.toNat : Int) ≤ 90 then (b.toNat : Int) + 32 else (b.toNat : Int) := by
  have hb := b.toNat_lt
  unfold smallB
  by_cases h : 65 ≤ b.toNat ∧ b.toNat ≤ 90
  · rw [if_pos h, if_pos (by omega)]
    have : (b + 32).toNat = b.toNat + 32 := by
      rw [UInt8.toNat_add]; simp; omega
    omega
  · rw [if_neg h, if_neg (by omega)]

theorem ne_g {b j : UInt8} (h1 : (65 : Int) ≤ (b.toNat : Int)) (h2 : (b.toNat : Int) ≤ 90) (h : ((b.toNat : Int) + 32 != (j.toNat : Int)) = true) : (smallB b == j) = false := by
  have e := smallB_int b
  rw [if_pos ⟨h1, h2⟩] at e
  apply Bool.eq_false_iff.2
  intro h3
  rw [eq_of_beq h3] at e
  simp [← e] at h
theorem eq_g {b j : UInt8} (h1 : (65 : Int) ≤ (b.toNat : Int)) (h2 : (b.toNat : Int) ≤ 90) (h : ((b.toNat : Int) + 32 != (j.toNat : Int)) = false) : (smallB b == j) = true := by
  have e := smallB_int b
  rw [if_pos ⟨h1, h2⟩] at e
  have h3 : (b.toNat : Int) + 32 = (j.toNat : Int) := by simpa using h
  have : smallB b = j := UInt8.toNat_inj.1 (Int.ofNat.inj (e.trans h3))
  simpa using this
theorem ne_n {b j : UInt8} (h0 : ¬ ((65 : Int) ≤ (b.toNat : Int) ∧ (b.toNat : Int) ≤ 90)) (h : ((b.toNat : Int) != (j.toNat : Int)) = true) : (smallB b == j) = false := by
  have e := smallB_int b
  rw [if_neg h0] at e
  apply Bool.eq_false_iff.2
  intro h3
  rw [eq_of_beq h3] at e
  simp [← e] at h
theorem eq_n {b j : UInt8} (h0 : ¬ ((65 : Int) ≤ (b.toNat : Int) ∧ (b.toNat : Int) ≤ 90)) (h : ((b.toNat : Int) != (j.toNat : Int)) = false) : (smallB b == j) = true := by
  have e := smallB_int b
  rw [if_neg h0] at e
  have h3 : (b.toNat : Int) = (j.toNat : Int) := by simpa using h
  have : smallB b = j := UInt8.toNat_inj.1 (Int.ofNat.inj (e.trans h3))
  simpa using this
/-- The word. -/
def jsB : ByteArray := ⟨#[106, 97, 118, 97, 115, 99, 114, 105, 112, 116]⟩
theorem jsB_at {q : Nat} (h : q < 10) : jsL.getD q 0 = (⟨#[106, 97, 118, 97, 115, 99, 114, 105, 112, 116]⟩ : ByteArray)[q]'h := getD_at (s := jsB) (k := q) h

theorem u8_of_int {a b : UInt8} (h : (a.toNat : Int) = (b.toNat : Int)) : a = b := UInt8.toNat_inj.1 (Int.ofNat.inj h)

set_option maxHeartbeats 8000000 in
set_option maxRecDepth 20000 in
theorem rtarget_any (s : ByteArray) (w : World) (hs : s.size ≤ 1000000) :
    Calls Tryd.prog 72 #[.string s] w fun e w' => e = .returned (.bool (targetS s)) ∧ Below w.heap.size w w' := by
  have cV := rvalue_any s w hs
  by_cases hV : valueS s = true
  · rw [hV] at cV
    by_cases h0 : s.size = 0
    · obtain rfl := eq_empty h0
      have e0 : targetS ⟨#[]⟩ = false := by decide
      rw [e0]
      clear e0 h0 hs hV
      go_enter Tryd.func72, Tryd.ntmps72
      go_wp2_with (go_at_call 76; ((with_reducible refine cV.mono ?_); rintro e w1 ⟨rfl, hb1⟩))
      go_ret
      exact ⟨rfl, hb1⟩
    · have hp : 0 < s.size := by omega
      have hE := isEmpty_of_pos hp
      have hpl : s.size - 1 < s.size := by omega
      have hpI : (0 : Int) ≤ (s.size : Int) - 1 := by omega
      have hpI2 : (1 : Int) ≤ (s.size : Int) := by omega
      have hpT : ((s.size : Int) - 1).toNat = s.size - 1 := by omega
      have hpW : IntKind.i64.wrap ((s.size : Int) - 1) = (s.size : Int) - 1 := IntWalk.i64_in _ (by omega)
      have hpl2 : (s.size : Int) - 1 < (s.size : Int) := by omega
      have q0 : ∀ (b : UInt8), (b.toNat : Int) = 32 → b = 32 := fun b h => UInt8.toNat_inj.1 (Int.ofNat.inj h)
      have e0 : targetS s = ((s[0] != 32) && (s[s.size - 1] != 32) && !(((aheadL s.data.toList).map smallB) == jsL)) := by
        unfold targetS
        rw [hV, decide_eq_true hp, getD_at hp, getD_at hpl]
        rfl
      rw [e0]
      clear e0 hV h0
      by_cases hf : (s[0].toNat : Int) = 32
      · rw [q0 _ hf]
        simp only [bne_self_eq_false, Bool.false_and]
        clear q0
        go_enter Tryd.func72, Tryd.ntmps72
        go_wp2_with (go_at_call 76; ((with_reducible refine cV.mono ?_); rintro e w1 ⟨rfl, hb1⟩))
        go_ret
        exact ⟨rfl, hb1⟩
      · have hfb : ((s[0].toNat : Int) == 32) = false := by simpa using hf
        have hf2 : (s[0] != 32) = true := by
          have : ¬ s[0] = 32 := fun h => hf (by rw [h]; rfl)
          simpa using this
        rw [hf2, Bool.true_and]
        clear hf2
        by_cases hg : (s[s.size - 1].toNat : Int) = 32
        · rw [q0 _ hg]
          simp only [bne_self_eq_false, Bool.false_and]
          clear q0
          have hgb : ((s[s.size - 1].toNat : Int) == 32) = true := by simpa using hg
          clear hg
          go_enter Tryd.func72, Tryd.ntmps72
          go_wp2_with (go_at_call 76; ((with_reducible refine cV.mono ?_); rintro e w1 ⟨rfl, hb1⟩))
          go_ret
          exact ⟨rfl, hb1⟩
        · have hgb : ((s[s.size - 1].toNat : Int) == 32) = false := by simpa using hg
          have hg2 : (s[s.size - 1] != 32) = true := by
            have : ¬ s[s.size - 1] = 32 := fun h => hg (by rw [h]; rfl)
            simpa using this
          rw [hg2, Bool.true_and]
          clear hg2 q0
          obtain ⟨A, hA⟩ : ∃ A, (((aheadL s.data.toList).map smallB) == jsL) = A := ⟨_, rfl⟩
          rw [hA]
          have HA := Lib.hid hA
          clear hA
          have k1 := ahN_le s.data.toList
          rw [← size_eq] at k1
          have k2 := ahN_ne s.data.toList
          have k3 := ahN_at s.data.toList
          rw [← size_eq] at k3
          have k4 := ahead_take s.data.toList
          have k5 : (aheadL s.data.toList).length = ahN s.data.toList := rfl
          obtain ⟨E, hE⟩ : ∃ E, ahN s.data.toList = E := ⟨_, rfl⟩
          rw [hE] at k1 k2 k3 k4 k5
          have HN := Lib.hid k2
          have HE := Lib.hid k3
          have HT := Lib.hid k4
          have HL := Lib.hid k5
          clear k2 k3 k4 k5 hE
          go_enter Tryd.func72, Tryd.ntmps72
          go_wp2_with (go_at_call 76; ((with_reducible refine cV.mono ?_); rintro e w1 ⟨rfl, hb1⟩))
          clear hf hfb hg hgb
          go_loop [4] (fun e => ∃ k : Nat, k ≤ E ∧ e = .int .i64 k) (fun e => s.size - (intOf e).toNat)
          case atStart => exact ⟨0, Nat.zero_le _, rfl⟩
          case round =>
            obtain ⟨k, hk, rfl⟩ := hrel
            by_cases hlt : k < s.size
            · have hkI : (k : Int) < (s.size : Int) := by omega
              by_cases h58 : (s[k].toNat : Int) = 58
              · have hkE : k = E := by
                  rcases Nat.lt_or_ge k E with h | h
                  · exact absurd (show s.data.toList.getD k 0 = 58 by rw [getD_at hlt]; exact UInt8.toNat_inj.1 (Int.ofNat.inj h58)) (HN.out k h)
                  · omega
                have h58b : ((s[k].toNat : Int) != 58) = false := by simpa using h58
                clear h58
                subst hkE
                by_cases hE10 : k = 10
                · have HA2 : Hid (A = wordB s.data.toList 0) := Lib.hid (by rw [← HA.out, HT.out, hE10]; rfl)
                  have h10 : 10 ≤ s.size := by omega
                  have hkb : ((k : Int) != 10) = false := by rw [hE10]; rfl
                  have hk1 : k ≤ 10 := by omega
                  have hk2 : 10 ≤ k := by omega
                  clear hE10
                  go_wp2
                  go_loop [5, 6] (fun i c => ∃ q : Nat, q ≤ 10 ∧ i = .int .i64 q ∧ Hid (wordB s.data.toList q = A)) (fun i _ => 10 - (intOf i).toNat)
                  case atStart => exact ⟨0, by decide, rfl, Lib.hid HA2.out.symm⟩
                  case round =>
                    obtain ⟨q, hq10, rfl, HW⟩ := hrel
                    by_cases hq : q < 10
                    · have hqs : q < s.size := by omega
                      have hqI : (q : Int) < (k : Int) := by omega
                      have hqI2 : (q : Int) < 10 := by omega
                      have hst := word_step (s := s) (k := q) hq h10 hqs
                      rw [HW.out, jsB_at hq] at hst
                      have HS := Lib.hid hst
                      clear hst HW
                      go_wp2
                      all_goals first
                        | (go_ret; exact ⟨ret_bool (by rw [HS.out, ne_g (by assumption) (by assumption) (by assumption)]; rfl), hb1⟩)
                        | (go_ret; exact ⟨ret_bool (by rw [HS.out, ne_n (fun h => by omega) (by assumption)]; rfl), hb1⟩)
                        | (go_round
                           case rel => exact ⟨q + 1, hq, by go_num, Lib.hid (by rw [HS.out]; (first | rw [eq_g (by assumption) (by assumption) (by assumption)] | rw [eq_n (fun h => by omega) (by assumption)]); exact (Bool.true_and _).symm)⟩
                           case measure => simp [intOf]; omega)
                    · have hqI : ¬ (q : Int) < (k : Int) := by omega
                      have HS := Lib.hid (show A = true by rw [← HW.out, show q = 10 by omega]; exact word_end _)
                      clear HW
                      go_wp2
                      go_ret
                      exact ⟨ret_bool (by rw [HS.out]; rfl), hb1⟩
                · have hEI : ((k : Int) != 10) = true := by simp; omega
                  have hEI2 : ¬ (k : Int) = 10 := by omega
                  have HA2 : Hid (A = false) := Lib.hid (by
                    rw [← HA.out]
                    apply Bool.eq_false_iff.2
                    intro h
                    have h2 := congrArg List.length (eq_of_beq h)
                    rw [List.length_map] at h2
                    exact hE10 (by rw [← HL.out]; exact h2))
                  clear hE10
                  go_wp2
                  go_ret
                  exact ⟨ret_bool (by rw [HA2.out]; rfl), hb1⟩
              · have hkE : k < E := by
                  rcases Nat.lt_or_ge k E with h | h
                  · exact h
                  · have hkE : k = E := by omega
                    have := HE.out (by omega)
                    rw [← hkE, getD_at hlt] at this
                    exact absurd (by rw [this]; rfl) h58
                have h58b : ((s[k].toNat : Int) != 58) = true := by simpa using h58
                go_wp2
                go_round
                case rel => exact ⟨k + 1, hkE, by go_num⟩
                case measure => simp [intOf]; omega
            · have hkE : k = E := by omega
              subst hkE
              by_cases hE10 : k = 10
              · have HA2 : Hid (A = wordB s.data.toList 0) := Lib.hid (by rw [← HA.out, HT.out, hE10]; rfl)
                have h10 : 10 ≤ s.size := by omega
                have hkb : ((k : Int) != 10) = false := by rw [hE10]; rfl
                have hk1 : k ≤ 10 := by omega
                have hk2 : 10 ≤ k := by omega
                clear hE10
                go_wp2
                go_loop [5, 6] (fun i c => ∃ q : Nat, q ≤ 10 ∧ i = .int .i64 q ∧ Hid (wordB s.data.toList q = A)) (fun i _ => 10 - (intOf i).toNat)
                case atStart => exact ⟨0, by decide, rfl, Lib.hid HA2.out.symm⟩
                case round =>
                  obtain ⟨q, hq10, rfl, HW⟩ := hrel
                  by_cases hq : q < 10
                  · have hqs : q < s.size := by omega
                    have hqI : (q : Int) < (k : Int) := by omega
                    have hqI2 : (q : Int) < 10 := by omega
                    have hst := word_step (s := s) (k := q) hq h10 hqs
                    rw [HW.out, jsB_at hq] at hst
                    have HS := Lib.hid hst
                    clear hst HW
                    go_wp2
                    all_goals first
                      | (go_ret; exact ⟨ret_bool (by rw [HS.out, ne_g (by assumption) (by assumption) (by assumption)]; rfl), hb1⟩)
                      | (go_ret; exact ⟨ret_bool (by rw [HS.out, ne_n (fun h => by omega) (by assumption)]; rfl), hb1⟩)
                      | (go_round
                         case rel => exact ⟨q + 1, hq, by go_num, Lib.hid (by rw [HS.out]; (first | rw [eq_g (by assumption) (by assumption) (by assumption)] | rw [eq_n (fun h => by omega) (by assumption)]); exact (Bool.true_and _).symm)⟩
                         case measure => simp [intOf]; omega)
                  · have hqI : ¬ (q : Int) < (k : Int) := by omega
                    have HS := Lib.hid (show A = true by rw [← HW.out, show q = 10 by omega]; exact word_end _)
                    clear HW
                    go_wp2
                    go_ret
                    exact ⟨ret_bool (by rw [HS.out]; rfl), hb1⟩
              · have hEI : ((k : Int) != 10) = true := by simp; omega
                have hEI2 : ¬ (k : Int) = 10 := by omega
                have HA2 : Hid (A = false) := Lib.hid (by
                  rw [← HA.out]
                  apply Bool.eq_false_iff.2
                  intro h
                  have h2 := congrArg List.length (eq_of_beq h)
                  rw [List.length_map] at h2
                  exact hE10 (by rw [← HL.out]; exact h2))
                clear hE10
                go_wp2
                go_ret
                exact ⟨ret_bool (by rw [HA2.out]; rfl), hb1⟩
  · have hV' : valueS s = false := by simpa using hV
    rw [hV'] at cV
    have e0 : targetS s = false := by
      unfold targetS
      rw [hV', Bool.and_false, Bool.false_and, Bool.false_and, Bool.false_and]
    rw [e0]
    clear e0 hV hV'
    go_enter Tryd.func72, Tryd.ntmps72
    go_wp2_with (go_at_call 76; ((with_reducible refine cV.mono ?_); rintro e w1 ⟨rfl, hb1⟩))
    go_ret
    exact ⟨rfl, hb1⟩

end Go.Proofs.YtmlipcedkgfmiaaDoor.Tg
