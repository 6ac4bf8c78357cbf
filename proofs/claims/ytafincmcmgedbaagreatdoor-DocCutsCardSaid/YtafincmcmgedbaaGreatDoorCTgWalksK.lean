/-
  The contracts of the document's Runes, Value, Target.
  The contract of the document's Target.
-/
import Derived.Test.YtafincmcmgedbaaGreatDoorTgWalksC
import Derived.Test.YtafincmcmgedbaaGreatDoorCRow
import Derived.Laws.Cover4
import Derived.Laws.IdiomStrings

namespace Go.Proofs.YtafincmcmgedbaaGreatDoor.Tg
open Go.RowKit Go.Lib

/-- The characters, in memory. -/
def RunesAt (w : World) (g : Nat) (rs : List Nat) : Prop := ∀ j, j < rs.length → w.cell? ⟨g, j, none⟩ = some (.int .i32 ((rs[j]! : Nat) : Int))
def RunesPost (s : ByteArray) (w : World) (e : Ending) (w' : World) : Prop := ∃ c, e = .returned (.slice (some ⟨w.heap.size, 0, none⟩) (runesD s.data.toList).length c) ∧ RunesAt w' w.heap.size (runesD s.data.toList) ∧ Below w.heap.size w w'

theorem runes_size (s : ByteArray) : (Conv.runesFrom s s.size 0 #[]).toList = runeCellsD s.data.toList := by
  have := convRunes s s.size 0 #[] (by omega)
  simpa using this

set_option maxHeartbeats 1000000 in
set_option maxRecDepth 20000 in
theorem runes_any (s : ByteArray) (w : World) (hs : s.size ≤ 1000000) :
    Calls Tryz.prog 144 #[.string s] w (RunesPost s w) := by
  have hR := runes_size s
  obtain ⟨R, hRe⟩ : ∃ R, Conv.runesFrom s s.size 0 #[] = R := ⟨_, rfl⟩
  rw [hRe] at hR
  have hRs : R.size = (runesD s.data.toList).length := by
    have := congrArg List.length hR
    simpa [runeCellsD] using this
  have hlen := runesD_length _ s.data.toList (Nat.le_refl _)
  rw [← size_eq] at hlen
  have hconv := run_runes_of_string (P := Tryz.prog) w 9 134 21 s Tryz.underlying9 Tryz.underlying134 Tryz.underlying21 (by rw [hRe, hRs]; omega)
  rw [hRe, hRs] at hconv
  obtain ⟨c, hc⟩ : ∃ c, grownCap w (runesD s.data.toList).length 0 21 = c := ⟨_, rfl⟩
  rw [hc] at hconv
  obtain ⟨N, hN⟩ : ∃ N, (runesD s.data.toList).length = N := ⟨_, rfl⟩
  obtain ⟨w1, hw1⟩ : ∃ w1, w.drew.alloc (.cells (R ++ Array.replicate (c - (runesD s.data.toList).length) (.int .i32 0)) 21) = w1 := ⟨_, rfl⟩
  rw [hw1, hN] at hconv
  have hb : Below w.heap.size w w1 := by rw [← hw1]; exact ((Below.refl _ w).drew).alloc (Nat.le_refl _) _
  have hcell : RunesAt w1 w.heap.size (runesD s.data.toList) := by
    intro j hj
    rw [← hw1]
    have h1 := World.cell?_alloc_mark w.drew (R ++ Array.replicate (c - (runesD s.data.toList).length) (.int .i32 0)) 21 (0, 0) j
    refine h1.trans ?_
    have e1 : R[j]? = some (.int .i32 (((runesD s.data.toList)[j]! : Nat) : Int)) := by
      rw [← Array.getElem?_toList, hR]
      unfold runeCellsD
      rw [List.getElem?_map, List.getElem!_eq_getElem?_getD, List.getElem?_eq_getElem hj]
      rfl
    rw [Array.getElem?_append_left (by omega), e1]
  have HC := Lib.hid hcell
  have HN := Lib.hid hN
  clear hcell hR hRe hRs hlen hc hw1 hN
  go_enter Tryz.func144, Tryz.ntmps144
  go_wp2
  go_ret
  exact ⟨c, by rw [HN.out]; rfl, HC.out, hb⟩

theorem intsOf_at (rs : List Nat) (j : Nat) (hj : j < rs.length) : (rs.map fun (r : Nat) => (r : Int)).getD j 0 = ((rs[j]! : Nat) : Int) := by
  rw [List.getD_eq_getElem?_getD, List.getElem?_map, List.getElem!_eq_getElem?_getD, List.getElem?_eq_getElem hj]
  rfl
theorem dropN_cons {l : List Nat} {k : Nat} (h : k < l.length) : l.drop k = l[k]! :: l.drop (k + 1) := by
  rw [List.drop_eq_getElem_cons h, List.getElem!_eq_getElem?_getD, List.getElem?_eq_getElem h]; rfl

set_option maxHeartbeats 4000000 in
set_option maxRecDepth 20000 in
theorem rvalue_any (s : ByteArray) (w : World) (hs : s.size ≤ 1000000) :
    Calls Tryz.prog 135 #[.string s] w fun e w' => e = .returned (.bool (valueS s)) ∧ Below w.heap.size w w' := by
  have hc := runes_any s w hs
  unfold RunesPost at hc
  have hlen := runesD_length _ s.data.toList (Nat.le_refl _)
  rw [← size_eq] at hlen
  by_cases h200 : 200 < s.size
  · have h200' : (200 : Int) < (s.size : Int) := by omega
    have e0 : valueS s = false := by
      unfold valueS; rw [decide_eq_false (by omega)]; rfl
    rw [e0]
    clear e0
    go_enter Tryz.func135, Tryz.ntmps135
    go_wp2_with (go_at_call 144; ((with_reducible refine hc.mono ?_); rintro e w1 ⟨c, rfl, hr, hb1⟩))
    go_ret
    exact ⟨rfl, hb1⟩
  · have h200' : ¬ (200 : Int) < (s.size : Int) := by omega
    have e0 : valueS s = (validD s.data.toList && mayL' s.data.toList) := by
      unfold valueS; rw [decide_eq_true (by omega)]; rfl
    rw [e0]
    clear e0
    have hvd := runesBytes_eq s
    unfold mayL'
    obtain ⟨rs, hrs⟩ : ∃ rs, runesD s.data.toList = rs := ⟨_, rfl⟩
    rw [hrs] at hc hlen hvd ⊢
    clear hrs
    obtain ⟨V, hV⟩ : ∃ V, validD s.data.toList = V := ⟨_, rfl⟩
    rw [hV] at hvd ⊢
    clear hV
    obtain ⟨T, hT⟩ : ∃ T, runesBytes (rs.map fun (r : Nat) => (r : Int)) = T := ⟨_, rfl⟩
    rw [hT] at hvd
    have HT := Lib.hid hT
    clear hT
    have hconv : ∀ (w1 : World) (g c : Nat), RunesAt w1 g rs → (convert 134 9 (.slice (some ⟨g, 0, none⟩) rs.length c)).run Tryz.prog w1 = .ok (.string T) w1 := fun w1 g c hr => by
      have h := run_convert_runes (P := Tryz.prog) w1 134 9 21 ⟨g, 0, none⟩ rs.length c (rs.map fun (r : Nat) => (r : Int)) (by simp) Tryz.underlying134 Tryz.underlying21 Tryz.underlying9 (fun j hj => by
        have hj' : j < rs.length := by simpa using hj
        rw [Addr.add_lit, Nat.zero_add, intsOf_at rs j hj']
        exact hr j hj')
      have e : (rs.map fun (r : Nat) => (r : Int)).take rs.length = rs.map fun (r : Nat) => (r : Int) := List.take_of_length_le (by simp)
      rw [e, HT.out] at h
      exact h
    obtain ⟨N, hN⟩ : ∃ N, rs.length = N := ⟨_, rfl⟩
    rw [hN] at hc hlen hconv
    have HN := Lib.hid hN
    clear hN
    cases V with
    | false =>
      rw [Bool.false_and]
      have hne : (T.toList == s.toList) = false := by
        rw [str_eq]
        exact decide_eq_false (fun e => by simpa using hvd.1 e)
      have hne2 : ¬ T = s := fun e => by simpa using hvd.1 e
      clear hvd
      go_enter Tryz.func135, Tryz.ntmps135
      go_wp2_with (go_at_call 144; ((with_reducible refine hc.mono ?_); rintro e w1 ⟨c, rfl, hr, hb1⟩; have hcv := hconv _ _ c hr))
      go_ret
      exact ⟨rfl, hb1⟩
    | true =>
      rw [Bool.true_and]
      have hTs : T = s := hvd.2 rfl
      subst hTs
      clear hvd
      obtain ⟨A, hA⟩ : ∃ A, rs.all mayN = A := ⟨_, rfl⟩
      rw [hA]
      have HA := Lib.hid hA
      clear hA
      go_enter Tryz.func135, Tryz.ntmps135
      go_wp2_with (go_at_call 144; ((with_reducible refine hc.mono ?_); rintro e w1 ⟨c, rfl, hr, hb1⟩; have hcv := hconv _ _ c hr; have HR := Lib.hid hr; clear hr hconv hc))
      clear hcv
      go_loop [4] (fun i => ∃ k : Nat, k ≤ N ∧ i = .int .i64 k ∧ Hid ((rs.drop k).all mayN = A)) (fun i => N - (intOf i).toNat)
      case atStart => exact ⟨0, Nat.zero_le _, rfl, Lib.hid (by simpa using HA.out)⟩
      case round =>
        obtain ⟨k, hk, rfl, HK⟩ := hrel
        by_cases hlt : k < N
        · have hkI : (k : Int) < (N : Int) := by omega
          have hcl := HR.out k (by rw [HN.out]; exact hlt)
          have hst := HK.out
          rw [dropN_cons (by rw [HN.out]; exact hlt), List.all_cons] at hst
          obtain ⟨r, hr⟩ : ∃ r, rs[k]! = r := ⟨_, rfl⟩
          rw [hr] at hcl hst
          have hco := rmay_any (r : Int)
          rw [mayZ_nat] at hco
          obtain ⟨M, hM⟩ : ∃ M, mayN r = M := ⟨_, rfl⟩
          rw [hM] at hco hst
          have HS := Lib.hid hst
          clear hst hM hr HK
          cases M with
          | true =>
            go_wp2_with (go_at_call 100; ((with_reducible refine (hco _).mono ?_); rintro e w2 ⟨rfl, rfl⟩))
            go_round
            case rel => exact ⟨k + 1, hlt, by go_num, Lib.hid (by simpa using HS.out)⟩
            case measure => simp [intOf]; omega
          | false =>
            go_wp2_with (go_at_call 100; ((with_reducible refine (hco _).mono ?_); rintro e w2 ⟨rfl, rfl⟩))
            go_ret
            exact ⟨ret_bool (by have := HS.out; simpa using this), hb1⟩
        · have hkN : k = N := by omega
          subst hkN
          have hA2 : A = true := by rw [← HK.out, List.drop_eq_nil_of_le (by rw [HN.out]; omega)]; rfl
          have HA2 := Lib.hid hA2
          clear hA2 HK hlt
          go_wp2
          go_ret
          exact ⟨ret_bool HA2.out.symm, hb1⟩

end Go.Proofs.YtafincmcmgedbaaGreatDoor.Tg

namespace Go.Proofs.YtafincmcmgedbaaGreatDoor.Tg
open Go.RowKit Go.Lib

/-- How much stands ahead of the first colon. -/
def ahN (l : List UInt8) : Nat := (aheadL l).length
theorem ahN_le (l : List UInt8) : ahN l ≤ l.length := ahead_length l
theorem ahN_ne : ∀ (l : List UInt8) (j : Nat), j < ahN l → l.getD j 0 ≠ 58
  | [], j, h => by simp [ahN, aheadL] at h
  | b :: t, j, h => by
    unfold ahN aheadL at h
    rw [List.takeWhile_cons] at h
    by_cases hb : b = 58
    · subst hb; simp at h
    · have hb' : (b != 58) = true := by simpa using hb
      rw [hb', if_pos rfl] at h
      cases j with
      | zero => simpa using hb
      | succ j => simpa using ahN_ne t j (by simpa [ahN, aheadL] using h)
theorem ahN_at : ∀ l : List UInt8, ahN l < l.length → l.getD (ahN l) 0 = 58
  | [], h => by simp at h
  | b :: t, h => by
    by_cases hb : b = 58
    · subst hb; simp [ahN, aheadL]
    · have hb' : (b != 58) = true := by simpa using hb
      have e : ahN (b :: t) = ahN t + 1 := by
        unfold ahN aheadL
        rw [List.takeWhile_cons, hb', if_pos rfl, List.length_cons]
      rw [e] at h ⊢
      have := ahN_at t (by simpa using h)
      simpa using this
theorem ahead_take : ∀ l : List UInt8, aheadL l = l.take (ahN l)
  | [] => rfl
  | b :: t => by
    by_cases hb : b = 58
    · subst hb; simp [ahN, aheadL]
    · have hb' : (b != 58) = true := by simpa using hb
      have e : ahN (b :: t) = ahN t + 1 := by
        unfold ahN aheadL
        rw [List.takeWhile_cons, hb', if_pos rfl, List.length_cons]
      rw [e, List.take_succ_cons, ← ahead_take t]
      unfold aheadL
      rw [List.takeWhile_cons, hb', if_pos rfl]

/-- The letters from k on are the word's. -/
def wordB (l : List UInt8) (k : Nat) : Bool := ((l.take 10).drop k).map smallB == jsL.drop k
theorem word_step {s : ByteArray} {k : Nat} (hk : k < 10) (h10 : 10 ≤ s.size) (hs : k < s.size) : wordB s.data.toList k = (smallB s[k] == jsL.getD k 0 && wordB s.data.toList (k + 1)) := by
  unfold wordB
  have hl : 10 ≤ s.data.toList.length := by rw [← size_eq]; exact h10
  have h1 : k < (s.data.toList.take 10).length := by rw [List.length_take]; omega
  have hj : k < jsL.length := hk
  rw [List.drop_eq_getElem_cons h1, List.drop_eq_getElem_cons hj, List.map_cons]
  have e1 : (s.data.toList.take 10)[k] = s[k] := by
    rw [List.getElem_take]; rfl
  have e2 : jsL.getD k 0 = jsL[k] := by rw [List.getD_eq_getElem?_getD, List.getElem?_eq_getElem hj]; rfl
  rw [e1, e2]
  rfl
theorem word_end (l : List UInt8) : wordB l 10 = true := by
  unfold wordB
  rw [List.drop_eq_nil_of_le (by rw [List.length_take]; omega), List.drop_eq_nil_of_le (by decide)]
  rfl
theorem smallB_int (b : UInt8) : ((smallB b).toNat : Int) = if (65 : Int) ≤ (b.toNat : Int) ∧ (b.toNat : Int) ≤ 90 then (b.toNat : Int) + 32 else (b.toNat : Int) := by
  have hb := b.toNat_lt
  unfold smallB
  by_cases h : 65 ≤ b.toNat ∧ b.toNat ≤ 90
  · rw [if_pos h, if_pos (by omega)]
    have : (b + 32).toNat = b.toNat + 32 := by
      rw [UInt8.toNat_add]; simp; omega
    omega
  · rw [if_neg h, if_neg (by omega)]

theorem ne_g {b j : UInt8} (h1 : (65 : Int) ≤ (b.toNat : Int)) (h2 : (b.toNat : Int) ≤ 90) (h : ((b.toNat : Int) + 32 != (j.toNat : Int)) = true) : (smallB b == j) = false := by
  have e := smallB_int b
  rw [if_pos ⟨h1, h2⟩] at e
  apply Bool.eq_false_iff.2
  intro h3
  rw [eq_of_beq h3] at e
  simp [← e] at h
theorem eq_g {b j : UInt8} (h1 : (65 : Int) ≤ (b.toNat : Int)) (h2 : (b.toNat : Int) ≤ 90) (h : ((b.toNat : Int) + 32 != (j.toNat : Int)) = false) : (smallB b == j) = true := by
  have e := smallB_int b
  rw [if_pos ⟨h1, h2⟩] at e
  have h3 : (b.toNat : Int) + 32 = (j.toNat : Int) := by simpa using h
  have : smallB b = j := UInt8.toNat_inj.1 (Int.ofNat.inj (e.trans h3))
  simpa using this
theorem ne_n {b j : UInt8} (h0 : ¬ ((65 : Int) ≤ (b.toNat : Int) ∧ (b.toNat : Int) ≤ 90)) (h : ((b.toNat : Int) != (j.toNat : Int)) = true) : (smallB b == j) = false := by
  have e := smallB_int b
  rw [if_neg h0] at e
  apply Bool.eq_false_iff.2
  intro h3
  rw [eq_of_beq h3] at e
  simp [← e] at h
theorem eq_n {b j : UInt8} (h0 : ¬ ((65 : Int) ≤ (b.toNat : Int) ∧ (b.toNat : Int) ≤ 90)) (h : ((b.toNat : Int) != (j.toNat : Int)) = false) : (smallB b == j) = true := by
  have e := smallB_int b
  rw [if_neg h0] at e
  have h3 : (b.toNat : Int) = (j.toNat : Int) := by simpa using h
  have : smallB b = j := UInt8.toNat_inj.1 (Int.ofNat.inj (e.trans h3))
  simpa using this
/-- The word. -/
def jsB : ByteArray := ⟨#[106, 97, 118, 97, 115, 99, 114, 105, 112, 116]⟩
theorem jsB_at {q : Nat} (h : q < 10) : jsL.getD q 0 = (⟨#[106, 97, 118, 97, 115, 99, 114, 105, 112, 116]⟩ : ByteArray)[q]'h := getD_at (s := jsB) (k := q) h

theorem u8_of_int {a b : UInt8} (h : (a.toNat : Int) = (b.toNat : Int)) : a = b := UInt8.toNat_inj.1 (Int.ofNat.inj h)

set_option maxHeartbeats 8000000 in
set_option maxRecDepth 20000 in
theorem rtarget_any (s : ByteArray) (w : World) (hs : s.size ≤ 1000000) :
    Calls Tryz.prog 121 #[.string s] w fun e w' => e = .returned (.bool (targetS s)) ∧ Below w.heap.size w w' := by
  have cV := rvalue_any s w hs
  by_cases hV : valueS s = true
  · rw [hV] at cV
    by_cases h0 : s.size = 0
    · obtain rfl := eq_empty h0
      have e0 : targetS ⟨#[]⟩ = false := by decide
      rw [e0]
      clear e0 h0 hs hV
      go_enter Tryz.func121, Tryz.ntmps121
      go_wp2_with (go_at_call 135; ((with_reducible refine cV.mono ?_); rintro e w1 ⟨rfl, hb1⟩))
      go_ret
      exact ⟨rfl, hb1⟩
    · have hp : 0 < s.size := by omega
      have hE := isEmpty_of_pos hp
      have hpl : s.size - 1 < s.size := by omega
      have hpI : (0 : Int) ≤ (s.size : Int) - 1 := by omega
      have hpI2 : (1 : Int) ≤ (s.size : Int) := by omega
      have hpT : ((s.size : Int) - 1).toNat = s.size - 1 := by omega
      have hpW : IntKind.i64.wrap ((s.size : Int) - 1) = (s.size : Int) - 1 := IntWalk.i64_in _ (by omega)
      have hpl2 : (s.size : Int) - 1 < (s.size : Int) := by omega
      have q0 : ∀ (b : UInt8), (b.toNat : Int) = 32 → b = 32 := fun b h => UInt8.toNat_inj.1 (Int.ofNat.inj h)
      have e0 : targetS s = ((s[0] != 32) && (s[s.size - 1] != 32) && !(((aheadL s.data.toList).map smallB) == jsL)) := by
        unfold targetS
        rw [hV, decide_eq_true hp, getD_at hp, getD_at hpl]
        rfl
      rw [e0]
      clear e0 hV h0
      by_cases hf : (s[0].toNat : Int) = 32
      · rw [q0 _ hf]
        simp only [bne_self_eq_false, Bool.false_and]
        clear q0
        go_enter Tryz.func121, Tryz.ntmps121
        go_wp2_with (go_at_call 135; ((with_reducible refine cV.mono ?_); rintro e w1 ⟨rfl, hb1⟩))
        go_ret
        exact ⟨rfl, hb1⟩
      · have hfb : ((s[0].toNat : Int) == 32) = false := by simpa using hf
        have hf2 : (s[0] != 32) = true := by
          have : ¬ s[0] = 32 := fun h => hf (by rw [h]; rfl)
          simpa using this
        rw [hf2, Bool.true_and]
        clear hf2
        by_cases hg : (s[s.size - 1].toNat : Int) = 32
        · rw [q0 _ hg]
          simp only [bne_self_eq_false, Bool.false_and]
          clear q0
          have hgb : ((s[s.size - 1].toNat : Int) == 32) = true := by simpa using hg
          clear hg
          go_enter Tryz.func121, Tryz.ntmps121
          go_wp2_with (go_at_call 135; ((with_reducible refine cV.mono ?_); rintro e w1 ⟨rfl, hb1⟩))
          go_ret
          exact ⟨rfl, hb1⟩
        · have hgb : ((s[s.size - 1].toNat : Int) == 32) = false := by simpa using hg
          have hg2 : (s[s.size - 1] != 32) = true := by
            have : ¬ s[s.size - 1] = 32 := fun h => hg (by rw [h]; rfl)
            simpa using this
          rw [hg2, Bool.true_and]
          clear hg2 q0
          obtain ⟨A, hA⟩ : ∃ A, (((aheadL s.data.toList).map smallB) == jsL) = A := ⟨_, rfl⟩
          rw [hA]
          have HA := Lib.hid hA
          clear hA
          have k1 := ahN_le s.data.toList
          rw [← size_eq] at k1
          have k2 := ahN_ne s.data.toList
          have k3 := ahN_at s.data.toList
          rw [← size_eq] at k3
          have k4 := ahead_take s.data.toList
          have k5 : (aheadL s.data.toList).length = ahN s.data.toList := rfl
          obtain ⟨E, hE⟩ : ∃ E, ahN s.data.toList = E := ⟨_, rfl⟩
          rw [hE] at k1 k2 k3 k4 k5
          have HN := Lib.hid k2
          have HE := Lib.hid k3
          have HT := Lib.hid k4
          have HL := Lib.hid k5
          clear k2 k3 k4 k5 hE
          go_enter Tryz.func121, Tryz.ntmps121
          go_wp2_with (go_at_call 135; ((with_reducible refine cV.mono ?_); rintro e w1 ⟨rfl, hb1⟩))
          clear hf hfb hg hgb
          go_loop [4] (fun e => ∃ k : Nat, k ≤ E ∧ e = .int .i64 k) (fun e => s.size - (intOf e).toNat)
          case atStart => exact ⟨0, Nat.zero_le _, rfl⟩
          case round =>
            obtain ⟨k, hk, rfl⟩ := hrel
            by_cases hlt : k < s.size
            · have hkI : (k : Int) < (s.size : Int) := by omega
              by_cases h58 : (s[k].toNat : Int) = 58
              · have hkE : k = E := by
                  rcases Nat.lt_or_ge k E with h | h
                  · exact absurd (show s.data.toList.getD k 0 = 58 by rw [getD_at hlt]; exact UInt8.toNat_inj.1 (Int.ofNat.inj h58)) (HN.out k h)
                  · omega
                have h58b : ((s[k].toNat : Int) != 58) = false := by simpa using h58
                clear h58
                subst hkE
                by_cases hE10 : k = 10
                · have HA2 : Hid (A = wordB s.data.toList 0) := Lib.hid (by rw [← HA.out, HT.out, hE10]; rfl)
                  have h10 : 10 ≤ s.size := by omega
                  have hkb : ((k : Int) != 10) = false := by rw [hE10]; rfl
                  have hk1 : k ≤ 10 := by omega
                  have hk2 : 10 ≤ k := by omega
                  clear hE10
                  go_wp2
                  go_loop [5, 6] (fun i c => ∃ q : Nat, q ≤ 10 ∧ i = .int .i64 q ∧ Hid (wordB s.data.toList q = A)) (fun i _ => 10 - (intOf i).toNat)
                  case atStart => exact ⟨0, by decide, rfl, Lib.hid HA2.out.symm⟩
                  case round =>
                    obtain ⟨q, hq10, rfl, HW⟩ := hrel
                    by_cases hq : q < 10
                    · have hqs : q < s.size := by omega
                      have hqI : (q : Int) < (k : Int) := by omega
                      have hqI2 : (q : Int) < 10 := by omega
                      have hst := word_step (s := s) (k := q) hq h10 hqs
                      rw [HW.out, jsB_at hq] at hst
                      have HS := Lib.hid hst
                      clear hst HW
                      go_wp2
                      all_goals first
                        | (go_ret; exact ⟨ret_bool (by rw [HS.out, ne_g (by assumption) (by assumption) (by assumption)]; rfl), hb1⟩)
                        | (go_ret; exact ⟨ret_bool (by rw [HS.out, ne_n (fun h => by omega) (by assumption)]; rfl), hb1⟩)
                        | (go_round
                           case rel => exact ⟨q + 1, hq, by go_num, Lib.hid (by rw [HS.out]; (first | rw [eq_g (by assumption) (by assumption) (by assumption)] | rw [eq_n (fun h => by omega) (by assumption)]); exact (Bool.true_and _).symm)⟩
                           case measure => simp [intOf]; omega)
                    · have hqI : ¬ (q : Int) < (k : Int) := by omega
                      have HS := Lib.hid (show A = true by rw [← HW.out, show q = 10 by omega]; exact word_end _)
                      clear HW
                      go_wp2
                      go_ret
                      exact ⟨ret_bool (by rw [HS.out]; rfl), hb1⟩
                · have hEI : ((k : Int) != 10) = true := by simp; omega
                  have hEI2 : ¬ (k : Int) = 10 := by omega
                  have HA2 : Hid (A = false) := Lib.hid (by
                    rw [← HA.out]
                    apply Bool.eq_false_iff.2
                    intro h
                    have h2 := congrArg List.length (eq_of_beq h)
                    rw [List.length_map] at h2
                    exact hE10 (by rw [← HL.out]; exact h2))
                  clear hE10
                  go_wp2
                  go_ret
                  exact ⟨ret_bool (by rw [HA2.out]; rfl), hb1⟩
              · have hkE : k < E := by
                  rcases Nat.lt_or_ge k E with h | h
                  · exact h
                  · have hkE : k = E := by omega
                    have := HE.out (by omega)
                    rw [← hkE, getD_at hlt] at this
                    exact absurd (by rw [this]; rfl) h58
                have h58b : ((s[k].toNat : Int) != 58) = true := by simpa using h58
                go_wp2
                go_round
                case rel => exact ⟨k + 1, hkE, by go_num⟩
                case measure => simp [intOf]; omega
            · have hkE : k = E := by omega
              subst hkE
              by_cases hE10 : k = 10
              · have HA2 : Hid (A = wordB s.data.toList 0) := Lib.hid (by rw [← HA.out, HT.out, hE10]; rfl)
                have h10 : 10 ≤ s.size := by omega
                have hkb : ((k : Int) != 10) = false := by rw [hE10]; rfl
                have hk1 : k ≤ 10 := by omega
                have hk2 : 10 ≤ k := by omega
                clear hE10
                go_wp2
                go_loop [5, 6] (fun i c => ∃ q : Nat, q ≤ 10 ∧ i = .int .i64 q ∧ Hid (wordB s.data.toList q = A)) (fun i _ => 10 - (intOf i).toNat)
                case atStart => exact ⟨0, by decide, rfl, Lib.hid HA2.out.symm⟩
                case round =>
                  obtain ⟨q, hq10, rfl, HW⟩ := hrel
                  by_cases hq : q < 10
                  · have hqs : q < s.size := by omega
                    have hqI : (q : Int) < (k : Int) := by omega
                    have hqI2 : (q : Int) < 10 := by omega
                    have hst := word_step (s := s) (k := q) hq h10 hqs
                    rw [HW.out, jsB_at hq] at hst
                    have HS := Lib.hid hst
                    clear hst HW
                    go_wp2
                    all_goals first
                      | (go_ret; exact ⟨ret_bool (by rw [HS.out, ne_g (by assumption) (by assumption) (by assumption)]; rfl), hb1⟩)
                      | (go_ret; exact ⟨ret_bool (by rw [HS.out, ne_n (fun h => by omega) (by assumption)]; rfl), hb1⟩)
                      | (go_round
                         case rel => exact ⟨q + 1, hq, by go_num, Lib.hid (by rw [HS.out]; (first | rw [eq_g (by assumption) (by assumption) (by assumption)] | rw [eq_n (fun h => by omega) (by assumption)]); exact (Bool.true_and _).symm)⟩
                         case measure => simp [intOf]; omega)
                  · have hqI : ¬ (q : Int) < (k : Int) := by omega
                    have HS := Lib.hid (show A = true by rw [← HW.out, show q = 10 by omega]; exact word_end _)
                    clear HW
                    go_wp2
                    go_ret
                    exact ⟨ret_bool (by rw [HS.out]; rfl), hb1⟩
              · have hEI : ((k : Int) != 10) = true := by simp; omega
                have hEI2 : ¬ (k : Int) = 10 := by omega
                have HA2 : Hid (A = false) := Lib.hid (by
                  rw [← HA.out]
                  apply Bool.eq_false_iff.2
                  intro h
                  have h2 := congrArg List.length (eq_of_beq h)
                  rw [List.length_map] at h2
                  exact hE10 (by rw [← HL.out]; exact h2))
                clear hE10
                go_wp2
                go_ret
                exact ⟨ret_bool (by rw [HA2.out]; rfl), hb1⟩
  · have hV' : valueS s = false := by simpa using hV
    rw [hV'] at cV
    have e0 : targetS s = false := by
      unfold targetS
      rw [hV', Bool.and_false, Bool.false_and, Bool.false_and, Bool.false_and]
    rw [e0]
    clear e0 hV hV'
    go_enter Tryz.func121, Tryz.ntmps121
    go_wp2_with (go_at_call 135; ((with_reducible refine cV.mono ?_); rintro e w1 ⟨rfl, hb1⟩))
    go_ret
    exact ⟨rfl, hb1⟩

end Go.Proofs.YtafincmcmgedbaaGreatDoor.Tg
