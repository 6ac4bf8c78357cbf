/-
  The contracts of the document's Runes, Value, Target.
-/
import Derived.Test.YtmlipcedkgfmiaaDoorTgWalksC
import Derived.Test.YtmlipcedkgfmiaaDoorRow
import Derived.Laws.Cover4
import Derived.Laws.IdiomStrings
namespace Go.Proofs.YtmlipcedkgfmiaaDoor.Tg
open Go.RowKit Go.Lib

/-- The characters, in memory. -/
def RunesAt (w : World) (g : Nat) (rs : List Nat) : Prop := ∀ j, j < rs.length → w.cell? ⟨g, j, none⟩ = some (.int .i32 ((rs[j]! : Nat) : Int))
def RunesPost (s : ByteArray) (w : World) (e : Ending) (w' : World) : Prop := ∃ c, e = .returned (.slice (some ⟨w.heap.size, 0, none⟩) (runesD s.data.toList).length c) ∧ RunesAt w' w.heap.size (runesD s.data.toList) ∧ Below w.heap.size w w'

theorem runes_size (s : ByteArray) : (Conv.runesFrom s s.size 0 #[]).toList = runeCellsD s.data.toList := by
  have := convRunes s s.size 0 #[] (by omega)
  simpa using this

set_option maxHeartbeats 1000000 in
set_option maxRecDepth 20000 in
theorem runes_any (s : ByteArray) (w : World) (hs : s.size ≤ 1000000) :
    Calls Tryd.prog 82 #[.string s] w (RunesPost s w) := by
  have hR := runes_size s
  obtain ⟨R, hRe⟩ : ∃ R, Conv.runesFrom s s.size 0 #[] = R := ⟨_, rfl⟩
  rw [hRe] at hR
  have hRs : R.size = (runesD s.data.toList).length := by
    have := congrArg List.length hR
    simpa [runeCellsD] using this
  have hlen := runesD_length _ s.data.toList (Nat.le_refl _)
  rw [← size_eq] at hlen
  have hconv := run_runes_of_string (P := Tryd.prog) w 9 77 21 s Tryd.underlying9 Tryd.underlying77 Tryd.underlying21 (by rw [hRe, hRs]; omega)
  rw [hRe, hRs] at hconv
  obtain ⟨c, hc⟩ : ∃ c, grownCap w (runesD s.data.toList).length 0 21 = c := ⟨_, rfl⟩
  rw [hc] at hconv
  obtain ⟨N, hN⟩ : ∃ N, (runesD s.data.toList).length = N := ⟨_, rfl⟩
  obtain ⟨w1, hw1⟩ : ∃ w1, w.drew.alloc (.cells (R ++ Array.replicate (c - (runesD s.data.toList).length) (.int .i32 0)) 21) = w1 := ⟨_, rfl⟩
  rw [hw1, hN] at hconv
  have hb : Below w.heap.size w w1 := by rw [← hw1]; exact ((Below.refl _ w).drew).alloc (Nat.le_refl _) _
  have hcell : RunesAt w1 w.heap.size (runesD s.data.toList) := by
    intro j hj
    rw [← hw1]
    have h1 := World.cell?_alloc_mark w.drew (R ++ Array.replicate (c - (runesD s.data.toList).length) (.int .i32 0)) 21 (0, 0) j
    refine h1.trans ?_
    have e1 : R[j]? = some (.int .i32 (((runesD s.data.toList)[j]! : Nat) : Int)) := by
      rw [← Array.getElem?_toList, hR]
      unfold runeCellsD
      rw [List.getElem?_map, List.getElem!_eq_getElem?_getD, List.getElem?_eq_getElem hj]
      rfl
    rw [Array.getElem?_append_left (by omega), e1]
  have HC := Lib.hid hcell
  have HN := Lib.hid hN
  clear hcell hR hRe hRs hlen hc hw1 hN
  go_enter Tryd.func82, Tryd.ntmps82
  go_wp2
  go_ret
  exact ⟨c, by rw [HN.out]; rfl, HC.out, hb⟩

theorem intsOf_at (rs : List Nat) (j : Nat) (hj : j < rs.length) : (rs.map fun (r : Nat) => (r : Int)).getD j 0 = ((rs[j]! : Nat) : Int) := by
  rw [List.getD_eq_getElem?_getD, List.getElem?_map, List.getElem!_eq_getElem?_getD, List.getElem?_eq_getElem hj]
  rfl
theorem dropN_cons {l : List Nat} {k : Nat} (h : k < l.length) : l.drop k = l[k]! :: l.drop (k + 1) := by
  rw [List.drop_eq_getElem_cons h, List.getElem!_eq_getElem?_getD, List.getElem?_eq_getElem h]; rfl

set_option maxHeartbeats 4000000 in
set_option maxRecDepth 20000 in
theorem rvalue_any (s : ByteArray) (w : World) (hs : s.size ≤ 1000000) :
    Calls Tryd.prog 76 #[.string s] w fun e w' => e = .returned (.bool (valueS s)) ∧ Below w.heap.size w w' := by
  have hc := runes_any s w hs
  unfold RunesPost at hc
  have hlen := runesD_length _ s.data.toList (Nat.le_refl _)
  rw [← size_eq] at hlen
  by_cases h200 : 200 < s.size
  · have h200' : (200 : Int) < (s.size : Int) := by omega
    have e0 : valueS s = false := by
      unfold valueS; rw [decide_eq_false (by omega)]; rfl
    rw [e0]
    clear e0
    go_enter Tryd.func76, Tryd.ntmps76
    go_wp2_with (go_at_call 82; ((with_reducible refine hc.mono ?_); rintro e w1 ⟨c, rfl, hr, hb1⟩))
    go_ret
    exact ⟨rfl, hb1⟩
  · have h200' : ¬ (200 : Int) < (s.size : Int) := by omega
    have e0 : valueS s = (validD s.data.toList && mayL' s.data.toList) := by
      unfold valueS; rw [decide_eq_true (by omega)]; rfl
    rw [e0]
    clear e0
    have hvd := runesBytes_eq s
    unfold mayL'
    obtain ⟨rs, hrs⟩ : ∃ rs, runesD s.data.toList = rs := ⟨_, rfl⟩
    rw [hrs] at hc hlen hvd ⊢
    clear hrs
    obtain ⟨V, hV⟩ : ∃ V, validD s.data.toList = V := ⟨_, rfl⟩
    rw [hV] at hvd ⊢
    clear hV
    obtain ⟨T, hT⟩ : ∃ T, runesBytes (rs.map fun (r : Nat) => (r : Int)) = T := ⟨_, rfl⟩
    rw [hT] at hvd
    have HT := Lib.hid hT
    clear hT
    have hconv : ∀ (w1 : World) (g c : Nat), RunesAt w1 g rs → (convert 77 9 (.slice (some ⟨g, 0, none⟩) rs.length c)).run Tryd.prog w1 = .ok (.string T) w1 := fun w1 g c hr => by
      have h := run_convert_runes (P := Tryd.prog) w1 77 9 21 ⟨g, 0, none⟩ rs.length c (rs.map fun (r : Nat) => (r : Int)) (by simp) Tryd.underlying77 Tryd.underlying21 Tryd.underlying9 (fun j hj => by
        have hj' : j < rs.length := by simpa using hj
        rw [Addr.add_lit, Nat.zero_add, intsOf_at rs j hj']
        exact hr j hj')
      have e : (rs.map fun (r : Nat) => (r : Int)).take rs.length = rs.map fun (r : Nat) => (r : Int) := List.take_of_length_le (by simp)
      rw [e, HT.out] at h
      exact h
    obtain ⟨N, hN⟩ : ∃ N, rs.length = N := ⟨_, rfl⟩
    rw [hN] at hc hlen hconv
    have HN := Lib.hid hN
    clear hN
    cases V with
    | false =>
      rw [Bool.false_and]
      have hne : (T.toList == s.toList) = false := by
        rw [str_eq]
        exact decide_eq_false (fun e => by simpa using hvd.1 e)
      have hne2 : ¬ T = s := fun e => by simpa using hvd.1 e
      clear hvd
      go_enter Tryd.func76, Tryd.ntmps76
      go_wp2_with (go_at_call 82; ((with_reducible refine hc.mono ?_); rintro e w1 ⟨c, rfl, hr, hb1⟩; have hcv := hconv _ _ c hr))
      go_ret
      exact ⟨rfl, hb1⟩
    | true =>
      rw [Bool.true_and]
      have hTs : T = s := hvd.2 rfl
      subst hTs
      clear hvd
      obtain ⟨A, hA⟩ : ∃ A, rs.all mayN = A := ⟨_, rfl⟩
      rw [hA]
      have HA := Lib.hid hA
      clear hA
      go_enter Tryd.func76, Tryd.ntmps76
      go_wp2_with (go_at_call 82; ((with_reducible refine hc.mono ?_); rintro e w1 ⟨c, rfl, hr, hb1⟩; have hcv := hconv _ _ c hr; have HR := Lib.hid hr; clear hr hconv hc))
      clear hcv
      go_loop [4] (fun i => ∃ k : Nat, k ≤ N ∧ i = .int .i64 k ∧ Hid ((rs.drop k).all mayN = A)) (fun i => N - (intOf i).toNat)
      case atStart => exact ⟨0, Nat.zero_le _, rfl, Lib.hid (by simpa using HA.out)⟩
      case round =>
        obtain ⟨k, hk, rfl, HK⟩ := hrel
        by_cases hlt : k < N
        · have hkI : (k : Int) < (N : Int) := by omega
          have hcl := HR.out k (by rw [HN.out]; exact hlt)
          have hst := HK.out
          rw [dropN_cons (by rw [HN.out]; exact hlt), List.all_cons] at hst
          obtain ⟨r, hr⟩ : ∃ r, rs[k]! = r := ⟨_, rfl⟩
          rw [hr] at hcl hst
          have hco := rmay_any (r : Int)
          rw [mayZ_nat] at hco
          obtain ⟨M, hM⟩ : ∃ M, mayN r = M := ⟨_, rfl⟩
          rw [hM] at hco hst
          have HS := Lib.hid hst
          clear hst hM hr HK
          cases M with
          | true =>
            go_wp2_with (go_at_call 61; ((with_reducible refine (hco _).mono ?_); rintro e w2 ⟨rfl, rfl⟩))
            go_round
            case rel => exact ⟨k + 1, hlt, by go_num, Lib.hid (by simpa using HS.out)⟩
            case measure => simp [intOf]; omega
          | false =>
            go_wp2_with (go_at_call 61; ((with_reducible refine (hco _).mono ?_); rintro e w2 ⟨rfl, rfl⟩))
            go_ret
            exact ⟨ret_bool (by have := HS.out; simpa using this), hb1⟩
        · have hkN : k = N := by omega
          subst hkN
          have hA2 : A = true := by rw [← HK.out, List.drop_eq_nil_of_le (by rw [HN.out]; omega)]; rfl
          have HA2 := Lib.hid hA2
          clear hA2 HK hlt
          go_wp2
          go_ret
          exact ⟨ret_bool HA2.out.symm, hb1⟩

end Go.Proofs.YtmlipcedkgfmiaaDoor.Tg
