/-
  The contract of the document's Find.
-/
import Derived.Test.YteiaolejoangnaaDoorWalksD
namespace Go.Proofs.YteiaolejoangnaaDoor
open Go.RowKit

/-- No name of the tags below t is this. -/
def Lacks (l : List UInt8) (t : Nat) : Prop := ∀ k, k < t → ∀ n ∈ names.getD k [], l ≠ n
/-- None of the first j names is this. -/
def LacksIn (l : List UInt8) (nl : List (List UInt8)) (j : Nat) : Prop := ∀ i, i < j → i < nl.length → l ≠ nl.getD i []

theorem getD_at {L : List (List UInt8)} {i : Nat} (h : i < L.length) : L.getD i [] = L[i] := by simp [List.getD, h]

theorem Lacks.one (l : List UInt8) : Lacks l 1 := by
  intro k hk n hn
  obtain rfl : k = 0 := by omega
  cases hn
theorem LacksIn.zero (l : List UInt8) (nl : List (List UInt8)) : LacksIn l nl 0 := fun _ h => absurd h (Nat.not_lt_zero _)
theorem LacksIn.step {l : List UInt8} {nl : List (List UInt8)} {j : Nat} (h : LacksIn l nl j) (hn : l ≠ nl.getD j []) : LacksIn l nl (j + 1) := by
  intro i hi hl
  by_cases hij : i = j
  · subst hij; exact hn
  · exact h i (by omega) hl
theorem Lacks.step {l : List UInt8} {t : Nat} (h : Lacks l t) (hn : LacksIn l (names.getD t []) (names.getD t []).length) : Lacks l (t + 1) := by
  intro k hk n hm
  by_cases hkt : k = t
  · subst hkt
    generalize names.getD k [] = L at hn hm
    obtain ⟨i, hi, rfl⟩ := List.getElem_of_mem hm
    have := hn i hi hi
    rwa [getD_at hi] at this
  · exact h k (by omega) n hm
theorem Lacks.all {l : List UInt8} (h : Lacks l 17) : fndT l = 0 ∧ fndB l = false := by
  have hb : look l = none := by
    unfold look
    rw [List.find?_eq_none]
    intro p hp he
    have hd : ∀ q ∈ dict, ∃ k : Fin 17, q.1 ∈ names.getD k.val [] := by decide
    obtain ⟨k, hk⟩ := hd p hp
    exact h k.val k.isLt p.1 hk (by simpa using (by simpa using he : p.1 = l).symm)
  unfold fndT fndB
  rw [hb]
  exact ⟨rfl, rfl⟩

theorem found : ∀ t : Nat, t < 17 → ∀ n ∈ names.getD t [], fndT n = t ∧ fndB n = true ∧ n.length ≤ 20 := by decide
theorem found_at {t j : Nat} (ht : t < 17) (hj : j < (names.getD t []).length) : fndT ((names.getD t []).getD j []) = t ∧ fndB ((names.getD t []).getD j []) = true ∧ ((names.getD t []).getD j []).length ≤ 20 := by
  refine found t ht _ ?_
  generalize names.getD t [] = L at hj
  rw [getD_at hj]
  exact List.getElem_mem hj
theorem names_pos : ∀ t : Nat, t < 17 → 0 < t → 0 < (names.getD t []).length ∧ (names.getD t []).length ≤ 3 := by decide

theorem sameB_iff {a b : ByteArray} {x : List UInt8} (hb : b = ⟨x.toArray⟩) : sameB a b = true ↔ lowL a.data.toList = x := by
  subst hb; simp [sameB]

set_option maxHeartbeats 4000000 in
theorem rfind_any (s : ByteArray) (w : World) (hs : s.size ≤ 9223372036854775807) :
    Calls Tryd.prog 19 #[.string s] w fun e w' => e = .returned (fndV s) ∧ Below w.heap.size w w' := by
  go_enter Tryd.func19, Tryd.ntmps19
  go_wp2
  go_loopw [4] (fun t wr => ∃ k : Nat, 1 ≤ k ∧ k ≤ 17 ∧ t = .int .i64 k ∧ Lacks (lowL s.data.toList) k ∧ Below w.heap.size w wr) (fun t _ => 17 - (intOf t).toNat)
  case atStart => exact ⟨1, by omega, by omega, rfl, Lacks.one _, Below.refl _ _⟩
  case round =>
    obtain ⟨t, ht1, ht, rfl, hL, hb⟩ := hrel
    by_cases hlt : t ≤ 16
    · obtain ⟨nl, hnl⟩ : ∃ nl, nl = names.getD t [] := ⟨_, rfl⟩
      have hof : namesOf t = nl := by rw [hnl]; unfold namesOf; rw [if_neg (by omega)]; simp
      have hp := names_pos t (by omega) (by omega)
      rw [← hnl] at hp
      obtain ⟨hp1, hp2⟩ := hp
      have HN := Lib.hid hnl
      have hcall := names_some t wr (by rw [hof]; exact hp1)
      rw [hof] at hcall
      clear hof hnl
      go_upto_region 6 with (go_at_call 26; refine hcall.mono ?_; clear hcall; rintro e w1 ⟨b, rfl, hbs, hc, hb1⟩)
      go_loop [6] (fun i => ∃ j : Nat, j ≤ nl.length ∧ i = .int .i64 j ∧ LacksIn (lowL s.data.toList) nl j) (fun i => nl.length - (intOf i).toNat)
      case atStart => exact ⟨0, Nat.zero_le _, rfl, LacksIn.zero _ _⟩
      case round =>
        obtain ⟨j, hj, rfl, hI⟩ := hrel
        by_cases hjl : j < nl.length
        · obtain ⟨x, hx⟩ : ∃ x : ByteArray, x = ⟨(nl.getD j []).toArray⟩ := ⟨_, rfl⟩
          have hcx : w1.cell? ⟨b, j, none⟩ = some (.string x) := by rw [hx]; exact hc j hjl
          have hF := found_at (t := t) (j := j) (by omega) (by rw [← HN.out]; exact hjl)
          rw [← HN.out] at hF
          have hxs : x.size ≤ 9223372036854775807 := by
            have e : x.size = (nl.getD j []).length := by rw [hx]; simp [ByteArray.size]
            omega
          have hiff := sameB_iff (a := s) hx
          clear hx hc
          by_cases hsame : sameB s x = true
          · have E := Lib.hid (hiff.1 hsame)
            have F1 := Lib.hid hF.1
            have F2 := Lib.hid hF.2.1
            clear hF hiff hI
            go_wp2_with (go_at_call 29; refine (same_any _ _ _ hs hxs).mono ?_; rintro e w2 ⟨rfl, rfl⟩)
            go_ret2
            exact ⟨fndV_mk (by rw [E.out]; exact F1.out.symm) (by rw [E.out]; exact F2.out.symm), hb.trans (hb1.mono hb.size)⟩
          · have hne : sameB s x = false := by simpa using hsame
            have S := Lib.hid (hI.step (fun e => hsame (hiff.2 e)))
            clear hF hiff hI hsame
            go_wp2_with (go_at_call 29; refine (same_any _ _ _ hs hxs).mono ?_; rintro e w2 ⟨rfl, rfl⟩)
            go_round
            case rel => exact ⟨j + 1, by omega, by go_num, S.out⟩
            case measure => simp [intOf]; omega
        · have hjn : j = nl.length := by omega
          subst hjn
          have S := Lib.hid (hL.step (by rw [← HN.out]; exact hI))
          clear hI hL
          go_wp2
          go_roundw
          case rel => exact ⟨t + 1, by omega, by omega, by go_num, S.out, hb.trans (hb1.mono hb.size)⟩
          case measure => simp [intOf]; omega
    · have hk : t = 17 := by omega
      subst hk
      have E := Lib.hid hL.all
      go_wp2
      go_ret2
      exact ⟨fndV_mk E.out.1.symm E.out.2.symm, hb⟩

end Go.Proofs.YteiaolejoangnaaDoor
