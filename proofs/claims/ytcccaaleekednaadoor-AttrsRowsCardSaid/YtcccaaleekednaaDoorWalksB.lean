/-
  The contracts of the program's and the document's Name.
-/
import Derived.Test.YtcccaaleekednaaDoorWalksA
import Derived.Below
import Derived.LoopTactic
import Derived.Deep.DeepCutAuto
namespace Go.Proofs.YtcccaaleekednaaDoor
open Go.RowKit Go.Lib

theorem isEmpty_of_pos {s : ByteArray} (h : 0 < s.size) : s.toList.isEmpty = false := by
  rw [ByteArray.toList_eq]
  cases hl : s.data.toList with
  | nil =>
    have h1 : s.size = 0 := by rw [size_eq, hl]; rfl
    omega
  | cons => rfl
theorem eq_empty {s : ByteArray} (h : s.size = 0) : s = ⟨#[]⟩ := by
  cases s with | mk a =>
  have : a.size = 0 := h
  have : a = #[] := Array.eq_empty_of_size_eq_zero this
  rw [this]
theorem drop_ne {s : ByteArray} {pos : Nat} (h : pos < s.size) : s.data.toList.drop pos ≠ [] := by
  intro h0
  have := congrArg List.length h0
  rw [List.length_drop, ← size_eq] at this
  simp at this; omega
theorem drop_end {s : ByteArray} {pos : Nat} (h : ¬ pos < s.size) : s.data.toList.drop pos = [] :=
  List.drop_eq_nil_of_le (by rw [← size_eq]; omega)
theorem getD_at {s : ByteArray} {k : Nat} (h : k < s.size) : s.data.toList.getD k 0 = s[k] := by
  have : k < s.data.toList.length := by rw [← size_eq]; exact h
  rw [List.getD_eq_getElem?_getD, List.getElem?_eq_getElem this]
  rfl
theorem width_in {s : ByteArray} {pos : Nat} (h : pos < s.size) : pos + (Utf8.decode s pos).2 ≤ s.size := by
  have := decodeL_le _ (drop_ne h)
  rw [decodeL_drop, List.length_drop, ← size_eq] at this
  omega

set_option maxHeartbeats 2000000 in
theorem name_any (s : ByteArray) (w : World) (hs : s.size ≤ 1000000000) :
    Calls Tryd.prog 10 #[.string s] w fun e w' => e = .returned (.bool (nameS s)) ∧ Below w.heap.size w w' := by
  by_cases h0 : s.size = 0
  · obtain rfl := eq_empty h0
    have e0 : nameS ⟨#[]⟩ = false := by decide
    rw [e0]
    clear e0 h0 hs
    go_enter Tryd.func10, Tryd.ntmps10
    go_wp2
    go_ret
    exact ⟨rfl, Below.refl _ _⟩
  · have hp : 0 < s.size := by omega
    have hE := isEmpty_of_pos hp
    clear h0
    by_cases h16 : 16 < s.size
    · have h16' : (16 : Int) < (s.size : Int) := by omega
      have e0 : nameS s = false := by
        unfold nameS; rw [decide_eq_false (by omega)]; rfl
      rw [e0]
      clear e0
      go_enter Tryd.func10, Tryd.ntmps10
      go_wp2
      go_ret
      exact ⟨rfl, Below.refl _ _⟩
    · have h16' : ¬ (16 : Int) < (s.size : Int) := by omega
      have e0 : nameS s = (letZ (s[0].toNat : Int) && nameL s.data.toList) := by
        unfold nameS; rw [decide_eq_true (by omega), getD_at hp, ← letZ_nat]; rfl
      rw [e0]
      clear e0
      obtain ⟨L, hL⟩ : ∃ L, letZ (s[0].toNat : Int) = L := ⟨_, rfl⟩
      have hc := letter_any (s[0].toNat : Int)
      rw [hL] at hc ⊢
      have h32 : wrap32 (s[0].toNat : Int) = (s[0].toNat : Int) := by have := s[0].toNat_lt; unfold wrap32; omega
      rw [← h32] at hc
      clear hL h32
      cases L with
      | false =>
        rw [Bool.false_and]
        go_enter Tryd.func10, Tryd.ntmps10
        go_wp2_with (go_at_call 30; ((with_reducible refine (hc _).mono ?_); rintro e w1 ⟨rfl, rfl⟩))
        go_ret
        exact ⟨rfl, Below.refl _ _⟩
      | true =>
        simp only [Bool.true_and]
        obtain ⟨A, hA⟩ : ∃ A, nameL s.data.toList = A := ⟨_, rfl⟩
        rw [hA]
        have HA := Lib.hid hA
        clear hA
        go_enter Tryd.func10, Tryd.ntmps10
        go_wp2_with (go_at_call 30; ((with_reducible refine (hc _).mono ?_); rintro e w1 ⟨rfl, rfl⟩))
        go_loopg [4] s.size (fun gk s4 wx => ∃ pos : Nat, wx.heap[w.heap.size]? = some (.stringIter s pos) ∧ Below w.heap.size w wx ∧ nameL (s.data.toList.drop pos) = A ∧ s.size ≤ pos + gk ∧ pos ≤ s.size)
        case atStart =>
          refine ⟨0, ?_, (Below.refl _ w).alloc (Nat.le_refl _) _, by simpa using HA.out, by omega, by omega⟩
          exact World.iter_heap w s 0
        case round =>
          obtain ⟨pos, hit, hbw, hsp, hfu, hps⟩ := hrel
          by_cases hlt : pos < s.size
          · obtain ⟨g', rfl⟩ : ∃ g', gk = g' + 1 := ⟨gk - 1, by omega⟩
            have hnx : ∀ ty, (Instr.next (.pointer (some ⟨w.heap.size, 0, none⟩)) true ty).run Tryd.prog wr = _ := fun ty => Lib.run_next_any_at wr w.heap.size s pos ty hit hlt
            have hwd := Lib.width_pos s pos
            have hwn := width_in hlt
            have hstep := nameL_step _ (drop_ne hlt)
            rw [decodeL_drop, List.drop_drop, hsp] at hstep
            obtain ⟨R, hR⟩ : ∃ R, (Utf8.decode s pos).1 = R := ⟨_, rfl⟩
            obtain ⟨K, hK⟩ : ∃ K, (Utf8.decode s pos).2 = K := ⟨_, rfl⟩
            rw [hR, hK] at hnx hstep
            rw [hK] at hwd hwn
            have hit2 := Lib.iterAt_heap wr w.heap.size s pos (pos + K) hit
            have hbw2 := Lib.below_iterAt hbw (k := w.heap.size) (Nat.le_refl _) s (pos + K)
            obtain ⟨W, hWd⟩ : ∃ W, wr.iterAt w.heap.size s (pos + K) = W := ⟨_, rfl⟩
            rw [hWd] at hnx hit2 hbw2
            obtain ⟨M, hM⟩ : ∃ M, nameZ (R : Int) = M := ⟨_, rfl⟩
            have hco := ofName_any (R : Int)
            rw [hM] at hco
            rw [← nameZ_nat, hM] at hstep
            have HS := Lib.hid hstep
            clear hit hbw hWd hstep hsp hM hR hK
            cases M with
            | true =>
              go_wp2_with (go_at_call 31; ((with_reducible refine (hco _).mono ?_); rintro e w1 ⟨rfl, rfl⟩))
              go_roundg g'
              case measure => omega
              case rel => exact ⟨pos + K, hit2, hbw2, by have := HS.out; simpa using this.symm, by omega, hwn⟩
            | false =>
              go_wp2_with (go_at_call 31; ((with_reducible refine (hco _).mono ?_); rintro e w1 ⟨rfl, rfl⟩))
              go_ret
              exact ⟨ret_bool (by have := HS.out; simpa using this.symm), hbw2⟩
          · have hnx : ∀ ty, (Instr.next (.pointer (some ⟨w.heap.size, 0, none⟩)) true ty).run Tryd.prog wr = _ := fun ty => Lib.run_next_end_at wr w.heap.size s pos ty hit hlt
            rw [drop_end hlt] at hsp
            have HS := Lib.hid hsp
            clear hsp hit
            go_wp2
            go_ret
            exact ⟨ret_bool (by rw [← HS.out]; rfl), hbw⟩

theorem drop_cons {s : ByteArray} {k : Nat} (h : k < s.size) : s.data.toList.drop k = s[k] :: s.data.toList.drop (k + 1) := by
  have : k < s.data.toList.length := by rw [← size_eq]; exact h
  rw [List.drop_eq_getElem_cons this]; rfl
theorem nameZ_true {c : Int} (h : (97 ≤ c ∧ c ≤ 122) ∨ (48 ≤ c ∧ c ≤ 57) ∨ c = 45) : nameZ c = true := decide_eq_true h
theorem nameZ_false {c : Int} (h : ¬ ((97 ≤ c ∧ c ≤ 122) ∨ (48 ≤ c ∧ c ≤ 57) ∨ c = 45)) : nameZ c = false := decide_eq_false h

set_option maxHeartbeats 4000000 in
theorem rname_any (s : ByteArray) (w : World) (hs : s.size ≤ 1000000000) :
    Calls Tryd.prog 11 #[.string s] w fun e w' => e = .returned (.bool (nameS s)) ∧ w = w' := by
  by_cases h0 : s.size = 0
  · obtain rfl := eq_empty h0
    have e0 : nameS ⟨#[]⟩ = false := by decide
    rw [e0]
    clear e0 h0 hs
    go_enter Tryd.func11, Tryd.ntmps11
    go_wp2
    go_ret
    exact ⟨rfl, rfl⟩
  · have hp : 0 < s.size := by omega
    have hE : ((s.size : Int) == 0) = false := by simpa using h0
    have hE2 : ¬ (s.size : Int) = 0 := by omega
    clear h0
    by_cases h16 : 16 < s.size
    · have h16' : (16 : Int) < (s.size : Int) := by omega
      have e0 : nameS s = false := by
        unfold nameS; rw [decide_eq_false (by omega)]; rfl
      rw [e0]
      clear e0
      go_enter Tryd.func11, Tryd.ntmps11
      go_wp2
      go_ret
      exact ⟨rfl, rfl⟩
    · have h16' : ¬ (16 : Int) < (s.size : Int) := by omega
      have e0 : nameS s = (letZ (s[0].toNat : Int) && nameL s.data.toList) := by
        unfold nameS; rw [decide_eq_true (by omega), getD_at hp, ← letZ_nat]; rfl
      rw [e0]
      clear e0
      by_cases hL : 97 ≤ (s[0].toNat : Int) ∧ (s[0].toNat : Int) ≤ 122
      · have e1 : letZ (s[0].toNat : Int) = true := decide_eq_true hL
        rw [e1, Bool.true_and]
        obtain ⟨hL1, hL2⟩ := hL
        obtain ⟨A, hA⟩ : ∃ A, nameL s.data.toList = A := ⟨_, rfl⟩
        rw [hA]
        have HA := Lib.hid hA
        clear hA e1
        go_enter Tryd.func11, Tryd.ntmps11
        go_wp2
        go_loop [3, 4] (fun i c => ∃ k : Nat, k ≤ s.size ∧ i = .int .i64 k ∧ Hid (nameL (s.data.toList.drop k) = A)) (fun i _ => s.size - (intOf i).toNat)
        case atStart => exact ⟨0, Nat.zero_le _, rfl, Lib.hid (by simpa using HA.out)⟩
        case round =>
          obtain ⟨k, hk, rfl, HK⟩ := hrel
          by_cases hlt : k < s.size
          · have HS : Hid (A = (nameZ (s[k].toNat : Int) && nameL (s.data.toList.drop (k + 1)))) := Lib.hid (by rw [← HK.out, drop_cons hlt, nameZ_nat]; rfl)
            clear HK
            by_cases h45 : (s[k].toNat : Int) = 45
            · rw [h45] at HS
              go_wp2
              go_round
              case rel => exact ⟨k + 1, by omega, by go_num, Lib.hid (by rw [HS.out]; rfl)⟩
              case measure => simp [intOf]; omega
            · have h45b : ((s[k].toNat : Int) == 45) = false := by simpa using h45
              go_wp2
              all_goals first
                | (go_ret; exact ⟨ret_bool (by rw [HS.out, nameZ_false (by omega)]; rfl), rfl⟩)
                | (go_round
                   case rel => exact ⟨k + 1, by omega, by go_num, Lib.hid (by rw [HS.out, nameZ_true (by omega)]; rfl)⟩
                   case measure => simp [intOf]; omega)
          · go_wp2
            go_ret
            exact ⟨ret_bool (by rw [← HK.out, drop_end hlt]; rfl), rfl⟩
      · have e1 : letZ (s[0].toNat : Int) = false := decide_eq_false hL
        rw [e1, Bool.false_and]
        clear e1
        by_cases hL1 : 97 ≤ (s[0].toNat : Int)
        · have hL2 : ¬ (s[0].toNat : Int) ≤ 122 := fun h => hL ⟨hL1, h⟩
          clear hL
          go_enter Tryd.func11, Tryd.ntmps11
          go_wp2
          go_ret
          exact ⟨rfl, rfl⟩
        · clear hL
          go_enter Tryd.func11, Tryd.ntmps11
          go_wp2
          go_ret
          exact ⟨rfl, rfl⟩

end Go.Proofs.YtcccaaleekednaaDoor
