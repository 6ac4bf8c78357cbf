/-
  The program's and the document's characters: Class, May, Clean.
-/
import Derived.Test.YtiaoflagjaclmaaDoorRow
import Derived.Test.YtiaoflagjaclmaaDoorRunes
import Derived.OwnWalk
import Derived.Deep.Onto
namespace Go.Proofs.YtiaoflagjaclmaaDoor
open Go.RowKit Go.Lib

def mayZ (c : Int) : Bool := decide (32 ≤ c ∧ c ≠ 127 ∧ ¬ (55296 ≤ c ∧ c ≤ 57343) ∧ c ≤ 1114111)
theorem drop_ne {s : ByteArray} {pos : Nat} (h : pos < s.size) : s.data.toList.drop pos ≠ [] := by
  intro h0
  have := congrArg List.length h0
  rw [List.length_drop, ← size_eq] at this
  simp at this; omega
theorem drop_end {s : ByteArray} {pos : Nat} (h : ¬ pos < s.size) : s.data.toList.drop pos = [] :=
  List.drop_eq_nil_of_le (by rw [← size_eq]; omega)
theorem width_in {s : ByteArray} {pos : Nat} (h : pos < s.size) : pos + (Utf8.decode s pos).2 ≤ s.size := by
  have := decodeL_le _ (drop_ne h)
  rw [decodeL_drop, List.length_drop, ← size_eq] at this
  omega

/-- What a class says of whether a character may be. -/
def ClassPost (c : Int) (w : World) (e : Ending) (w' : World) : Prop := ∃ n : Int, e = .returned (.int .i64 n) ∧ decide (2 ≤ n) = mayZ c ∧ w = w'

set_option maxHeartbeats 4000000 in
theorem class_any (c : Int) (w : World) : Calls Tryd.prog 57 #[.int .i32 c] w (ClassPost c w) := by
  go_enter Tryd.func57, Tryd.ntmps57
  go_wp2
  all_goals go_ret
  all_goals (refine ⟨_, rfl, ?_, rfl⟩; unfold mayZ; rw [decide_eq_decide]; first | done | omega | (simp_all; done) | (simp_all; omega))

set_option maxHeartbeats 4000000 in
theorem rclass_any (c : Int) (w : World) : Calls Tryd.prog 49 #[.int .i32 c] w (ClassPost c w) := by
  go_enter Tryd.func49, Tryd.ntmps49
  go_wp2
  all_goals go_ret
  all_goals (refine ⟨_, rfl, ?_, rfl⟩; unfold mayZ; rw [decide_eq_decide]; first | done | omega | (simp_all; done) | (simp_all; omega))

theorem may_any (c : Int) (w : World) : Calls Tryd.prog 48 #[.int .i32 c] w fun e w' => e = .returned (.bool (mayZ c)) ∧ w = w' := by
  obtain ⟨M, hM⟩ : ∃ M, mayZ c = M := ⟨_, rfl⟩
  have hc := class_any c
  unfold ClassPost at hc
  rw [hM] at hc ⊢
  clear hM
  go_enter Tryd.func48, Tryd.ntmps48
  go_wp2_with (go_at_call 57; ((with_reducible refine (hc _).mono ?_); rintro e w1 ⟨n, rfl, rfl, rfl⟩))
  go_ret
  exact ⟨rfl, rfl⟩

theorem rmay_any (c : Int) (w : World) : Calls Tryd.prog 29 #[.int .i32 c] w fun e w' => e = .returned (.bool (mayZ c)) ∧ w = w' := by
  obtain ⟨M, hM⟩ : ∃ M, mayZ c = M := ⟨_, rfl⟩
  have hc := rclass_any c
  unfold ClassPost at hc
  rw [hM] at hc ⊢
  clear hM
  go_enter Tryd.func29, Tryd.ntmps29
  go_wp2_with (go_at_call 49; ((with_reducible refine (hc _).mono ?_); rintro e w1 ⟨n, rfl, rfl, rfl⟩))
  go_ret
  exact ⟨rfl, rfl⟩


set_option maxHeartbeats 2000000 in
/-- The closure: what becomes of a character. -/
theorem cleanFn_any (c : Int) (B : Nat) (w : World) (hB : w.cell? ⟨B, 0, none⟩ = some (.int .i32 10)) :
    Calls Tryd.prog 65 #[.int .i32 c, .pointer (some ⟨B, 0, none⟩)] w fun e w' => e = .returned (.tuple #[.int .i32 (cleanZ c).1, .bool (cleanZ c).2]) ∧ w = w' := by
  have hm := may_any c w
  unfold cleanZ
  by_cases h1 : c = 9 ∨ c = 12 ∨ c = 13
  · rw [if_pos h1]
    rcases h1 with rfl | rfl | rfl
    all_goals
      go_enter Tryd.func65, Tryd.ntmps65
      go_wp2
      go_ret2
      exact ⟨rfl, rfl⟩
  · rw [if_neg h1]
    by_cases h2 : c = 10
    · subst h2
      rw [if_pos rfl]
      go_enter Tryd.func65, Tryd.ntmps65
      go_wp2
      go_ret2
      exact ⟨rfl, rfl⟩
    · rw [if_neg h2]
      have e : decide (32 ≤ c ∧ c ≠ 127 ∧ ¬ (55296 ≤ c ∧ c ≤ 57343) ∧ c ≤ 1114111) = mayZ c := rfl
      rw [e]
      obtain ⟨M, hM⟩ : ∃ M, mayZ c = M := ⟨_, rfl⟩
      rw [hM] at hm ⊢
      have g1 : (c == 9) = false := by simp; omega
      have g2 : (c == 12) = false := by simp; omega
      have g3 : (c == 13) = false := by simp; omega
      have g4 : (c == 10) = false := by simp; omega
      have k1 : ¬ c = 9 := by omega
      have k2 : ¬ c = 12 := by omega
      have k3 : ¬ c = 13 := by omega
      clear e hM h1
      go_enter Tryd.func65, Tryd.ntmps65
      go_wp2_with (go_at_call 48; ((with_reducible refine hm.mono ?_); rintro e w1 ⟨rfl, rfl⟩))
      go_ret2
      exact ⟨rfl, rfl⟩

/-! ### rows of characters -/
def cellsI (l : List Int) : List Value := l.map (Value.int .i32)
theorem cellsI_snoc (l : List Int) (x : Int) : cellsI (l ++ [x]) = cellsI l ++ [.int .i32 x] := by unfold cellsI; rw [List.map_append]; rfl
def IntsPost (l : List Int) (w : World) (e : Ending) (w' : World) : Prop := ∃ v, e = .returned v ∧ w'.ownsRow w.heap.size 21 1 v l.length (cellsI l) ∧ Below w.heap.size w w'
theorem infoRune : (Tryd.prog.info? 21).map (fun i => (i.zero, i.size, i.bytes)) = some (some (.int .i32 0), 1, 4) := by kernel_rfl
theorem one_new (w : World) (x : Value) (t : TypeId) : ∀ j u, ([x] : List Value)[j]? = some u → (w.alloc (.cells #[x] t)).cell? ((⟨w.heap.size, 0, none⟩ : Addr).add j) = some u := by
  intro j u h
  match j, h with
  | 0, h => cases h; simp [Addr.add]
  | j + 1, h => simp at h
theorem ints_snoc {w : World} {B : Nat} {v : Value} {l : List Int} {x : Int} (h : w.ownsRow B 21 1 v (l.length + 1) (cellsI l ++ [.int .i32 x])) : w.ownsRow B 21 1 v (l ++ [x]).length (cellsI (l ++ [x])) := by
  rw [cellsI_snoc, List.length_append]
  exact h
theorem block_kept {w w' : World} {row : Option Nat} {k : Nat} {o : Obj} (hg : w.grownBy w' row) (hr : ∀ r, row = some r → r ≠ k) (h : w.heap[k]? = some o) : w'.heap[k]? = some o := by
  rw [hg.block k (Array.getElem?_eq_some_iff.1 h).1 (fun e => hr k e.symm rfl)]
  exact h

set_option maxHeartbeats 4000000 in
theorem pick_any (s : ByteArray) (B : Nat) (w : World) (hB : w.cell? ⟨B, 0, none⟩ = some (.int .i32 10)) (hs : s.size ≤ 100000) :
    Calls Tryd.prog 64 #[.string s, .func (.func 65) #[] #[.pointer (some ⟨B, 0, none⟩)]] w (IntsPost (cleanD s.data.toList) w) := by
  obtain ⟨i0, hi, hz0, hz1, hz2⟩ := info_parts infoRune
  have hBl := lt_of_cell' hB
  replace hBl : B < w.heap.size := hBl
  obtain ⟨C, hC⟩ : ∃ C, cleanD s.data.toList = C := ⟨_, rfl⟩
  rw [hC]
  have HC := Lib.hid hC
  have H0 := Lib.hid hB
  clear hC hB
  go_enter Tryd.func64, Tryd.ntmps64
  go_wp2
  go_loopg [5] s.size (fun gk v wx => ∃ (pos : Nat) (l : List Int), wx.heap[w.heap.size]? = some (.stringIter s pos) ∧ Below w.heap.size w wx ∧ wx.ownsRow (w.heap.size + 1) 21 1 v l.length (cellsI l) ∧ w.heap.size + 1 ≤ wx.heap.size ∧ Hid (l ++ cleanD (s.data.toList.drop pos) = C) ∧ s.size ≤ pos + gk ∧ pos ≤ s.size ∧ l.length ≤ pos)
  case atStart =>
    refine ⟨0, [], ?_, (Below.refl _ w).alloc (Nat.le_refl _) _, World.ownsRow_nil _ _ _ _, ?_, Lib.hid (by simpa using HC.out), by omega, by omega, Nat.le_refl _⟩
    · exact World.iter_heap w s 0
    · show w.heap.size + 1 ≤ (w.alloc _).heap.size
      rw [World.size_alloc]; exact Nat.le_refl _
  case round =>
    obtain ⟨pos, l, hit, hbw, hown, hsz, hsp, hfu, hps, hlp⟩ := hrel
    by_cases hlt : pos < s.size
    · obtain ⟨g', rfl⟩ : ∃ g', gk = g' + 1 := ⟨gk - 1, by omega⟩
      have hnx : ∀ ty, (Instr.next (.pointer (some ⟨w.heap.size, 0, none⟩)) true ty).run Tryd.prog wr = _ := fun ty => Lib.run_next_any_at wr w.heap.size s pos ty hit hlt
      have hwd := Lib.width_pos s pos
      have hwn := width_in hlt
      have hstep := cleanD_step _ (drop_ne hlt)
      have hsp2 := hsp.out
      rw [hstep, decodeL_drop, List.drop_drop] at hsp2
      obtain ⟨R, hR⟩ : ∃ R, (Utf8.decode s pos).1 = R := ⟨_, rfl⟩
      obtain ⟨K, hK⟩ : ∃ K, (Utf8.decode s pos).2 = K := ⟨_, rfl⟩
      rw [hR, hK] at hnx hsp2
      rw [hK] at hwd hwn
      have hit2 := Lib.iterAt_heap wr w.heap.size s pos (pos + K) hit
      have hbw2 := Lib.below_iterAt hbw (k := w.heap.size) (Nat.le_refl _) s (pos + K)
      have hown2 := own_other (w' := wr.iterAt w.heap.size s (pos + K)) hown (fun k hk _ => Lib.iterAt_other wr w.heap.size k s (pos + K) (by omega))
      have hsz2 : w.heap.size + 1 ≤ (wr.iterAt w.heap.size s (pos + K)).heap.size := by rw [Lib.iterAt_size]; exact hsz
      obtain ⟨W, hWd⟩ : ∃ W, wr.iterAt w.heap.size s (pos + K) = W := ⟨_, rfl⟩
      rw [hWd] at hnx hit2 hbw2 hown2 hsz2
      have hco := fun w1 h => cleanFn_any (R : Int) B w1 h
      have hkz : keepZ R = if (cleanZ (R : Int)).2 then [(cleanZ (R : Int)).1] else [] := rfl
      obtain ⟨Z, hZ⟩ : ∃ Z, cleanZ (R : Int) = Z := ⟨_, rfl⟩
      rw [hZ] at hco hkz
      obtain ⟨Z1, Z2⟩ := Z
      rw [hkz] at hsp2
      have hc2 := hco W ((hbw2.cell (p := ⟨B, 0, none⟩) hBl).trans H0.out)
      clear hit hbw hown hsz hWd hstep hsp hR hK hkz hZ hco
      cases Z2 with
      | true =>
        have HS := Lib.hid hsp2
        clear hsp2
        go_wp2_with (first
          | (go_at_call 65; ((with_reducible refine hc2.mono ?_); rintro e w1 ⟨rfl, rfl⟩))
          | (at_builtin; refine wpList_append_own _ rfl _ _ 50 rfl (w.heap.size + 1) 21 i0 _ 1 4 Tryd.underlying50 hi hz0 hz1 hz2 rfl (by decide) _ _ _ rfl (hown2.alloc _) ⟨W.heap.size, 0, none⟩ 1 1 [.int .i32 Z1] rfl rfl (one_new _ _ _) (by simp [Value.oneCell']) (by unfold maxLen; omega) (by omega) (by simp; omega) ?_; intro v' w2 hown' hgrow _))
        go_roundg g'
        case measure => omega
        case rel =>
          have hne : ∀ r, Value.ownBlock _ = some r → r ≠ w.heap.size := fun r e => by have := hown2.lt r e; omega
          refine ⟨pos + K, l ++ [Z1], block_kept hgrow hne ((Below.heap_alloc W _ _ (by omega)).trans hit2), (hbw2.alloc hbw2.size _).grown hgrow (by simp; omega) (fun r e => by have := hown2.lt r e; omega), ints_snoc hown', ?_, Lib.hid (by have := HS.out; simpa using this), by omega, hwn, by simp; omega⟩
          have := hgrow.size
          simp at this
          omega
      | false =>
        have HS := Lib.hid hsp2
        clear hsp2
        go_wp2_with (go_at_call 65; ((with_reducible refine hc2.mono ?_); rintro e w1 ⟨rfl, rfl⟩))
        go_roundg g'
        case measure => omega
        case rel => exact ⟨pos + K, l, hit2, hbw2, hown2, hsz2, HS, by omega, hwn, by omega⟩
    · have hnx : ∀ ty, (Instr.next (.pointer (some ⟨w.heap.size, 0, none⟩)) true ty).run Tryd.prog wr = _ := fun ty => Lib.run_next_end_at wr w.heap.size s pos ty hit hlt
      have hsp2 := hsp.out
      rw [drop_end hlt, cleanD_nil, List.append_nil] at hsp2
      have HS := Lib.hid hsp2
      clear hsp2 hsp hit
      go_wp2
      go_ret
      rw [← HS.out]
      exact ⟨_, rfl, hown.mono (Nat.le_succ _), hbw⟩

theorem cleaned_any (s : ByteArray) (w : World) (hs : s.size ≤ 100000) :
    Calls Tryd.prog 53 #[.string s, .int .i32 10] w (IntsPost (cleanD s.data.toList) w) := by
  have hc := pick_any s w.heap.size (w.alloc (.cells #[.int .i32 10] 21)) (by simp) hs
  unfold IntsPost at hc
  obtain ⟨C, hC⟩ : ∃ C, cleanD s.data.toList = C := ⟨_, rfl⟩
  rw [hC] at hc ⊢
  clear hC
  go_enter Tryd.func53, Tryd.ntmps53
  go_wp2_with (go_at_call 64; ((with_reducible refine hc.mono ?_); rintro e w1 ⟨v, rfl, hown, hb1⟩))
  go_ret
  have hb0 : Below w.heap.size w (w.alloc (.cells #[.int .i32 10] 21)) := (Below.refl _ w).alloc (Nat.le_refl _) _
  exact ⟨_, rfl, hown.mono hb0.size, hb0.trans (hb1.mono hb0.size)⟩
theorem clean_any (s : ByteArray) (w : World) (hs : s.size ≤ 100000) :
    Calls Tryd.prog 43 #[.string s] w (IntsPost (cleanD s.data.toList) w) := by
  have hc := cleaned_any s w hs
  unfold IntsPost at hc
  obtain ⟨C, hC⟩ : ∃ C, cleanD s.data.toList = C := ⟨_, rfl⟩
  rw [hC] at hc ⊢
  clear hC
  go_enter Tryd.func43, Tryd.ntmps43
  go_wp2_with (go_at_call 53; ((with_reducible refine hc.mono ?_); rintro e w1 ⟨v, rfl, hown, hb1⟩))
  go_ret
  exact ⟨_, rfl, hown, hb1⟩

end Go.Proofs.YtiaoflagjaclmaaDoor
