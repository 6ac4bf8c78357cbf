/-
  The contracts over slices of numbers: whether a number is in one, whether two are the same.
-/
import Derived.Test.YteiaolejoangnaaDoorWalksI
import Derived.Deep.QuietTactic
import Derived.BigQuiet
namespace Go.Proofs.YteiaolejoangnaaDoor
open Go.RowKit

/-- A slice's memory holds these numbers. -/
def IntsIn (w : World) (a : Option Addr) (zs : List Int) : Prop := ∀ j, j < zs.length → ∃ b off, a = some ⟨b, off, none⟩ ∧ w.cell? ⟨b, off + j, none⟩ = some (.int .i64 (zs.getD j 0))

theorem IntsIn.below {w w' : World} {a : Option Addr} {zs : List Int} (h : IntsIn w a zs) (hb : Below w.heap.size w w') : IntsIn w' a zs := by
  intro j hj
  obtain ⟨b, off, e, hc⟩ := h j hj
  exact ⟨b, off, e, (hb.cell (block_lt_of_cell hc)).trans hc⟩

/-- The number is none of the first k. -/
def NotIn (zs : List Int) (c : Int) (k : Nat) : Prop := ∀ j, j < k → j < zs.length → c ≠ zs.getD j 0
theorem NotIn.zero (zs : List Int) (c : Int) : NotIn zs c 0 := fun _ h => absurd h (Nat.not_lt_zero _)
theorem NotIn.step {zs : List Int} {c : Int} {k : Nat} (h : NotIn zs c k) (hn : c ≠ zs.getD k 0) : NotIn zs c (k + 1) := by
  intro j hj hl
  by_cases e : j = k
  · subst e; exact hn
  · exact h j (by omega) hl

def hasI (zs : List Int) (c : Int) : Bool := decide (c ∈ zs)
theorem getDI {L : List Int} {i : Nat} (h : i < L.length) : L.getD i 0 = L[i] := by simp [List.getD, h]
theorem hasI_yes {zs : List Int} {c : Int} {k : Nat} (hk : k < zs.length) (e : c = zs.getD k 0) : hasI zs c = true := by
  unfold hasI
  rw [decide_eq_true_iff, e, getDI hk]
  exact List.getElem_mem hk
theorem hasI_no {zs : List Int} {c : Int} (h : NotIn zs c zs.length) : hasI zs c = false := by
  unfold hasI
  rw [decide_eq_false_iff_not]
  intro hm
  obtain ⟨i, hi, e⟩ := List.getElem_of_mem hm
  exact h i hi hi (by rw [getDI hi, e])

/-- What the library's Index answers. -/
def IndexPost (zs : List Int) (c : Int) (w : World) (e : Ending) (w' : World) : Prop := ∃ r : Int, e = .returned (.int .i64 r) ∧ hasI zs c = decide (0 ≤ r) ∧ w = w'

set_option maxHeartbeats 1000000 in
theorem index_any (a : Option Addr) (cap : Nat) (zs : List Int) (c : Int) (w : World) (hc : IntsIn w a zs) (hl : zs.length ≤ 100000) :
    Calls Tryd.prog 34 #[.slice a zs.length cap, .int .i64 c] w (IndexPost zs c w) := by
  obtain ⟨n, hn⟩ : ∃ n, n = zs.length := ⟨_, rfl⟩
  rw [← hn] at hl ⊢
  have HN := Lib.hid hn
  clear hn
  go_enter Tryd.func34, Tryd.ntmps34
  go_wp2
  go_loop [8] (fun i => ∃ k : Nat, k ≤ n ∧ i = .int .i64 k ∧ NotIn zs c k) (fun i => n - (intOf i).toNat)
  case atStart => exact ⟨0, Nat.zero_le _, rfl, NotIn.zero _ _⟩
  case round =>
    obtain ⟨k, hk, rfl, hN⟩ := hrel
    by_cases hlt : k < n
    · have hkz : k < zs.length := by rw [← HN.out]; exact hlt
      obtain ⟨b, off, rfl, hcell⟩ := hc k hkz
      obtain ⟨x, hx⟩ : ∃ x, x = zs.getD k 0 := ⟨_, rfl⟩
      rw [← hx] at hcell
      by_cases he : c = x
      · have E := Lib.hid (hasI_yes hkz (he.trans hx))
        have hd : (c == x) = true := by simpa using he
        clear hx hN hkz he
        go_wp2
        go_ret
        exact ⟨k, rfl, by rw [E.out]; simp, rfl⟩
      · have S := Lib.hid (hN.step (by rw [← hx]; exact he))
        have hd : (c == x) = false := by simpa using he
        clear hx hN hkz he
        go_wp2
        go_round
        case rel => exact ⟨k + 1, by omega, by go_num, S.out⟩
        case measure => simp [intOf]; omega
    · have hkn : k = n := by omega
      have E := Lib.hid (hasI_no (zs := zs) (c := c) (by rw [← HN.out, ← hkn]; exact hN))
      clear hN hkn
      go_wp2
      go_ret
      exact ⟨-1, rfl, by rw [E.out]; rfl, rfl⟩

theorem contains_any (a : Option Addr) (cap : Nat) (zs : List Int) (c : Int) (w : World) (hc : IntsIn w a zs) (hl : zs.length ≤ 100000) :
    Calls Tryd.prog 32 #[.slice a zs.length cap, .int .i64 c] w fun e w' => e = .returned (.bool (hasI zs c)) ∧ w = w' := by
  have hcall := index_any a cap zs c w hc hl
  generalize zs.length = n at hcall ⊢
  go_enter Tryd.func32, Tryd.ntmps32
  go_wp2_with (go_at_call 34; (with_reducible refine hcall.mono ?_); rintro e w1 ⟨r, rfl, hr, rfl⟩; have HR := Lib.hid hr; clear hr)
  go_ret
  exact ⟨by rw [HR.out]; rfl, rfl⟩

theorem drewN_below {B : Nat} {a w : World} (h : Below B a w) (n : Nat) : Below B a (w.drewN n) := h.trans ⟨rfl, rfl, rfl, Nat.le_refl _, fun _ _ => rfl⟩

/-- The document's comparison of two rows of the same numbers. -/
theorem rsame_yes (a b : Option Addr) (c d : Nat) (zs : List Int) (w : World) (ha : IntsIn w a zs) (hb : IntsIn w b zs) (hl : zs.length ≤ 100000) :
    Calls Tryd.prog 23 #[.slice a zs.length c, .slice b zs.length d] w fun e w' => e = .returned (.bool true) ∧ Below w.heap.size w w' := by
  obtain ⟨n, hn⟩ : ∃ n, n = zs.length := ⟨_, rfl⟩
  rw [← hn] at hl ⊢
  have HN := Lib.hid hn
  clear hn
  go_enter Tryd.func23, Tryd.ntmps23
  go_wp2
  go_loopw [5] (fun i wr => ∃ k : Nat, k ≤ n ∧ i = .int .i64 k ∧ Below w.heap.size w wr) (fun i _ => n - (intOf i).toNat)
  case atStart => exact ⟨0, Nat.zero_le _, rfl, Below.refl _ _⟩
  case round =>
    obtain ⟨k, hk, rfl, hbw⟩ := hrel
    by_cases hlt : k < n
    · have hkz : k < zs.length := by rw [← HN.out]; exact hlt
      obtain ⟨b1, o1, rfl, hc1⟩ := (ha.below hbw) k hkz
      obtain ⟨b2, o2, rfl, hc2⟩ := (hb.below hbw) k hkz
      generalize zs.getD k 0 = x at hc1 hc2
      clear hkz
      have hki : (k : Int) < n := by omega
      go_wp2
      go_quiet (fail)
      go_wp2
      go_roundw
      case rel => exact ⟨k + 1, by omega, by go_num, drewN_below hbw _⟩
      case measure => simp [intOf]; omega
    · go_wp2
      go_ret
      exact ⟨rfl, hbw⟩

end Go.Proofs.YteiaolejoangnaaDoor
