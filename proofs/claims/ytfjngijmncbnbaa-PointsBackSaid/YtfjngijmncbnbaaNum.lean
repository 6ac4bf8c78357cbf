/-
  Numbers in a row: none is beyond; all are small.
-/
import Derived.Test.YtfjngijmncbnbaaRows
import Derived.WalkKit
import Derived.WalkSpells
import Derived.WalkLawsBesides
import Derived.BigGuardPart
import Derived.Lib.Hide
import Derived.Lib.OthersKept
import Derived.Lib.Strings
import Derived.Below
import Derived.LoopTactic
import Derived.Deep.DeepCutAuto
import Derived.Laws.OwnMore
import Derived.Lib.SmallJoins
import Derived.RangeFuncOwn
import Derived.Deep.RegionHeld3
import Derived.Deep.QuietTactic
import Derived.Laws.Cover4
namespace Go.Proofs.Ytfjngijmncbnbaa
open Go.RowKit Go.Lib

/-- The row lies in block b. -/
def Ints (w : World) (b : Nat) (l : List Int) : Prop := ∀ j, j < l.length → w.cell? ⟨b, j, none⟩ = some (.int .i64 l[j]!)
def InR (x : Int) : Prop := -1 ≤ x ∧ x ≤ 1073741824

set_option maxRecDepth 20000 in
theorem beyond_any (w : World) (b : Nat) (l : List Int) (h : Ints w b l) (hl : l.length ≤ 10) (hr : ∀ x ∈ l, InR x) :
    Calls Try.prog 21 #[.slice (some ⟨b, 0, none⟩) l.length l.length] w fun e w' => e = .returned (.bool false) ∧ w' = w := by
  have HI := Lib.hid h
  have HR := Lib.hid hr
  obtain ⟨n, hn⟩ : ∃ n, l.length = n := ⟨_, rfl⟩
  rw [hn] at hl ⊢
  have HN := Lib.hid hn
  clear h hr hn
  go_enter Try.func21, Try.ntmps21
  go_wp2
  go_loop [7] (fun i => ∃ k : Nat, k ≤ n ∧ i = .int .i64 k) (fun i => n - (RowKit.intOf i).toNat)
  case atStart => exact ⟨0, Nat.zero_le _, rfl⟩
  case round =>
    obtain ⟨k, hk, rfl⟩ := hrel
    by_cases hlt : k < n
    · have hkl : k < l.length := by rw [HN.out]; exact hlt
      have hkI : (k : Int) < (n : Int) := by omega
      have hc := HI.out k hkl
      have hm : InR l[k]! := HR.out _ (by rw [List.getElem!_eq_getElem?_getD, List.getElem?_eq_getElem hkl]; exact List.getElem_mem hkl)
      obtain ⟨z, hz⟩ : ∃ z, l[k]! = z := ⟨_, rfl⟩
      rw [hz] at hc hm
      obtain ⟨h1, h2⟩ := hm
      have h3 : ¬ z < -1 := by omega
      have h4 : ¬ (1073741824 : Int) < z := by omega
      have d3 : decide (z < -1) = false := decide_eq_false h3
      have d4 : decide ((1073741824 : Int) < z) = false := decide_eq_false h4
      clear hz
      go_wp2
      go_round
      case rel => exact ⟨k + 1, hlt, by go_num⟩
      case measure => simp [RowKit.intOf]; omega
    · have hkn : k = n := by omega
      subst hkn
      go_wp2
      go_ret
      exact ⟨rfl, rfl⟩

def smallB (l : List Int) : Bool := l.all fun x => decide (0 ≤ x) && decide (x ≤ 10000)
set_option maxRecDepth 20000 in
theorem small_any (w : World) (b : Nat) (l : List Int) (h : Ints w b l) (hl : l.length ≤ 10) :
    Calls Try.prog 6 #[.slice (some ⟨b, 0, none⟩) l.length l.length] w fun e w' => e = .returned (.bool (smallB l)) ∧ w' = w := by
  obtain ⟨R, hR⟩ : ∃ R, smallB l = R := ⟨_, rfl⟩
  have H0 : Hid (smallB (l.drop 0) = R) := Lib.hid hR
  rw [hR]
  have HI := Lib.hid h
  obtain ⟨n, hn⟩ : ∃ n, l.length = n := ⟨_, rfl⟩
  rw [hn] at hl ⊢
  have HN := Lib.hid hn
  clear h hn hR
  go_enter Try.func6, Try.ntmps6
  go_wp2
  go_loop [3] (fun i => ∃ k : Nat, k ≤ n ∧ i = .int .i64 k ∧ Hid (smallB (l.drop k) = R)) (fun i => n - (RowKit.intOf i).toNat)
  case atStart => exact ⟨0, Nat.zero_le _, rfl, H0⟩
  case round =>
    obtain ⟨k, hk, rfl, HC⟩ := hrel
    by_cases hlt : k < n
    · have hkl : k < l.length := by rw [HN.out]; exact hlt
      have hkI : (k : Int) < (n : Int) := by omega
      have hc := HI.out k hkl
      have hd : l.drop k = l[k]! :: l.drop (k + 1) := by
        rw [List.getElem!_eq_getElem?_getD, List.getElem?_eq_getElem hkl]
        exact List.drop_eq_getElem_cons hkl
      have h5 := HC.out
      rw [hd] at h5
      unfold smallB at h5
      rw [List.all_cons] at h5
      obtain ⟨z, hz⟩ : ∃ z, l[k]! = z := ⟨_, rfl⟩
      rw [hz] at hc h5
      by_cases h1 : z < 0
      · have HF : Hid (false = R) := Lib.hid (by rw [← h5, decide_eq_false (by omega : ¬ 0 ≤ z)]; rfl)
        have d3 : decide (z < 0) = true := decide_eq_true h1
        clear hz hd h5
        go_wp2
        go_ret
        have e9 := HF.out
        subst e9
        exact ⟨rfl, rfl⟩
      · have d3 : decide (z < 0) = false := decide_eq_false h1
        by_cases h2 : (10000 : Int) < z
        · have HF : Hid (false = R) := Lib.hid (by rw [← h5, decide_eq_false (by omega : ¬ z ≤ 10000)]; simp)
          have d4 : decide ((10000 : Int) < z) = true := decide_eq_true h2
          clear hz hd h5
          go_wp2
          go_ret
          have e9 := HF.out
          subst e9
          exact ⟨rfl, rfl⟩
        · have HX : Hid (smallB (l.drop (k + 1)) = R) := Lib.hid (by rw [← h5, decide_eq_true (by omega : 0 ≤ z), decide_eq_true (by omega : z ≤ 10000)]; rfl)
          have d4 : decide ((10000 : Int) < z) = false := decide_eq_false h2
          clear hz hd h5
          go_wp2
          go_round
          case rel => exact ⟨k + 1, hlt, by go_num, HX⟩
          case measure => simp [RowKit.intOf]; omega
    · have hkn : k = n := by omega
      subst hkn
      have HF : Hid (true = R) := Lib.hid (by have h5 := HC.out; rw [List.drop_of_length_le (by rw [HN.out]; exact Nat.le_refl _)] at h5; exact h5)
      go_wp2
      go_ret
      have e9 := HF.out
      subst e9
      exact ⟨rfl, rfl⟩

end Go.Proofs.Ytfjngijmncbnbaa
