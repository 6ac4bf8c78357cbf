/-
  The contract of the chapter's examples, as the statements run them.
-/
import Derived.Test.YtcccaaleekednaaDoorWalksG
namespace Go.Proofs.YtcccaaleekednaaDoor
open Go.RowKit Go.Lib

theorem s_a : (⟨#[97]⟩ : ByteArray).size ≤ 1000000 := by decide
theorem yes_b : (nameS ⟨#[98]⟩ && valueS ⟨#[50]⟩) = true := by decide +kernel
theorem yes_a : (nameS ⟨#[97]⟩ && valueS ⟨#[51]⟩) = true := by decide +kernel
def rowA : Row := [(⟨#[97]⟩, ⟨#[49]⟩)]
def rowB : Row := [(⟨#[97]⟩, ⟨#[49]⟩), (⟨#[98]⟩, ⟨#[50]⟩)]
def rowC : Row := [(⟨#[97]⟩, ⟨#[51]⟩), (⟨#[98]⟩, ⟨#[50]⟩)]
theorem putB : putR rowA ⟨#[98]⟩ ⟨#[50]⟩ = rowB := by decide +kernel
theorem putC : putR rowB ⟨#[97]⟩ ⟨#[51]⟩ = rowC := by decide +kernel
theorem hasNoC : hasR rowB ⟨#[99]⟩ = false := by decide +kernel
theorem gotA : gotV rowC ⟨#[97]⟩ = .tuple #[.string ⟨#[51]⟩, .bool true] := by
  unfold gotV
  rw [show getR rowC ⟨#[97]⟩ = ⟨#[51]⟩ by decide +kernel, show hasR rowC ⟨#[97]⟩ = true by decide +kernel]
theorem nameX : nameS ⟨#[100, 97, 116, 97, 45, 120]⟩ = true := by decide +kernel
theorem nameNo : nameS ⟨#[49, 97]⟩ = false := by decide +kernel
theorem targetNo : targetS ⟨#[74, 97, 118, 97, 83, 99, 114, 105, 112, 116, 58, 120]⟩ = false := by decide +kernel
theorem targetYes : targetS ⟨#[104, 116, 116, 112, 58, 47, 47, 120]⟩ = true := by decide +kernel

theorem name1_at (w : World) : Calls Tryd.prog 10 #[.string ⟨#[100, 97, 116, 97, 45, 120]⟩] w fun e w' => e = .returned (.bool true) ∧ Below w.heap.size w w' := by
  have h := name_any ⟨#[100, 97, 116, 97, 45, 120]⟩ w (by decide)
  rwa [nameX] at h
theorem name2_at (w : World) : Calls Tryd.prog 10 #[.string ⟨#[49, 97]⟩] w fun e w' => e = .returned (.bool false) ∧ Below w.heap.size w w' := by
  have h := name_any ⟨#[49, 97]⟩ w (by decide)
  rwa [nameNo] at h
theorem target1_at (w : World) (hE : Env w) : Calls Tryd.prog 14 #[.string ⟨#[74, 97, 118, 97, 83, 99, 114, 105, 112, 116, 58, 120]⟩] w fun e w' => e = .returned (.bool false) ∧ Below w.heap.size w w' := by
  have h := target_any ⟨#[74, 97, 118, 97, 83, 99, 114, 105, 112, 116, 58, 120]⟩ w (by decide) hE
  rwa [targetNo] at h
theorem target2_at (w : World) (hE : Env w) : Calls Tryd.prog 14 #[.string ⟨#[104, 116, 116, 112, 58, 47, 47, 120]⟩] w fun e w' => e = .returned (.bool true) ∧ Below w.heap.size w w' := by
  have h := target_any ⟨#[104, 116, 116, 112, 58, 47, 47, 120]⟩ w (by decide) hE
  rwa [targetYes] at h
theorem put1_at (v : Value) (w : World) (hE : Env w) (hv : RowAt w v rowA) : Calls Tryd.prog 21 #[v, .string ⟨#[98]⟩, .string ⟨#[50]⟩] w fun e w' => (∃ a n c, e = .returned (.tuple #[.slice a n c, .int .i64 0]) ∧ RowAt w' (.slice a n c) rowB) ∧ Below w.heap.size w w' := by
  have h := put_yes v rowA ⟨#[98]⟩ ⟨#[50]⟩ w hE hv (by decide) (by decide) (by decide) yes_b
  rw [putB] at h
  refine h.mono ?_
  rintro e w' ⟨v', rfl, hown, hb⟩
  have hr := rowAt_of_own hown
  obtain ⟨a, c, rfl⟩ := hr.len
  exact ⟨⟨a, _, c, rfl, hr⟩, hb⟩
theorem put2_at (v : Value) (w : World) (hE : Env w) (hv : RowAt w v rowB) : Calls Tryd.prog 21 #[v, .string ⟨#[97]⟩, .string ⟨#[51]⟩] w fun e w' => (∃ a c, e = .returned (.tuple #[.slice a 2 c, .int .i64 0]) ∧ RowAt w' (.slice a 2 c) rowC) ∧ Below w.heap.size w w' := by
  have h := put_yes v rowB ⟨#[97]⟩ ⟨#[51]⟩ w hE hv (by decide) (by decide) (by decide) yes_a
  rw [putC] at h
  refine h.mono ?_
  rintro e w' ⟨v', rfl, hown, hb⟩
  have hr := rowAt_of_own hown
  obtain ⟨a, c, rfl⟩ := hr.len
  exact ⟨⟨a, c, rfl, hr⟩, hb⟩
theorem drop_at (v : Value) (w : World) (hv : RowAt w v rowB) : Calls Tryd.prog 23 #[v, .string ⟨#[99]⟩] w fun e w' => e = .returned (.tuple #[.slice none 0 0, .int .i64 2]) ∧ Below w.heap.size w w' :=
  drop_no v rowB ⟨#[99]⟩ w hv hasNoC
theorem get_at (v : Value) (w : World) (hv : RowAt w v rowC) : Calls Tryd.prog 18 #[v, .string ⟨#[97]⟩] w fun e w' => e = .returned (.tuple #[.string ⟨#[51]⟩, .bool true]) ∧ Below w.heap.size w w' := by
  have h := get_any v rowC ⟨#[97]⟩ w hv
  rwa [gotA] at h

theorem row_start (w : World) (t : TypeId) : RowAt (w.alloc (.cells #[.string ⟨#[97]⟩, .string ⟨#[49]⟩] t)) (.slice (some ⟨w.heap.size, 0, none⟩) 1 1) rowA := by
  refine .inr ⟨_, 0, 1, rfl, by decide, by decide, by simp, fun j hj => ?_⟩
  obtain rfl : j = 0 := by simpa [rowA] using hj
  exact ⟨by simp [rowA], by simp [rowA]⟩

set_option maxHeartbeats 4000000 in
theorem awake_any (w : World) (hE : Env w) : Calls Tryd.prog 9 #[] w fun e w' => e = .returned (.bool true) ∧ Below w.heap.size w w' := by
  have hb0 := (Below.refl w.heap.size w).alloc (Nat.le_refl _) (.cells #[.string ⟨#[97]⟩, .string ⟨#[49]⟩] 32)
  have hE0 := hE.below hb0
  have hr0 := row_start w 32
  go_enter Tryd.func9, Tryd.ntmps9
  go_wp2_with fail
  refine (put1_at _ _ hE0 hr0).mono ?_
  rintro e w1 ⟨⟨a1, n1, c1, rfl, hr1⟩, hb1⟩
  have hE1 := hE0.below hb1
  have hc1 := hb0.trans (hb1.mono hb0.size)
  clear hE0 hr0
  go_wp2_with fail
  refine (put2_at _ _ hE1 hr1).mono ?_
  rintro e w2 ⟨⟨a2, c2, rfl, hr2⟩, hb2⟩
  have hE2 := hE1.below hb2
  have hc2 := hc1.trans (hb2.mono hc1.size)
  have hr1' := hr1.below hb2
  go_wp2_with fail
  refine (drop_at _ _ hr1').mono ?_
  rintro e w3 ⟨rfl, hb3⟩
  have hE3 := hE2.below hb3
  have hc3 := hc2.trans (hb3.mono hc2.size)
  have hr2' := hr2.below hb3
  go_wp2_with fail
  refine (get_at _ _ hr2').mono ?_
  rintro e w4 ⟨rfl, hb4⟩
  have hE4 := hE3.below hb4
  have hc4 := hc3.trans (hb4.mono hc3.size)
  clear hE1 hE2 hE3 hb1 hb2 hb3 hb4 hr1 hr2 hr1' hr2' hb0 hc1 hc2 hc3
  go_wp2_with (first
    | (go_at_call 10; ((with_reducible refine (name1_at _).mono ?_); rintro e w5 ⟨rfl, hb5⟩; have hE5 := hE4.below hb5; have hc5 := hc4.trans (hb5.mono hc4.size)))
    | (go_at_call 10; ((with_reducible refine (name2_at _).mono ?_); rintro e w6 ⟨rfl, hb6⟩; have hE6 := hE5.below hb6; have hc6 := hc5.trans (hb6.mono hc5.size)))
    | (go_at_call 14; ((with_reducible refine (target1_at _ hE6).mono ?_); rintro e w7 ⟨rfl, hb7⟩; have hE7 := hE6.below hb7; have hc7 := hc6.trans (hb7.mono hc6.size)))
    | (go_at_call 14; ((with_reducible refine (target2_at _ hE7).mono ?_); rintro e w8 ⟨rfl, hb8⟩; have hc8 := hc7.trans (hb8.mono hc7.size))))
  go_ret
  exact ⟨rfl, hc8⟩

end Go.Proofs.YtcccaaleekednaaDoor
