/-
  The contracts of the program's find and Get.
-/
import Derived.Test.YtcccaaleekednaaDoorMem
namespace Go.Proofs.YtcccaaleekednaaDoor
open Go.RowKit Go.Lib

theorem str_eq (a b : ByteArray) : (a.toList == b.toList) = decide (a = b) := by
  rw [ByteArray.toList_eq, ByteArray.toList_eq, Bool.eq_iff_iff]
  simp only [beq_iff_eq, decide_eq_true_eq]
  constructor
  · intro h
    cases a with | mk a => cases b with | mk b =>
    congr 1
    exact Array.toList_inj.1 h
  · intro h; rw [h]

/-- The closure: is it of that name? -/
theorem findFn_any (n : ByteArray) (B : Nat) (w : World) (hB : B < w.heap.size) (hcell : w.cell? ⟨B, 0, none⟩ = some (.string n)) :
    PredBelow Tryd.prog 54 #[.pointer (some ⟨B, 0, none⟩)] (fun (x : At) => .agg (encA x).toArray) (fun x => decide (x.1 = n)) w := fun W x hb => by
  have hc : W.cell? ⟨B, 0, none⟩ = some (.string n) := (hb.cell (p := ⟨B, 0, none⟩) hB).trans hcell
  have hBW : B < W.heap.size := Nat.lt_of_lt_of_le hB hb.size
  have hne : B ≠ W.heap.size := by omega
  show Calls Tryd.prog 54 #[.agg #[.string x.1, .string x.2], .pointer (some ⟨B, 0, none⟩)] W fun e w' => e = .returned (.bool (decide (x.1 = n))) ∧ Below w.heap.size w w'
  rw [← str_eq]
  obtain ⟨x1, x2⟩ := x
  go_enter Tryd.func54, Tryd.ntmps54
  go_wp2
  go_ret
  exact ⟨rfl, hb.alloc hb.size _⟩

set_option maxHeartbeats 1000000 in
theorem indexFunc_nil (a : Option Addr) (c : Nat) (fv : Value) (w : World) :
    Calls Tryd.prog 53 #[.slice a 0 c, fv] w fun e w' => e = .returned (.int .i64 (-1)) ∧ w = w' := by
  go_enter Tryd.func53, Tryd.ntmps53
  go_wp2
  go_loop [8] (fun i => i = .int .i64 0) (fun _ => 0)
  case atStart => rfl
  case round =>
    subst hrel
    go_wp2
    go_ret
    exact ⟨rfl, rfl⟩

theorem indexFunc_any (v : Value) (l : Row) (n : ByteArray) (B : Nat) (w : World) (hv : RowAt w v l) (hB : B < w.heap.size) (hcell : w.cell? ⟨B, 0, none⟩ = some (.string n)) :
    Calls Tryd.prog 53 #[v, .func (.func 54) #[] #[.pointer (some ⟨B, 0, none⟩)]] w fun e w' => e = .returned (.int .i64 (findZ l n)) ∧ Below w.heap.size w w' := by
  rcases hv with ⟨a, c, rfl, _, rfl⟩ | ⟨b, o, c, rfl, hlc, hcm, hb, hc⟩
  · refine (indexFunc_nil a c _ w).mono ?_
    rintro e w' ⟨rfl, rfl⟩
    exact ⟨rfl, Below.refl _ _⟩
  · unfold maxLen at hcm
    have eg : ∀ args w, (callFunc 54 args).run Tryd.prog w = .ok (.enter 54 args) w := enters_of Tryd.func54 (by kernel_rfl) rfl
    have h := AnyQ.slices_IndexFunc Tryd.laysIndexFunc 2 Tryd.isAgg32 Tryd.sizeOf32 encA (fun _ => rfl) (fun (x : At) => decide (x.1 = n)) 54 #[.pointer (some ⟨B, 0, none⟩)] eg b o l.length c l w
      (findFn_any n B w hB hcell) (Nat.le_refl _) (by omega) hb hc.enc
    rw [List.take_length, idx_findZ] at h
    exact h

set_option maxHeartbeats 1000000 in
theorem find_any (v : Value) (l : Row) (n : ByteArray) (w : World) (hv : RowAt w v l) :
    Calls Tryd.prog 40 #[v, .string n] w fun e w' => e = .returned (.int .i64 (findZ l n)) ∧ Below w.heap.size w w' := by
  have hc := indexFunc_any v l n w.heap.size (w.alloc (.cells #[.string n] 9)) (hv.below ((Below.refl _ w).alloc (Nat.le_refl _) _)) (by simp) (by simp)
  obtain ⟨Z, hZ⟩ : ∃ Z, findZ l n = Z := ⟨_, rfl⟩
  rw [hZ] at hc ⊢
  clear hZ
  go_enter Tryd.func40, Tryd.ntmps40
  go_wp2_with (go_at_call 53; ((with_reducible refine hc.mono ?_); rintro e w1 ⟨rfl, hb1⟩))
  go_ret
  exact ⟨rfl, ((Below.refl _ w).alloc (Nat.le_refl _) _).trans (hb1.mono (by simp))⟩

/-- What Get answers. -/
def gotV (l : Row) (n : ByteArray) : Value := .tuple #[.string (getR l n), .bool (hasR l n)]

set_option maxHeartbeats 1000000 in
theorem get_any (v : Value) (l : Row) (n : ByteArray) (w : World) (hv : RowAt w v l) :
    Calls Tryd.prog 18 #[v, .string n] w fun e w' => e = .returned (gotV l n) ∧ Below w.heap.size w w' := by
  have hc := find_any v l n w hv
  unfold gotV
  rw [hasR_iff]
  unfold findZ at hc
  by_cases hk : findR l n < l.length
  · rw [if_pos hk] at hc
    rw [getR_at l n hk, decide_eq_true hk]
    rcases hv with ⟨a, c, rfl, _, rfl⟩ | ⟨b, o, c, rfl, hlc, hcm, hb, hcs⟩
    · simp at hk
    · obtain ⟨k, hK⟩ : ∃ k, findR l n = k := ⟨_, rfl⟩
      rw [hK] at hc hk ⊢
      clear hK
      unfold maxLen at hcm
      obtain ⟨_, h2⟩ := hcs k hk
      obtain ⟨T, hT⟩ : ∃ T, (l[k]!).2 = T := ⟨_, rfl⟩
      rw [hT] at h2 ⊢
      clear hT hcs
      obtain ⟨N, hN⟩ : ∃ N, l.length = N := ⟨_, rfl⟩
      rw [hN] at hc hk hlc ⊢
      clear hN
      have hk2 : (k : Int) < (N : Int) := by omega
      have h0 : ¬ (k : Int) < 0 := by omega
      go_enter Tryd.func18, Tryd.ntmps18
      go_wp2_with (go_at_call 40; ((with_reducible refine hc.mono ?_); rintro e w1 ⟨rfl, hb1⟩; have h3 : w1.cell? ⟨b, o + k * 2 + 1, none⟩ = some (.string T) := (hb1.cell (p := ⟨b, o + k * 2 + 1, none⟩) hb).trans h2))
      go_ret2
      exact ⟨rfl, hb1⟩
  · rw [if_neg hk] at hc
    rw [getR_none l n hk, decide_eq_false hk]
    clear hk hv
    go_enter Tryd.func18, Tryd.ntmps18
    go_wp2_with (go_at_call 40; ((with_reducible refine hc.mono ?_); rintro e w1 ⟨rfl, hb1⟩))
    go_ret2
    exact ⟨rfl, hb1⟩

end Go.Proofs.YtcccaaleekednaaDoor
