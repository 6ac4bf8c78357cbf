/-
  What a declaration says; how it is laid over what was said.
-/
import Derived.Test.YthoinlapopongaaDoorWalksE
namespace Go.Proofs.YthoinlapopongaaDoor
open Go.RowKit Go.Lib Go.Shelf

set_option maxHeartbeats 2000000 in
theorem told_any (p v : ByteArray) (w : World) (hs : v.size ≤ 1000000000) (hE : Env w) :
    Calls Tryd.prog 16 #[.string p, .string v] w fun e w' => e = .returned (.tuple #[.int .i64 (toldS p v).1.toInt, .int .i64 (toldS p v).2.toInt]) ∧ Below w.heap.size w w' := by
  unfold toldS
  by_cases h1 : p = kWeight
  · rw [if_pos h1]
    subst h1
    have hc := one_any 1#64 (weightS v) kBold w
    have hw := weight_any v w
    obtain ⟨X, hX⟩ : ∃ X, (oneS 1#64 (weightS v) kBold).1.toInt = X := ⟨_, rfl⟩
    obtain ⟨Y, hY⟩ : ∃ Y, (oneS 1#64 (weightS v) kBold).2.toInt = Y := ⟨_, rfl⟩
    rw [hX, hY] at hc ⊢
    clear hX hY
    generalize weightS v = u at *
    rw [show (1#64).toInt = 1 from rfl] at hc
    go_enter Tryd.func16, Tryd.ntmps16
    go_wp2_with (first
      | (go_at_call 29; ((with_reducible refine hw.mono ?_); rintro e w1 ⟨rfl, rfl⟩))
      | (go_at_call 30; ((with_reducible refine hc.mono ?_); rintro e w1 ⟨rfl, rfl⟩)))
    go_ret2
    exact ⟨rfl, Below.refl _ _⟩
  · rw [if_neg h1]
    have hl1 := list_ne' h1
    by_cases h2 : p = kStyle
    · rw [if_pos h2]
      subst h2
      have hc := one_any 2#64 v kItalic w
      obtain ⟨X, hX⟩ : ∃ X, (oneS 2#64 v kItalic).1.toInt = X := ⟨_, rfl⟩
      obtain ⟨Y, hY⟩ : ∃ Y, (oneS 2#64 v kItalic).2.toInt = Y := ⟨_, rfl⟩
      rw [hX, hY] at hc ⊢
      clear hX hY
      rw [show (2#64).toInt = 2 from rfl] at hc
      go_enter Tryd.func16, Tryd.ntmps16
      go_wp2_with (go_at_call 30; ((with_reducible refine hc.mono ?_); rintro e w1 ⟨rfl, rfl⟩))
      go_ret2
      exact ⟨rfl, Below.refl _ _⟩
    · rw [if_neg h2]
      have hl2 := list_ne' h2
      by_cases h3 : p = kDeco
      · rw [if_pos h3]
        subst h3
        have hc := strokes_any v w hs hE
        obtain ⟨X, hX⟩ : ∃ X, (strokesS v).1.toInt = X := ⟨_, rfl⟩
        obtain ⟨Y, hY⟩ : ∃ Y, (strokesS v).2.toInt = Y := ⟨_, rfl⟩
        rw [hX, hY] at hc ⊢
        clear hX hY
        go_enter Tryd.func16, Tryd.ntmps16
        go_wp2_with (go_at_call 31; ((with_reducible refine hc.mono ?_); rintro e w1 ⟨rfl, hb1⟩))
        go_ret2
        exact ⟨rfl, hb1⟩
      · rw [if_neg h3]
        have hl3 := list_ne' h3
        go_enter Tryd.func16, Tryd.ntmps16
        go_wp2
        go_ret2
        exact ⟨rfl, Below.refl _ _⟩

/-- Two variables, one behind the other. -/
structure Two (b : Nat) (x y : Int) (w : World) : Prop where
  c1 : w.cell? ⟨b, 0, none⟩ = some (.int .i64 x)
  f1 : w.frozen? ⟨b, 0, none⟩ = false
  c2 : w.cell? ⟨b + 1, 0, none⟩ = some (.int .i64 y)
  f2 : w.frozen? ⟨b + 1, 0, none⟩ = false
theorem Two.set {b : Nat} {x y : Int} {w : World} (h : Two b x y w) (X Y : Int) : Two b X Y ((w.setCell ⟨b, 0, none⟩ (.int .i64 X)).setCell ⟨b + 1, 0, none⟩ (.int .i64 Y)).drew := by
  obtain ⟨a1, a2, a3, a4⟩ := h
  refine ⟨?_, ?_, ?_, ?_⟩
  · show ((w.setCell ⟨b, 0, none⟩ (.int .i64 X)).setCell ⟨b + 1, 0, none⟩ (.int .i64 Y)).cell? _ = _
    rw [World.cell?_setCell_other _ _ _ _ (addr_ne (by omega))]; exact World.cell?_setCell_same' _ _ _ (by rw [a1]; rfl)
  · show ((w.setCell ⟨b, 0, none⟩ (.int .i64 X)).setCell ⟨b + 1, 0, none⟩ (.int .i64 Y)).frozen? _ = _
    rw [World.frozen?_setCell, World.frozen?_setCell]; exact a2
  · show ((w.setCell ⟨b, 0, none⟩ (.int .i64 X)).setCell ⟨b + 1, 0, none⟩ (.int .i64 Y)).cell? _ = _
    refine World.cell?_setCell_same' _ _ _ ?_
    rw [World.cell?_setCell_other _ _ _ _ (addr_ne (by omega)), a3]; rfl
  · show ((w.setCell ⟨b, 0, none⟩ (.int .i64 X)).setCell ⟨b + 1, 0, none⟩ (.int .i64 Y)).frozen? _ = _
    rw [World.frozen?_setCell, World.frozen?_setCell]; exact a4
theorem Two.kept {b : Nat} {x y : Int} {w w' : World} (h : Two b x y w) {row : Option Nat} (hg : w.grownBy w' row) (hr : ∀ r, row = some r → b + 2 ≤ r) : Two b x y w' := by
  obtain ⟨a1, a2, a3, a4⟩ := h
  have e0 : ¬ b + 2 ≤ b := by omega
  have e1 : ¬ b + 2 ≤ b + 1 := by omega
  exact ⟨grown_cell (own := (b + 2 ≤ ·)) hg hr e0 a1, (grown_frozen (own := (b + 2 ≤ ·)) hg hr e0 a1).trans a2, grown_cell (own := (b + 2 ≤ ·)) hg hr e1 a3, (grown_frozen (own := (b + 2 ≤ ·)) hg hr e1 a3).trans a4⟩
def pairOf (b : Nat) (k : Nat) : Prop := k = b ∨ k = b + 1

set_option maxHeartbeats 4000000 in
theorem say_any (b : Nat) (x y s c : B64) (w : World) (h : Two b x.toInt y.toInt w) :
    Calls Tryd.prog 14 #[.int .i64 s.toInt, .int .i64 c.toInt, .pointer (some ⟨b, 0, none⟩), .pointer (some ⟨b + 1, 0, none⟩)] w fun e w' =>
      (∃ v, e = .returned v) ∧ Two b (overS x s c).toInt (overS y c s).toInt w' ∧ But (pairOf b) w w' := by
  obtain ⟨a1, a2, a3, a4⟩ := h
  have h1 := fun w => over_any x.toInt s.toInt c.toInt w
  have h2 := fun w => over_any y.toInt c.toInt s.toInt w
  simp only [ofInt_bits] at h1 h2
  obtain ⟨X, hX⟩ : ∃ X, (overS x s c).toInt = X := ⟨_, rfl⟩
  obtain ⟨Y, hY⟩ : ∃ Y, (overS y c s).toInt = Y := ⟨_, rfl⟩
  rw [hX] at h1 ⊢
  rw [hY] at h2 ⊢
  clear hX hY
  generalize x.toInt = x' at *
  generalize y.toInt = y' at *
  generalize s.toInt = s' at *
  generalize c.toInt = c' at *
  go_enter Tryd.func14, Tryd.ntmps14
  have hmx : Tryd.prog.follows .mixedOrders = true := by kernel_rfl
  go_region_with_o (go_at_call 13; first
    | ((with_reducible refine (h1 _).mono ?_); rintro e w1 ⟨rfl, rfl⟩)
    | ((with_reducible refine (h2 _).mono ?_); rintro e w1 ⟨rfl, rfl⟩))
  all_goals go_end0
  all_goals exact ⟨⟨_, rfl⟩, Two.set ⟨a1, a2, a3, a4⟩ X Y, ((But.set w b 0 _ (.inl rfl)).trans (But.set _ (b + 1) 0 _ (.inr rfl))).trans (But.drew _ _)⟩

end Go.Proofs.YthoinlapopongaaDoor
