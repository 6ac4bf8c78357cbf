/-
  The walk of the statement CssBack.
-/
import Derived.Test.YthoinlapopongaaDoorWalksK
import Derived.Test.YthoinlapopongaaDoorBack
namespace Go.Proofs.YthoinlapopongaaDoor
open Go.RowKit Go.Lib

/-- What is cleared, and not set. -/
def lessN (b a : Nat) : Nat := b ^^^ (b &&& a)
theorem less_at : ∀ a b : Fin 16, bits .andNot .i64 (b.val : Int) (a.val : Int) = ((lessN b.val a.val : Nat) : Int) ∧ lessN b.val a.val < 16 ∧ a.val &&& lessN b.val a.val = 0 := by decide +kernel
theorem some_at : ∀ a b : Fin 16, (bits .and .i64 (bits .or .i64 (a.val : Int) (b.val : Int)) 12 != 0) = !decide ((a.val ||| b.val) &&& 12 = 0) := by decide +kernel
theorem fix_at : ∀ a b : Fin 16, (a.val ||| b.val) &&& 12 ≠ 0 → bits .or .i64 (b.val : Int) (bits .andNot .i64 12 (a.val : Int)) = ((fixN a.val b.val : Nat) : Int) := by decide +kernel
theorem fix_lt : ∀ a b : Fin 16, fixN a.val b.val < 16 := by decide +kernel
theorem ofNat_toInt (n : Nat) (h : n < 16) : (BitVec.ofNat 64 n).toInt = (n : Int) := by
  rw [toInt_small _ (by rw [BitVec.toNat_ofNat]; omega), BitVec.toNat_ofNat]; omega
theorem printN_size (a b : Nat) (ha : a < 16) (hb : b < 16) : (printN a b).size ≤ 1000000000 := by
  have h := listN_small ⟨a, ha⟩ ⟨b, hb⟩
  dsimp only at h
  have e : (printN a b).size = (Lib.join ((listN a b).map (·.data.toList)) [59, 32]).length := by rw [size_eq]; rfl
  omega

set_option maxHeartbeats 4000000 in
theorem lawBack_walk (x y : Int) (w : World) (hE : Env w) : Calls Tryd.prog 5 #[.int .i64 x, .int .i64 y] w fun e w' => e = .returned (.bool true) ∧ Below w.heap.size w w' := by
  have e1 : bits .and .i64 x 15 = ((low x &&& 15 : Nat) : Int) := and_low x 15 (by decide)
  have e2 : bits .and .i64 y 15 = ((low y &&& 15 : Nat) : Int) := and_low y 15 (by decide)
  obtain ⟨a, ha⟩ : ∃ a, low x &&& 15 = a := ⟨_, rfl⟩
  obtain ⟨b0, hb0⟩ : ∃ b0, low y &&& 15 = b0 := ⟨_, rfl⟩
  rw [ha] at e1
  rw [hb0] at e2
  have la : a < 16 := by have := and_le_small (low x) 15; omega
  have lb0 : b0 < 16 := by have := and_le_small (low y) 15; omega
  obtain ⟨e3, lb, h0⟩ := less_at ⟨a, la⟩ ⟨b0, lb0⟩
  dsimp only at e3 lb h0
  obtain ⟨b, hb⟩ : ∃ b, lessN b0 a = b := ⟨_, rfl⟩
  rw [hb] at e3 lb h0
  clear ha hb0 hb
  have q1 := some_at ⟨a, la⟩ ⟨b, lb⟩
  have q2 := fix_at ⟨a, la⟩ ⟨b, lb⟩
  have lf := fix_lt ⟨a, la⟩ ⟨b, lb⟩
  dsimp only at q1 q2 lf
  have c1 := print_any (a : Int) (b : Int)
  rw [low_of a la, low_of b lb] at c1
  have c2 := fun w h => parse_any (printN a b) w (printN_size a b la lb) h
  rw [parse_print la lb h0] at c2
  dsimp only at c2
  rw [ofNat_toInt a la, ofNat_toInt _ lf] at c2
  have c4 := awake_any
  obtain ⟨P, hP⟩ : ∃ P, printN a b = P := ⟨_, rfl⟩
  rw [hP] at c1 c2
  by_cases hs : (a ||| b) &&& 12 = 0
  · have hf : fixN a b = b := by unfold fixN; rw [if_pos hs]
    rw [hf] at c2
    replace q1 : (bits .and .i64 (bits .or .i64 (a : Int) (b : Int)) 12 != 0) = false := by rw [q1, decide_eq_true hs]; rfl
    clear q2 lf h0 hs hf hP la lb lb0
    have hb := Below.refl w.heap.size w
    go_enter Tryd.func5, Tryd.ntmps5
    go_wp2_with (first
      | (go_at_call 11; ((with_reducible refine (c1 _).mono ?_); rintro e wn ⟨rfl, hbn⟩; replace hb := hb.trans (hbn.mono hb.size)))
      | (go_at_call 9; ((with_reducible refine (c2 _ (hE.below hb)).mono ?_); rintro e wn ⟨rfl, hbn⟩; replace hb := hb.trans (hbn.mono hb.size)))
      | (go_at_call 8; ((with_reducible refine (c4 _ (hE.below hb)).mono ?_); rintro e wn ⟨rfl, hbn⟩; replace hb := hb.trans (hbn.mono hb.size))))
    go_ret
    exact ⟨rfl, hb⟩
  · replace q1 : (bits .and .i64 (bits .or .i64 (a : Int) (b : Int)) 12 != 0) = true := by rw [q1, decide_eq_false hs]; rfl
    replace q2 := q2 hs
    generalize fixN a b = F at *
    clear lf h0 hs hP la lb lb0
    have hb := Below.refl w.heap.size w
    go_enter Tryd.func5, Tryd.ntmps5
    go_wp2_with (first
      | (go_at_call 11; ((with_reducible refine (c1 _).mono ?_); rintro e wn ⟨rfl, hbn⟩; replace hb := hb.trans (hbn.mono hb.size)))
      | (go_at_call 9; ((with_reducible refine (c2 _ (hE.below hb)).mono ?_); rintro e wn ⟨rfl, hbn⟩; replace hb := hb.trans (hbn.mono hb.size)))
      | (go_at_call 8; ((with_reducible refine (c4 _ (hE.below hb)).mono ?_); rintro e wn ⟨rfl, hbn⟩; replace hb := hb.trans (hbn.mono hb.size))))
    go_ret
    exact ⟨rfl, hb⟩

end Go.Proofs.YthoinlapopongaaDoor
