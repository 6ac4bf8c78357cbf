/-
  The walk of the statement CssLater.
-/
import Derived.Test.YthoinlapopongaaDoorWalksK
import Derived.Test.YthoinlapopongaaDoorLaws
namespace Go.Proofs.YthoinlapopongaaDoor
open Go.RowKit Go.Lib

theorem bits_bit (x y : B64) : bits .or .i64 x.toInt y.toInt = (x ||| y).toInt := by rw [bits_or, ofInt_bits, ofInt_bits]
theorem bits_less (x y : B64) : bits .andNot .i64 x.toInt y.toInt = (x &&& ~~~y).toInt := by rw [bits_andNot, ofInt_bits, ofInt_bits]
theorem bits_both (x y : B64) : bits .and .i64 x.toInt y.toInt = (x &&& y).toInt := by rw [bits_and, ofInt_bits, ofInt_bits]
theorem over_is (x s c : B64) : bits .or .i64 (bits .andNot .i64 x.toInt c.toInt) s.toInt = (overS x s c).toInt := by rw [bits_less, bits_bit]; rfl
theorem two_size (s t : ByteArray) (hs : s.size ≤ 5000) (ht : t.size ≤ 5000) : (s ++ ⟨#[59]⟩ ++ t).size ≤ 1000000000 := by
  rw [ByteArray.size_append, ByteArray.size_append]
  have : (⟨#[59]⟩ : ByteArray).size = 1 := rfl
  omega
theorem around_size (s : ByteArray) (hs : s.size ≤ 5000) : (⟨#[32, 59, 120, 59, 58, 32, 59, 32]⟩ ++ s ++ ⟨#[32, 59, 32, 99, 111, 108, 111, 114, 58, 32, 114, 101, 100, 59]⟩ : ByteArray).size ≤ 1000000000 := by
  rw [ByteArray.size_append, ByteArray.size_append]
  have h1 : (⟨#[32, 59, 120, 59, 58, 32, 59, 32]⟩ : ByteArray).size = 8 := rfl
  have h2 : (⟨#[32, 59, 32, 99, 111, 108, 111, 114, 58, 32, 114, 101, 100, 59]⟩ : ByteArray).size = 14 := rfl
  omega

set_option maxHeartbeats 4000000 in
theorem lawLater_long (s t : ByteArray) (w : World) (hE : Env w) (hs : s.size ≤ 140737488355328) (ht : t.size ≤ 140737488355328) (hl : 5000 < s.size ∨ 5000 < t.size) : Calls Tryd.prog 6 #[.string s, .string t] w fun e w' => e = .returned (.bool true) ∧ Below w.heap.size w w' := by
  have c4 := awake_any
  have hb := Below.refl w.heap.size w
  by_cases h1 : 5000 < s.size
  · clear hl
    replace h1 : (5000 : Int) < (s.size : Int) := by omega
    go_enter Tryd.func6, Tryd.ntmps6
    go_wp2_with (go_at_call 8; ((with_reducible refine (c4 _ (hE.below hb)).mono ?_); rintro e wn ⟨rfl, hbn⟩; replace hb := hb.trans (hbn.mono hb.size)))
    go_ret
    exact ⟨rfl, hb⟩
  · have h2 : (5000 : Int) < (t.size : Int) := by omega
    replace h1 : ¬ (5000 : Int) < (s.size : Int) := by omega
    clear hl
    go_enter Tryd.func6, Tryd.ntmps6
    go_wp2_with (go_at_call 8; ((with_reducible refine (c4 _ (hE.below hb)).mono ?_); rintro e wn ⟨rfl, hbn⟩; replace hb := hb.trans (hbn.mono hb.size)))
    go_ret
    exact ⟨rfl, hb⟩

set_option maxHeartbeats 8000000 in
theorem lawLater_short (s t : ByteArray) (w : World) (hE : Env w) (hs : s.size ≤ 5000) (ht : t.size ≤ 5000) : Calls Tryd.prog 6 #[.string s, .string t] w fun e w' => e = .returned (.bool true) ∧ Below w.heap.size w w' := by
  have c1 := fun w h => parse_any s w (by omega) h
  have c2 := fun w h => parse_any t w (by omega) h
  have c3 := fun w h => parse_any (s ++ ⟨#[59]⟩ ++ t) w (two_size s t hs ht) h
  have c5 := fun w h => parse_any (⟨#[32, 59, 120, 59, 58, 32, 59, 32]⟩ ++ s ++ ⟨#[32, 59, 32, 99, 111, 108, 111, 114, 58, 32, 114, 101, 100, 59]⟩) w (around_size s hs) h
  have c4 := awake_any
  rw [parse_around] at c5
  have hT := tame_parse (s ++ ⟨#[59]⟩ ++ t)
  rw [parse_two] at c3 hT
  obtain ⟨t1, t2⟩ := hT
  dsimp only at t1 t2 c3
  rw [← over_is, ← over_is] at c3
  have q1 := bits_both (overS (parseS s).1 (parseS t).1 (parseS t).2) (overS (parseS s).2 (parseS t).2 (parseS t).1)
  rw [t1] at q1
  have q2 := bits_bit (overS (parseS s).1 (parseS t).1 (parseS t).2) (overS (parseS s).2 (parseS t).2 (parseS t).1)
  have q3 := bits_less (overS (parseS s).1 (parseS t).1 (parseS t).2 ||| overS (parseS s).2 (parseS t).2 (parseS t).1) 15#64
  rw [t2, ← q2] at q3
  rw [← over_is, ← over_is] at q1 q3
  clear t1 t2 q2
  generalize (parseS s).1.toInt = A at *
  generalize (parseS s).2.toInt = B at *
  generalize (parseS t).1.toInt = C at *
  generalize (parseS t).2.toInt = D at *
  replace q1 : bits .and .i64 (bits .or .i64 (bits .andNot .i64 A D) C) (bits .or .i64 (bits .andNot .i64 B C) D) = 0 := q1
  replace q3 : bits .andNot .i64 (bits .or .i64 (bits .or .i64 (bits .andNot .i64 A D) C) (bits .or .i64 (bits .andNot .i64 B C) D)) 15 = 0 := q3
  obtain ⟨X, hX⟩ : ∃ X, bits .or .i64 (bits .andNot .i64 A D) C = X := ⟨_, rfl⟩
  obtain ⟨Y, hY⟩ : ∃ Y, bits .or .i64 (bits .andNot .i64 B C) D = Y := ⟨_, rfl⟩
  rw [hX, hY] at c3 q1 q3
  have hb := Below.refl w.heap.size w
  have h1 : ¬ (5000 : Int) < (s.size : Int) := by omega
  have h2 : ¬ (5000 : Int) < (t.size : Int) := by omega
  go_enter Tryd.func6, Tryd.ntmps6
  go_wp2_with (first
    | (go_at_call 9; first
        | ((with_reducible refine (c1 _ (hE.below hb)).mono ?_); rintro e wn ⟨rfl, hbn⟩; replace hb := hb.trans (hbn.mono hb.size))
        | ((with_reducible refine (c2 _ (hE.below hb)).mono ?_); rintro e wn ⟨rfl, hbn⟩; replace hb := hb.trans (hbn.mono hb.size))
        | ((with_reducible refine (c3 _ (hE.below hb)).mono ?_); rintro e wn ⟨rfl, hbn⟩; replace hb := hb.trans (hbn.mono hb.size))
        | ((with_reducible refine (c5 _ (hE.below hb)).mono ?_); rintro e wn ⟨rfl, hbn⟩; replace hb := hb.trans (hbn.mono hb.size)))
    | (go_at_call 8; ((with_reducible refine (c4 _ (hE.below hb)).mono ?_); rintro e wn ⟨rfl, hbn⟩; replace hb := hb.trans (hbn.mono hb.size))))
  go_ret
  exact ⟨rfl, hb⟩

theorem lawLater_walk (s t : ByteArray) (w : World) (hE : Env w) (hs : s.size ≤ 140737488355328) (ht : t.size ≤ 140737488355328) : Calls Tryd.prog 6 #[.string s, .string t] w fun e w' => e = .returned (.bool true) ∧ Below w.heap.size w w' := by
  by_cases h : s.size ≤ 5000 ∧ t.size ≤ 5000
  · exact lawLater_short s t w hE h.1 h.2
  · exact lawLater_long s t w hE hs ht (by omega)

end Go.Proofs.YthoinlapopongaaDoor
