/-
  Print, and the document's Print.
-/
import Derived.Test.YthoinlapopongaaDoorWalksI
import Derived.BigGuardPart
namespace Go.Proofs.YthoinlapopongaaDoor
open Go.RowKit Go.Lib

theorem cast_zero_iff (n : Nat) : ((n : Nat) : Int) = 0 ↔ n = 0 := by omega
theorem part_is (x y : Int) (t : Nat) (ht : t < 16) (p u : ByteArray) : partS x y (t : Int) p u = partN (low x) (low y) t p u := by
  unfold partS partN
  rw [and_low _ t ht, low_or]
  by_cases h : (low x ||| low y) &&& t = 0
  · rw [if_pos h, if_pos (by rw [h]; rfl)]
  · rw [if_neg h, if_neg (by rw [cast_zero_iff]; exact h)]
theorem one_is (n : Nat) (word : ByteArray) : ofOne (n : Int) word = ofOneN n word := by
  unfold ofOne ofOneN
  by_cases h : n = 0
  · rw [if_pos h, if_pos (by rw [h]; rfl)]
  · rw [if_neg h, if_neg (by omega)]
theorem strokes_is (n : Nat) : ofStrokes (n : Int) = ofStrokesN n := by
  unfold ofStrokes ofStrokesN
  have e4 : ((n : Int) = 4) ↔ n = 4 := by omega
  have e8 : ((n : Int) = 8) ↔ n = 8 := by omega
  have e12 : ((n : Int) = 12) ↔ n = 12 := by omega
  simp only [e4, e8, e12]
def listS (x y : Int) : List ByteArray := partS x y 1 kWeight (ofOne (bits .and .i64 x 1) kBold) ++ partS x y 2 kStyle (ofOne (bits .and .i64 x 2) kItalic) ++ partS x y 12 kDeco (ofStrokes (bits .and .i64 x 12))
theorem list_is (x y : Int) : listS x y = listN (low x) (low y) := by
  unfold listS listN
  have p1 : ∀ p u, partS x y 1 p u = partN (low x) (low y) 1 p u := part_is x y 1 (by decide)
  have p2 : ∀ p u, partS x y 2 p u = partN (low x) (low y) 2 p u := part_is x y 2 (by decide)
  have p3 : ∀ p u, partS x y 12 p u = partN (low x) (low y) 12 p u := part_is x y 12 (by decide)
  have a1 : bits .and .i64 x 1 = ((low x &&& 1 : Nat) : Int) := and_low x 1 (by decide)
  have a2 : bits .and .i64 x 2 = ((low x &&& 2 : Nat) : Int) := and_low x 2 (by decide)
  have a3 : bits .and .i64 x 12 = ((low x &&& 12 : Nat) : Int) := and_low x 12 (by decide)
  have o1 := one_is (low x &&& 1) kBold
  have o2 := one_is (low x &&& 2) kItalic
  have o3 := strokes_is (low x &&& 12)
  rw [p1, p2, p3, a1, a2, a3, o1, o2, o3]
theorem partS_len (x y t : Int) (p u : ByteArray) : (partS x y t p u).length ≤ 1 := by unfold partS; split <;> simp
theorem ofOne_small (x : Int) (word : ByteArray) (h : word.size ≤ 1000) : (ofOne x word).size ≤ 1000 := by
  unfold ofOne; split
  · decide
  · exact h
theorem ofStrokes_small (x : Int) : (ofStrokes x).size ≤ 1000 := by
  unfold ofStrokes
  repeat' split
  all_goals decide

set_option maxHeartbeats 4000000 in
theorem print_any (x y : Int) (w : World) :
    Calls Tryd.prog 11 #[.int .i64 x, .int .i64 y] w fun e w' => e = .returned (.string (printN (low x) (low y))) ∧ Below w.heap.size w w' := by
  have hlist := list_is x y
  have hlen := listN_small ⟨low x, low_lt x⟩ ⟨low y, low_lt y⟩
  dsimp only at hlen
  have hfin : printN (low x) (low y) = ⟨(Lib.join ((listS x y).map (·.data.toList)) [59, 32]).toArray⟩ := by rw [hlist]; rfl
  rw [← hlist] at hlen
  have hll : (listS x y).length ≤ 1000 := by
    have h1 := partS_len x y 1 kWeight (ofOne (bits .and .i64 x 1) kBold)
    have h2 := partS_len x y 2 kStyle (ofOne (bits .and .i64 x 2) kItalic)
    have h3 := partS_len x y 12 kDeco (ofStrokes (bits .and .i64 x 12))
    unfold listS; simp only [List.length_append]; omega
  rw [hfin]
  have HL := Lib.hid hlen
  have HLL := Lib.hid hll
  clear hlist hlen hfin hll
  have cO := fun s u w => ofOne_any s u w
  have cS := fun s w => ofStrokes_any s w
  obtain ⟨n1, n2⟩ := new_cell w (.int .i64 x) 3
  obtain ⟨m1, m2⟩ := new_cell (w.alloc (.cells #[.int .i64 x] 3)) (.int .i64 y) 3
  obtain ⟨k1, k2⟩ := new_cell ((w.alloc (.cells #[.int .i64 x] 3)).alloc (.cells #[.int .i64 y] 3)) (.slice none 0 0) 37
  rw [World.size_alloc] at m1 m2
  rw [World.size_alloc, World.size_alloc] at k1 k2
  have h0 : ThreeAt w.heap.size x y [] (((w.alloc (.cells #[.int .i64 x] 3)).alloc (.cells #[.int .i64 y] 3)).alloc (.cells #[.slice none 0 0] 37)) :=
    ⟨.slice none 0 0, old_cell _ (old_cell _ n1), old_cell _ m1, k1, k2, World.ownsRow_nil _ _ _ _⟩
  clear n2 m2 k1 k2
  have hb : Below w.heap.size w (((w.alloc (.cells #[.int .i64 x] 3)).alloc (.cells #[.int .i64 y] 3)).alloc (.cells #[.slice none 0 0] 37)) :=
    (((Below.refl _ w).alloc (Nat.le_refl _) _).alloc (by simp) _).alloc (by simp; omega) _
  have H0 := Lib.hid h0
  have c0 := old_cell (.cells #[.slice none 0 0] 37) (old_cell (.cells #[.int .i64 y] 3) n1)
  clear h0 m1 n1
  go_enter Tryd.func11, Tryd.ntmps11
  go_wp2_with (go_at_call 21; ((with_reducible refine (cO _ _ _).mono ?_); rintro e w1 ⟨rfl, rfl⟩))
  refine (put_any w.heap.size x y 1 kWeight (ofOne (bits .and .i64 x 1) kBold) [] _ H0.out (by decide) (ofOne_small _ _ (by decide)) (by decide)).mono ?_
  rintro e w1 ⟨⟨r1, rfl⟩, ht1, hb1⟩
  have H1 := Lib.hid ht1
  obtain ⟨v1, t1⟩ := ht1
  have c1 := t1.c1
  clear t1
  go_wp2_with (go_at_call 21; ((with_reducible refine (cO _ _ _).mono ?_); rintro e wn ⟨rfl, rfl⟩))
  refine (put_any w.heap.size x y 2 kStyle (ofOne (bits .and .i64 x 2) kItalic) _ _ H1.out (by decide) (ofOne_small _ _ (by decide)) (by have := partS_len x y 1 kWeight (ofOne (bits .and .i64 x 1) kBold); simp only [List.length_append, List.length_nil]; omega)).mono ?_
  rintro e w2 ⟨⟨r2, rfl⟩, ht2, hb2⟩
  have H2 := Lib.hid ht2
  obtain ⟨v2, t2⟩ := ht2
  have c2 := t2.c1
  clear t2 c1 H1
  go_wp2_with (go_at_call 22; ((with_reducible refine (cS _ _).mono ?_); rintro e wn ⟨rfl, rfl⟩))
  refine (put_any w.heap.size x y 12 kDeco (ofStrokes (bits .and .i64 x 12)) _ _ H2.out (by decide) (ofStrokes_small _) (by have := partS_len x y 1 kWeight (ofOne (bits .and .i64 x 1) kBold); have := partS_len x y 2 kStyle (ofOne (bits .and .i64 x 2) kItalic); simp only [List.length_append, List.length_nil]; omega)).mono ?_
  rintro e w3 ⟨⟨r3, rfl⟩, ⟨v3, t3⟩, hb3⟩
  have e3 : ([] ++ partS x y 1 kWeight (ofOne (bits .and .i64 x 1) kBold) ++ partS x y 2 kStyle (ofOne (bits .and .i64 x 2) kItalic) ++ partS x y 12 kDeco (ofStrokes (bits .and .i64 x 12))) = listS x y := by unfold listS; rw [List.nil_append]
  rw [e3] at t3
  have c3 : w3.cell? ⟨w.heap.size + 1 + 1, 0, none⟩ = some v3 := t3.c3
  have hj := joined_any w.heap.size x y v3 _ w3 t3 HLL.out HL.out
  obtain ⟨J, hJ⟩ : ∃ J : ByteArray, ⟨(Lib.join ((listS x y).map (·.data.toList)) [59, 32]).toArray⟩ = J := ⟨_, rfl⟩
  rw [hJ] at hj
  have HJ := Lib.hid hJ
  clear hJ
  replace hb := ((hb.trans hb1).trans hb2).trans hb3
  clear e3 c2 H2 H0 c0 t3 cO cS
  go_wp2_with (go_at_call 23; ((with_reducible refine hj.mono ?_); rintro e w4 ⟨rfl, hb4⟩))
  go_ret
  exact ⟨by rw [HJ.out]; rfl, hb.trans (hb4.mono hb.size)⟩

/-! ### The document's -/
theorem ba_ne {a : ByteArray} (h : a ≠ ⟨#[]⟩) : (a.toList == []) = false ∧ a.toList.isEmpty = false ∧ ¬ a.toList = [] := by
  have h2 : ¬ a.toList = [] := by
    intro e
    rw [toList_data] at e
    exact h (bytes_list (by rw [e]))
  refine ⟨?_, ?_, h2⟩
  · rw [beq_eq_false_iff_ne]; exact h2
  · rw [List.isEmpty_eq_false_iff]; exact h2
theorem rjoin_any (a b : ByteArray) (w : World) (ha : a.size ≤ 1000) (hb : b.size ≤ 1000) :
    Calls Tryd.prog 24 #[.string a, .string b] w fun e w' => e = .returned (.string (joinR a b)) ∧ w = w' := by
  unfold joinR
  by_cases h1 : a = ⟨#[]⟩
  · rw [if_pos (.inl h1)]
    subst h1
    go_enter Tryd.func24, Tryd.ntmps24
    go_wp2
    go_ret
    exact ⟨rfl, rfl⟩
  · obtain ⟨k1, k2, k3⟩ := ba_ne h1
    by_cases h2 : b = ⟨#[]⟩
    · rw [if_pos (.inr h2)]
      subst h2
      go_enter Tryd.func24, Tryd.ntmps24
      go_wp2
      go_ret
      exact ⟨rfl, rfl⟩
    · rw [if_neg (fun h => h.elim h1 h2)]
      obtain ⟨m1, m2, m3⟩ := ba_ne h2
      clear h1 h2
      go_enter Tryd.func24, Tryd.ntmps24
      go_wp2
      go_ret
      exact ⟨rfl, rfl⟩

theorem pieces_small : ∀ a b : Fin 16, (weightR a.val b.val).size ≤ 300 ∧ (styleR a.val b.val).size ≤ 300 ∧ (decoR a.val b.val).size ≤ 300 := by decide +kernel
theorem joinR_small (a b : ByteArray) : (joinR a b).size ≤ a.size + b.size + 2 := by
  unfold joinR
  split <;> simp [ByteArray.size_append] <;> (try (show _ + 2 + _ ≤ _)) <;> omega

theorem piece0 : pieceS kWeight kBold = ⟨#[102, 111, 110, 116, 45, 119, 101, 105, 103, 104, 116, 58, 32, 98, 111, 108, 100]⟩ := by decide +kernel
theorem piece1 : pieceS kWeight kNormal = ⟨#[102, 111, 110, 116, 45, 119, 101, 105, 103, 104, 116, 58, 32, 110, 111, 114, 109, 97, 108]⟩ := by decide +kernel
theorem piece2 : pieceS kStyle kItalic = ⟨#[102, 111, 110, 116, 45, 115, 116, 121, 108, 101, 58, 32, 105, 116, 97, 108, 105, 99]⟩ := by decide +kernel
theorem piece3 : pieceS kStyle kNormal = ⟨#[102, 111, 110, 116, 45, 115, 116, 121, 108, 101, 58, 32, 110, 111, 114, 109, 97, 108]⟩ := by decide +kernel
theorem piece4 : pieceS kDeco kUnder = ⟨#[116, 101, 120, 116, 45, 100, 101, 99, 111, 114, 97, 116, 105, 111, 110, 58, 32, 117, 110, 100, 101, 114, 108, 105, 110, 101]⟩ := by decide +kernel
theorem piece5 : pieceS kDeco kThrough = ⟨#[116, 101, 120, 116, 45, 100, 101, 99, 111, 114, 97, 116, 105, 111, 110, 58, 32, 108, 105, 110, 101, 45, 116, 104, 114, 111, 117, 103, 104]⟩ := by decide +kernel
theorem piece6 : pieceS kDeco kBoth = ⟨#[116, 101, 120, 116, 45, 100, 101, 99, 111, 114, 97, 116, 105, 111, 110, 58, 32, 117, 110, 100, 101, 114, 108, 105, 110, 101, 32, 108, 105, 110, 101, 45, 116, 104, 114, 111, 117, 103, 104]⟩ := by decide +kernel
theorem piece7 : pieceS kDeco kNone = ⟨#[116, 101, 120, 116, 45, 100, 101, 99, 111, 114, 97, 116, 105, 111, 110, 58, 32, 110, 111, 110, 101]⟩ := by decide +kernel

set_option maxHeartbeats 16000000 in
theorem rprint_any (x y : Int) (w : World) :
    Calls Tryd.prog 12 #[.int .i64 x, .int .i64 y] w fun e w' => e = .returned (.string (printN (low x) (low y))) ∧ w = w' := by
  rw [print_is (low_lt x) (low_lt y)]
  obtain ⟨z1, z2, z3⟩ := pieces_small ⟨low x, low_lt x⟩ ⟨low y, low_lt y⟩
  have z4 := joinR_small (weightR (low x) (low y)) (styleR (low x) (low y))
  dsimp only at z1 z2 z3
  have j1 := rjoin_any (weightR (low x) (low y)) (styleR (low x) (low y)) w (by omega) (by omega)
  have j2 := rjoin_any (joinR (weightR (low x) (low y)) (styleR (low x) (low y))) (decoR (low x) (low y)) w (by omega) (by omega)
  have hfin : printR (low x) (low y) = joinR (joinR (weightR (low x) (low y)) (styleR (low x) (low y))) (decoR (low x) (low y)) := rfl
  rw [hfin]
  clear hfin z1 z2 z3 z4
  have a1 : bits .and .i64 x 1 = ((low x &&& 1 : Nat) : Int) := and_low x 1 (by decide)
  have a2 : bits .and .i64 x 2 = ((low x &&& 2 : Nat) : Int) := and_low x 2 (by decide)
  have a3 : bits .and .i64 x 12 = ((low x &&& 12 : Nat) : Int) := and_low x 12 (by decide)
  have b1 : bits .and .i64 y 1 = ((low y &&& 1 : Nat) : Int) := and_low y 1 (by decide)
  have b2 : bits .and .i64 y 2 = ((low y &&& 2 : Nat) : Int) := and_low y 2 (by decide)
  have b3 : bits .and .i64 y 12 = ((low y &&& 12 : Nat) : Int) := and_low y 12 (by decide)
  have l1 := low_one ⟨low x, low_lt x⟩
  have l2 := low_two ⟨low x, low_lt x⟩
  have l3 := low_twelve ⟨low x, low_lt x⟩
  have k1 := low_one ⟨low y, low_lt y⟩
  have k2 := low_two ⟨low y, low_lt y⟩
  have k3 := low_twelve ⟨low y, low_lt y⟩
  dsimp only at l1 l2 l3 k1 k2 k3
  have W : (weightR (low x) (low y) = pieceS kWeight kBold ∧ bits .and .i64 x 1 = 1) ∨ (weightR (low x) (low y) = pieceS kWeight kNormal ∧ bits .and .i64 x 1 = 0 ∧ bits .and .i64 y 1 = 1) ∨ (weightR (low x) (low y) = ⟨#[]⟩ ∧ bits .and .i64 x 1 = 0 ∧ bits .and .i64 y 1 = 0) := by
    unfold weightR; rw [a1, b1]
    rcases l1 with h | h <;> rcases k1 with k | k <;> rw [h, k] <;> simp
  have S : (styleR (low x) (low y) = pieceS kStyle kItalic ∧ bits .and .i64 x 2 = 2) ∨ (styleR (low x) (low y) = pieceS kStyle kNormal ∧ bits .and .i64 x 2 = 0 ∧ bits .and .i64 y 2 = 2) ∨ (styleR (low x) (low y) = ⟨#[]⟩ ∧ bits .and .i64 x 2 = 0 ∧ bits .and .i64 y 2 = 0) := by
    unfold styleR; rw [a2, b2]
    rcases l2 with h | h <;> rcases k2 with k | k <;> rw [h, k] <;> simp
  have D : (decoR (low x) (low y) = pieceS kDeco kUnder ∧ bits .and .i64 x 12 = 4) ∨ (decoR (low x) (low y) = pieceS kDeco kThrough ∧ bits .and .i64 x 12 = 8) ∨ (decoR (low x) (low y) = pieceS kDeco kBoth ∧ bits .and .i64 x 12 = 12) ∨
      (decoR (low x) (low y) = pieceS kDeco kNone ∧ bits .and .i64 x 12 = 0 ∧ (bits .and .i64 y 12 != 0) = true) ∨ (decoR (low x) (low y) = ⟨#[]⟩ ∧ bits .and .i64 x 12 = 0 ∧ (bits .and .i64 y 12 != 0) = false) := by
    unfold decoR; rw [a3, b3]
    rcases l3 with h | h | h | h <;> rcases k3 with k | k | k | k <;> rw [h, k] <;> simp
  clear a1 a2 a3 b1 b2 b3 l1 l2 l3 k1 k2 k3
  rw [piece0, piece1] at W
  rw [piece2, piece3] at S
  rw [piece4, piece5, piece6, piece7] at D
  generalize weightR (low x) (low y) = W0 at *
  generalize styleR (low x) (low y) = S0 at *
  generalize decoR (low x) (low y) = D0 at *
  rcases W with ⟨rfl, hx1⟩ | ⟨rfl, hx1, hy1⟩ | ⟨rfl, hx1, hy1⟩ <;> rcases S with ⟨rfl, hx2⟩ | ⟨rfl, hx2, hy2⟩ | ⟨rfl, hx2, hy2⟩ <;> rcases D with ⟨rfl, hx3⟩ | ⟨rfl, hx3⟩ | ⟨rfl, hx3⟩ | ⟨rfl, hx3, hy3⟩ | ⟨rfl, hx3, hy3⟩
  all_goals
    go_enter Tryd.func12, Tryd.ntmps12
    go_wp2_with (go_at_call 24; first
      | ((with_reducible refine j1.mono ?_); rintro e w1 ⟨rfl, rfl⟩)
      | ((with_reducible refine j2.mono ?_); rintro e w1 ⟨rfl, rfl⟩))
    go_ret
    exact ⟨rfl, rfl⟩

end Go.Proofs.YthoinlapopongaaDoor
