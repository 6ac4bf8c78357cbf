/-
  Appending a row to a row of one's own; Go's Grow and Concat at rows of cells.
  Appending ints to a row of one's own; Go's Grow and Concat at slices of ints; parts of them.
  May a line be: the program's upTo, mayLists, mayKind.
  The document's Own.
-/
import Derived.Test.YtafincmcmgedbaaGreatDoorCRow
import Derived.Test.YtafincmcmgedbaaGreatDoorShelf
import Derived.Laws.AppendOwnNone
import Derived.OwnWalk
import Derived.Deep.Onto

namespace Go.Proofs.YtafincmcmgedbaaGreatDoor
open Go.RowKit Go.Lib

theorem own_app {w : World} {B : Nat} {v : Value} {l m : Row} {n k : Nat} (h : w.ownsRow B 66 3 v (n + k) (cellsR l ++ cellsR m)) (hn : l.length = n) (hk : m.length = k) : w.ownsRow B 66 3 v (l ++ m).length (cellsR (l ++ m)) := by
  subst hn hk
  rw [List.length_append, cellsR_append]
  exact h
theorem grownBy_refl (w : World) (r : Option Nat) : w.grownBy w r := ⟨rfl, rfl, rfl, Nat.le_refl _, fun _ _ _ => rfl⟩

/-- **append(s, m..)**: s a row of one's own, m a row. -/
theorem wpList_append_row {ops : Array Oper} {rest : List Oper} {o : Oper} {a : Act} {Q : Exit → Act → World → Prop} {w : World} (hgd : o.guard = none) (s x : Operand)
    (ho : o.op = .call { callee := .builtin .append, args := #[s, x], argTypes := #[43, 43] })
    (base : Nat) (v : Value) (l : Row) (hs : a.eval s = v) (hown : w.ownsRow base 66 3 v l.length (cellsR l)) (u : Value) (m : Row) (hx : a.eval x = u) (hu : RowAt w u m)
    (hb : l.length + m.length ≤ 1000000) (hbase : base ≤ w.heap.size)
    (h : ∀ v' w', w'.ownsRow base 66 3 v' (l ++ m).length (cellsR (l ++ m)) → w.grownBy w' v.ownBlock → wpList Tryz.prog ops Q rest (a.put o.dst v') w') : wpList Tryz.prog ops Q (o :: rest) a w := by
  obtain ⟨i0, hi, hz0, hz1, hz2⟩ := info_parts infoCell
  rcases hu with ⟨ad, c, rfl, hac, _, rfl⟩ | ⟨b, o1, c, rfl, hlc, hcm, hbb, hcs⟩
  · cases ad with
    | none =>
      obtain rfl := hac rfl
      refine wpList_append_own_none hgd s x 43 ho base 66 i0 3 Tryz.underlying43 hi v _ _ hs hown hx (h v w ?_ (grownBy_refl _ _))
      simpa using hown
    | some ad =>
      refine wpList_append_own _ hgd s x 43 ho base 66 i0 _ 3 32 Tryz.underlying43 hi hz0 hz1 hz2 rfl (by decide) v _ _ hs hown ad 0 c [] hx rfl (by simp) (by simp) (by unfold maxLen; omega) (by omega) hbase (fun v' w' h1 h2 _ => h v' w' ?_ h2)
      simpa using h1
  · refine wpList_append_own _ hgd s x 43 ho base 66 i0 _ 3 32 Tryz.underlying43 hi hz0 hz1 hz2 rfl (by decide) v _ _ hs hown ⟨b, o1, none⟩ m.length c (cellsR m) hx (cellsR_length m) hcs.addF (cellsR_one m) (by unfold maxLen; omega) (by omega) hbase (fun v' w' h1 h2 _ => h v' w' (own_app h1 rfl rfl) h2)

theorem grow_any (n : Nat) (w : World) (hn : n ≤ 200000) :
    Calls Tryz.prog 110 #[.slice none 0 0, .int .i64 n] w (OwnPost [] w) := by
  by_cases h0 : n = 0
  · subst h0
    refine (Any8.slices_Grow_room Tryz.laysGrow none 0 0 0 w (by omega) (by omega) (by omega) (by omega)).mono ?_
    rintro e w' ⟨rfl, rfl⟩
    exact ⟨_, rfl, World.ownsRow_nil _ _ _ _, Below.refl _ _⟩
  · obtain ⟨i0, hi, hz0, hz1, hz2⟩ := info_parts infoCell
    refine (Any8.slices_Grow_grow Tryz.laysGrow i0 _ hi hz0 (by rw [hz1]; decide) none 0 0 n [] w (by omega) (by omega) (by rw [hz2]; omega) (by omega) (by simp) (fun _ => rfl) (fun a h => by cases h)).mono ?_
    rintro e w' ⟨rfl, rfl⟩
    have h1 := grownCap_ge w (0 + n) 0 66
    have h2 := grownCap_le_maxLen w (0 + n) 0 66 (by unfold maxLen; omega)
    refine ⟨_, rfl, World.ownsRow_made w.drew _ _ (Nat.le_refl _) h2 ?_, ((Below.refl _ w).drew).alloc (Nat.le_refl _) _⟩
    rw [Array.size_append, Array.size_append, size_zeroCells, size_zeroCells]
    show 0 + (0 + n - 0) * 3 + (grownCap w (0 + n) 0 66 - (0 + n)) * 3 = grownCap w (0 + n) 0 66 * 3
    omega

/-- Some rows, one behind the other. -/
def flatR (rs : List (Value × Row)) : Row := rs.flatMap (·.2)
/-- They lie in block g. -/
def RowsAt (w : World) (g : Nat) (rs : List (Value × Row)) : Prop := ∀ j, j < rs.length → w.cell? ⟨g, j, none⟩ = some (rs[j]!).1 ∧ RowAt w (rs[j]!).1 (rs[j]!).2
theorem RowsAt.below {w w' : World} {g : Nat} {rs : List (Value × Row)} (h : RowsAt w g rs) (hb : Below w.heap.size w w') : RowsAt w' g rs := fun j hj =>
  ⟨(hb.cell (p := ⟨g, j, none⟩) (lt_of_cell' (h j hj).1)).trans (h j hj).1, (h j hj).2.below hb⟩
theorem take_next {α : Type} [Inhabited α] {l : List α} {k : Nat} (h : k < l.length) : l.take (k + 1) = l.take k ++ [l[k]!] := by
  rw [List.take_succ_eq_append_getElem h, List.getElem!_eq_getElem?_getD, List.getElem?_eq_getElem h]; rfl
theorem flatR_next {rs : List (Value × Row)} {k : Nat} (h : k < rs.length) : flatR (rs.take (k + 1)) = flatR (rs.take k) ++ (rs[k]!).2 := by
  unfold flatR
  rw [take_next h, List.flatMap_append]
  simp
theorem flatR_le (rs : List (Value × Row)) (k : Nat) : (flatR (rs.take k)).length ≤ (flatR rs).length := by
  have : flatR rs = flatR (rs.take k) ++ flatR (rs.drop k) := by unfold flatR; rw [← List.flatMap_append, List.take_append_drop]
  rw [this, List.length_append]
  omega

set_option maxHeartbeats 8000000 in
theorem concat_any (g : Nat) (rs : List (Value × Row)) (w : World) (hr : RowsAt w g rs) (hl : (flatR rs).length ≤ 100000) (hn : rs.length ≤ 10) :
    Calls Tryz.prog 77 #[.slice (some ⟨g, 0, none⟩) rs.length rs.length] w (OwnPost (flatR rs) w) := by
  have R := Lib.hid hr
  clear hr
  obtain ⟨T, hT⟩ : ∃ T, (flatR rs).length = T := ⟨_, rfl⟩
  rw [hT] at hl
  have cG := grow_any T w (by omega)
  obtain ⟨N, hN⟩ : ∃ N, rs.length = N := ⟨_, rfl⟩
  rw [hN] at hn ⊢
  have HN := Lib.hid hN
  have HT := Lib.hid hT
  clear hN hT
  go_enter Tryz.func77, Tryz.ntmps77
  go_wp2
  go_loop [3, 5, 11] (fun s v5 i => ∃ (k n : Nat), k ≤ N ∧ n ≤ T ∧ i = .int .i64 k ∧ s = .int .i64 n ∧ Hid ((flatR (rs.take k)).length = n)) (fun _ _ i => N - (RowKit.intOf i).toNat)
  case atStart => exact ⟨0, 0, Nat.zero_le _, Nat.zero_le _, rfl, rfl, Lib.hid (by simp [flatR])⟩
  case round =>
    obtain ⟨k, n, hk, hnT, rfl, rfl, hkn⟩ := hrel
    by_cases hlt : k < N
    · have hk2 : k < rs.length := by rw [HN.out]; exact hlt
      obtain ⟨hc, hro⟩ := R.out k hk2
      obtain ⟨a, c, ev⟩ := hro.len
      rw [ev] at hc
      have hnx := congrArg List.length (flatR_next hk2)
      rw [List.length_append, hkn.out] at hnx
      have hle := flatR_le rs (k + 1)
      rw [HT.out] at hle
      obtain ⟨m, hm⟩ : ∃ m, (rs[k]!).2.length = m := ⟨_, rfl⟩
      rw [hm] at hc hnx
      rw [hnx] at hle
      have HX := Lib.hid hnx
      clear hnx hm ev hro hkn hk2
      go_wp2
      go_round
      case rel => exact ⟨k + 1, n + m, hlt, hle, by go_num, by go_num, HX⟩
      case measure => simp [RowKit.intOf]; omega
    · have hkN : k = N := by omega
      subst hkN
      have hnT2 : n = T := by
        have := hkn.out
        rw [List.take_of_length_le (by rw [HN.out]; omega), HT.out] at this
        exact this.symm
      subst hnT2
      clear hkn hlt
      go_wp2_with (go_at_call 110; ((with_reducible refine cG.mono ?_); rintro e w1 ⟨v0, rfl, hown0, hb0⟩))
      have hz := hb0.size
      clear cG
      go_loopw [6, 8, 27] (fun v s8 i wr => ∃ (j : Nat) (l : Row), j ≤ k ∧ i = .int .i64 j ∧ Hid (flatR (rs.take j) = l) ∧ wr.ownsRow w.heap.size 66 3 v l.length (cellsR l) ∧ Below w.heap.size w wr) (fun _ _ i _ => k - (RowKit.intOf i).toNat)
      case atStart => exact ⟨0, [], Nat.zero_le _, rfl, Lib.hid (by simp [flatR]), hown0, hb0⟩
      case round =>
        obtain ⟨j, l, hj, rfl, hjl, hown, hb⟩ := hrel
        have hsz := hb.size
        by_cases hlt : j < k
        · have hj2 : j < rs.length := by rw [HN.out]; exact hlt
          obtain ⟨hc, hro⟩ := (R.out.below hb) j hj2
          obtain ⟨u, hu⟩ : ∃ u, (rs[j]!).1 = u := ⟨_, rfl⟩
          rw [hu] at hc hro
          have hnx := flatR_next hj2
          rw [hjl.out] at hnx
          have hle := flatR_le rs (j + 1)
          rw [HT.out, hnx, List.length_append] at hle
          obtain ⟨m, hm⟩ : ∃ m, (rs[j]!).2 = m := ⟨_, rfl⟩
          rw [hm] at hro hnx hle
          have HX := Lib.hid hnx
          have HO := Lib.hid hro
          clear hnx hm hu hjl hro hj2
          go_wp2_with (at_builtin; refine wpList_append_row rfl _ _ rfl w.heap.size _ l rfl hown u m rfl HO.out (by omega) hsz ?_; intro v' w2 hown' hgrow)
          go_roundw
          case rel => exact ⟨j + 1, _, hlt, by go_num, HX, hown', below_grown hb hsz hown hgrow⟩
          case measure => simp [RowKit.intOf]; omega
        · have hjk : j = k := by omega
          subst hjk
          have hl2 : flatR rs = l := by rw [← hjl.out, List.take_of_length_le (by rw [HN.out]; omega)]
          have HL := Lib.hid hl2
          clear hl2 hjl
          go_wp2
          go_ret
          rw [HL.out]
          exact ⟨_, rfl, hown, hb⟩

/-- One, two, three rows in a slice that was just made. -/
theorem concat1 (g : Nat) (v1 : Value) (l1 : Row) (w : World) (c1 : w.cell? ⟨g, 0, none⟩ = some v1) (h1 : RowAt w v1 l1) (hl : l1.length ≤ 100000) :
    Calls Tryz.prog 77 #[.slice (some ⟨g, 0, none⟩) 1 1] w (OwnPost l1 w) := by
  have h := concat_any g [(v1, l1)] w (fun j hj => ?_) (by simpa [flatR] using hl) (by simp)
  · have e : flatR [(v1, l1)] = l1 := by simp [flatR]
    rw [e] at h
    exact h
  · match j, hj with
    | 0, _ => exact ⟨c1, h1⟩
theorem concat2 (g : Nat) (v1 v2 : Value) (l1 l2 : Row) (w : World) (c1 : w.cell? ⟨g, 0, none⟩ = some v1) (c2 : w.cell? ⟨g, 1, none⟩ = some v2) (h1 : RowAt w v1 l1) (h2 : RowAt w v2 l2) (hl : l1.length + l2.length ≤ 100000) :
    Calls Tryz.prog 77 #[.slice (some ⟨g, 0, none⟩) 2 2] w (OwnPost (l1 ++ l2) w) := by
  have h := concat_any g [(v1, l1), (v2, l2)] w (fun j hj => ?_) (by simpa [flatR] using hl) (by simp)
  · have e : flatR [(v1, l1), (v2, l2)] = l1 ++ l2 := by simp [flatR]
    rw [e] at h
    exact h
  · match j, hj with
    | 0, _ => exact ⟨c1, h1⟩
    | 1, _ => exact ⟨c2, h2⟩
theorem concat3 (g : Nat) (v1 v2 v3 : Value) (l1 l2 l3 : Row) (w : World) (c1 : w.cell? ⟨g, 0, none⟩ = some v1) (c2 : w.cell? ⟨g, 1, none⟩ = some v2) (c3 : w.cell? ⟨g, 2, none⟩ = some v3) (h1 : RowAt w v1 l1) (h2 : RowAt w v2 l2) (h3 : RowAt w v3 l3) (hl : l1.length + l2.length + l3.length ≤ 100000) :
    Calls Tryz.prog 77 #[.slice (some ⟨g, 0, none⟩) 3 3] w (OwnPost (l1 ++ l2 ++ l3) w) := by
  have h := concat_any g [(v1, l1), (v2, l2), (v3, l3)] w (fun j hj => ?_) (by simp [flatR]; omega) (by simp)
  · have e : flatR [(v1, l1), (v2, l2), (v3, l3)] = l1 ++ l2 ++ l3 := by simp [flatR]
    rw [e] at h
    exact h
  · match j, hj with
    | 0, _ => exact ⟨c1, h1⟩
    | 1, _ => exact ⟨c2, h2⟩
    | 2, _ => exact ⟨c3, h3⟩

/-! ### a part of a row -/
theorem slice_lh {w : World} {v : Value} {l : Row} (hv : RowAt w v l) (f t : Nat) (hft : f ≤ t) (ht : t ≤ l.length) :
    ∃ v', RowAt w v' ((l.drop f).take (t - f)) ∧ ∀ W, (Instr.slice 43 v (some (.int .i64 (f : Int))) (some (.int .i64 (t : Int))) none).run Tryz.prog W = .ok v' W := by
  have hel : (Tryz.prog.underlying 43) = some (.slice (Tryz.prog.elem 43)) := by kernel_rfl
  have hsz : ∀ W, (sizeOf (Tryz.prog.elem 43)).run Tryz.prog W = .ok 3 W := fun W => by
    have : Tryz.prog.elem 43 = 66 := by kernel_rfl
    rw [this]; exact Tryz.sizeOf66 W
  have hln : ((l.drop f).take (t - f)).length = t - f := by simp; omega
  rcases hv with ⟨a, c, rfl, hac, hcm, rfl⟩ | ⟨b, o, c, rfl, hlc, hcm, hbb, hcs⟩
  · obtain rfl : t = 0 := by simpa using ht
    obtain rfl : f = 0 := by omega
    refine ⟨sliced a 0 0 c 3, ?_, fun W => ?_⟩
    · refine .inl ⟨_, _, rfl, ?_, by simpa using hcm, by simp⟩
      intro h
      split at h
      · simpa using hac h
      · cases a with
        | none => simpa using hac rfl
        | some a => simp at h
    · rw [run_slice_lh W _ a 0 c hel _ _ _ _ (by omega) (by omega) (by omega), hsz]; rfl
  · refine ⟨sliced (some ⟨b, o, none⟩) f t c 3, ?_, fun W => ?_⟩
    · unfold sliced
      by_cases hcf : c = f
      · rw [if_pos hcf]
        have e0 : t - f = 0 := by omega
        rw [e0]
        exact .inl ⟨_, _, rfl, fun h => (by cases h), by omega, by simp⟩
      · rw [if_neg hcf]
        refine .inr ⟨b, o + f * 3, c - f, by rw [hln]; simp [Addr.add_lit], by omega, by omega, hbb, hcs.part f (t - f) (by omega)⟩
    · rw [run_slice_lh W _ _ l.length c hel _ _ _ _ (by omega) (by omega) (by omega), hsz]; simp [Result.andThen]
theorem slice_h {w : World} {v : Value} {l : Row} (hv : RowAt w v l) (t : Nat) (ht : t ≤ l.length) :
    ∃ v', RowAt w v' (l.take t) ∧ ∀ W, (Instr.slice 43 v none (some (.int .i64 (t : Int))) none).run Tryz.prog W = .ok v' W := by
  obtain ⟨v', h1, h2⟩ := slice_lh hv 0 t (Nat.zero_le _) ht
  refine ⟨v', by simpa using h1, fun W => ?_⟩
  have hel : (Tryz.prog.underlying 43) = some (.slice (Tryz.prog.elem 43)) := by kernel_rfl
  obtain ⟨a, c, rfl, hc1, hc2⟩ := hv.cap
  rw [← h2 W, run_slice_lh W _ a l.length c hel _ _ _ _ (by omega) (by omega) (by omega), run_slice_h W _ a l.length c hel _ _ (by omega) (by omega)]
  rfl
theorem slice_l {w : World} {v : Value} {l : Row} (hv : RowAt w v l) (f : Nat) (hf : f ≤ l.length) :
    ∃ v', RowAt w v' (l.drop f) ∧ ∀ W, (Instr.slice 43 v (some (.int .i64 (f : Int))) none none).run Tryz.prog W = .ok v' W := by
  obtain ⟨v', h1, h2⟩ := slice_lh hv f l.length hf (Nat.le_refl _)
  refine ⟨v', by rw [List.take_of_length_le (by simp)] at h1; exact h1, fun W => ?_⟩
  have hel : (Tryz.prog.underlying 43) = some (.slice (Tryz.prog.elem 43)) := by kernel_rfl
  obtain ⟨a, c, rfl, hc1, hc2⟩ := hv.cap
  rw [← h2 W, run_slice_lh W _ a l.length c hel _ _ _ _ (by omega) (by omega) (by omega), run_slice_l W _ a l.length c hel _ _ (by omega) (by omega)]
  simp

end Go.Proofs.YtafincmcmgedbaaGreatDoor

namespace Go.Proofs.YtafincmcmgedbaaGreatDoor
open Go.RowKit Go.Lib

theorem own_appZ {w : World} {B : Nat} {v : Value} {l m : IRow} {n k : Nat} (h : w.ownsRow B 3 1 v (n + k) (cellsZ l ++ cellsZ m)) (hn : l.length = n) (hk : m.length = k) : w.ownsRow B 3 1 v (l ++ m).length (cellsZ (l ++ m)) := by
  subst hn hk
  rw [List.length_append, cellsZ_append]
  exact h

/-- **append(s, m..)**: s ints of one's own, m ints. -/
theorem wpList_append_ints {ops : Array Oper} {rest : List Oper} {o : Oper} {a : Act} {Q : Exit → Act → World → Prop} {w : World} (hgd : o.guard = none) (s x : Operand)
    (ho : o.op = .call { callee := .builtin .append, args := #[s, x], argTypes := #[44, 44] })
    (base : Nat) (v : Value) (l : IRow) (hs : a.eval s = v) (hown : w.ownsRow base 3 1 v l.length (cellsZ l)) (u : Value) (m : IRow) (hx : a.eval x = u) (hu : IntsAt w u m)
    (hb : l.length + m.length ≤ 1000000) (hbase : base ≤ w.heap.size)
    (h : ∀ v' w', w'.ownsRow base 3 1 v' (l ++ m).length (cellsZ (l ++ m)) → w.grownBy w' v.ownBlock → wpList Tryz.prog ops Q rest (a.put o.dst v') w') : wpList Tryz.prog ops Q (o :: rest) a w := by
  obtain ⟨i0, hi, hz0, hz1, hz2⟩ := info_parts infoInt
  rcases hu with ⟨ad, c, rfl, hac, _, rfl⟩ | ⟨b, o1, c, rfl, hlc, hcm, hbb, hcs⟩
  · cases ad with
    | none =>
      obtain rfl := hac rfl
      refine wpList_append_own_none hgd s x 44 ho base 3 i0 1 Tryz.underlying44 hi v _ _ hs hown hx (h v w ?_ (grownBy_refl _ _))
      simpa using hown
    | some ad =>
      refine wpList_append_own _ hgd s x 44 ho base 3 i0 _ 1 8 Tryz.underlying44 hi hz0 hz1 hz2 rfl (by decide) v _ _ hs hown ad 0 c [] hx rfl (by simp) (by simp) (by unfold maxLen; omega) (by omega) hbase (fun v' w' h1 h2 _ => h v' w' ?_ h2)
      simpa using h1
  · refine wpList_append_own _ hgd s x 44 ho base 3 i0 _ 1 8 Tryz.underlying44 hi hz0 hz1 hz2 rfl (by decide) v _ _ hs hown ⟨b, o1, none⟩ m.length c (cellsZ m) hx (by rw [cellsZ_length, Nat.mul_one]) hcs.addF (cellsZ_one m) (by unfold maxLen; omega) (by omega) hbase (fun v' w' h1 h2 _ => h v' w' (own_appZ h1 rfl rfl) h2)

theorem growZ_any (n : Nat) (w : World) (hn : n ≤ 200000) :
    Calls Tryz.prog 129 #[.slice none 0 0, .int .i64 n] w (OwnPostZ [] w) := by
  by_cases h0 : n = 0
  · subst h0
    refine (Any8.slices_Grow_room Tryz.laysGrowI none 0 0 0 w (by omega) (by omega) (by omega) (by omega)).mono ?_
    rintro e w' ⟨rfl, rfl⟩
    exact ⟨_, rfl, World.ownsRow_nil _ _ _ _, Below.refl _ _⟩
  · obtain ⟨i0, hi, hz0, hz1, hz2⟩ := info_parts infoInt
    refine (Any8.slices_Grow_grow Tryz.laysGrowI i0 _ hi hz0 (by rw [hz1]; decide) none 0 0 n [] w (by omega) (by omega) (by rw [hz2]; omega) (by omega) (by simp) (fun _ => rfl) (fun a h => by cases h)).mono ?_
    rintro e w' ⟨rfl, rfl⟩
    have h1 := grownCap_ge w (0 + n) 0 3
    have h2 := grownCap_le_maxLen w (0 + n) 0 3 (by unfold maxLen; omega)
    refine ⟨_, rfl, World.ownsRow_made w.drew _ _ (Nat.le_refl _) h2 ?_, ((Below.refl _ w).drew).alloc (Nat.le_refl _) _⟩
    rw [Array.size_append, Array.size_append, size_zeroCells, size_zeroCells]
    show 0 + (0 + n - 0) * 1 + (grownCap w (0 + n) 0 3 - (0 + n)) * 1 = grownCap w (0 + n) 0 3 * 1
    omega

/-- Some rows, one behind the other. -/
def flatZ (rs : List (Value × IRow)) : IRow := rs.flatMap (·.2)
/-- They lie in block g. -/
def IntssAt (w : World) (g : Nat) (rs : List (Value × IRow)) : Prop := ∀ j, j < rs.length → w.cell? ⟨g, j, none⟩ = some (rs[j]!).1 ∧ IntsAt w (rs[j]!).1 (rs[j]!).2
theorem IntssAt.below {w w' : World} {g : Nat} {rs : List (Value × IRow)} (h : IntssAt w g rs) (hb : Below w.heap.size w w') : IntssAt w' g rs := fun j hj =>
  ⟨(hb.cell (p := ⟨g, j, none⟩) (lt_of_cell' (h j hj).1)).trans (h j hj).1, (h j hj).2.below hb⟩
theorem flatZ_next {rs : List (Value × IRow)} {k : Nat} (h : k < rs.length) : flatZ (rs.take (k + 1)) = flatZ (rs.take k) ++ (rs[k]!).2 := by
  unfold flatZ
  rw [take_next h, List.flatMap_append]
  simp
theorem flatZ_le (rs : List (Value × IRow)) (k : Nat) : (flatZ (rs.take k)).length ≤ (flatZ rs).length := by
  have : flatZ rs = flatZ (rs.take k) ++ flatZ (rs.drop k) := by unfold flatZ; rw [← List.flatMap_append, List.take_append_drop]
  rw [this, List.length_append]
  omega

set_option maxRecDepth 20000 in
set_option maxHeartbeats 8000000 in
theorem concatZ_any (g : Nat) (rs : List (Value × IRow)) (w : World) (hr : IntssAt w g rs) (hl : (flatZ rs).length ≤ 100000) (hn : rs.length ≤ 10) :
    Calls Tryz.prog 106 #[.slice (some ⟨g, 0, none⟩) rs.length rs.length] w (OwnPostZ (flatZ rs) w) := by
  have R := Lib.hid hr
  clear hr
  obtain ⟨T, hT⟩ : ∃ T, (flatZ rs).length = T := ⟨_, rfl⟩
  rw [hT] at hl
  have cG := growZ_any T w (by omega)
  obtain ⟨N, hN⟩ : ∃ N, rs.length = N := ⟨_, rfl⟩
  rw [hN] at hn ⊢
  have HN := Lib.hid hN
  have HT := Lib.hid hT
  clear hN hT
  go_enter Tryz.func106, Tryz.ntmps106
  go_wp2
  go_loop [3, 5, 11] (fun s v5 i => ∃ (k n : Nat), k ≤ N ∧ n ≤ T ∧ i = .int .i64 k ∧ s = .int .i64 n ∧ Hid ((flatZ (rs.take k)).length = n)) (fun _ _ i => N - (RowKit.intOf i).toNat)
  case atStart => exact ⟨0, 0, Nat.zero_le _, Nat.zero_le _, rfl, rfl, Lib.hid (by simp [flatZ])⟩
  case round =>
    obtain ⟨k, n, hk, hnT, rfl, rfl, hkn⟩ := hrel
    by_cases hlt : k < N
    · have hk2 : k < rs.length := by rw [HN.out]; exact hlt
      obtain ⟨hc, hro⟩ := R.out k hk2
      obtain ⟨a, c, ev⟩ := hro.len
      rw [ev] at hc
      have hnx := congrArg List.length (flatZ_next hk2)
      rw [List.length_append, hkn.out] at hnx
      have hle := flatZ_le rs (k + 1)
      rw [HT.out] at hle
      obtain ⟨m, hm⟩ : ∃ m, (rs[k]!).2.length = m := ⟨_, rfl⟩
      rw [hm] at hc hnx
      rw [hnx] at hle
      have HX := Lib.hid hnx
      clear hnx hm ev hro hkn hk2
      go_wp2
      go_round
      case rel => exact ⟨k + 1, n + m, hlt, hle, by go_num, by go_num, HX⟩
      case measure => simp [RowKit.intOf]; omega
    · have hkN : k = N := by omega
      subst hkN
      have hnT2 : n = T := by
        have := hkn.out
        rw [List.take_of_length_le (by rw [HN.out]; omega), HT.out] at this
        exact this.symm
      subst hnT2
      clear hkn hlt
      go_wp2_with (go_at_call 129; ((with_reducible refine cG.mono ?_); rintro e w1 ⟨v0, rfl, hown0, hb0⟩))
      have hz := hb0.size
      clear cG
      go_loopw [6, 8, 27] (fun v s8 i wr => ∃ (j : Nat) (l : IRow), j ≤ k ∧ i = .int .i64 j ∧ Hid (flatZ (rs.take j) = l) ∧ wr.ownsRow w.heap.size 3 1 v l.length (cellsZ l) ∧ Below w.heap.size w wr) (fun _ _ i _ => k - (RowKit.intOf i).toNat)
      case atStart => exact ⟨0, [], Nat.zero_le _, rfl, Lib.hid (by simp [flatZ]), hown0, hb0⟩
      case round =>
        obtain ⟨j, l, hj, rfl, hjl, hown, hb⟩ := hrel
        have hsz := hb.size
        by_cases hlt : j < k
        · have hj2 : j < rs.length := by rw [HN.out]; exact hlt
          obtain ⟨hc, hro⟩ := (R.out.below hb) j hj2
          obtain ⟨u, hu⟩ : ∃ u, (rs[j]!).1 = u := ⟨_, rfl⟩
          rw [hu] at hc hro
          have hnx := flatZ_next hj2
          rw [hjl.out] at hnx
          have hle := flatZ_le rs (j + 1)
          rw [HT.out, hnx, List.length_append] at hle
          obtain ⟨m, hm⟩ : ∃ m, (rs[j]!).2 = m := ⟨_, rfl⟩
          rw [hm] at hro hnx hle
          have HX := Lib.hid hnx
          have HO := Lib.hid hro
          clear hnx hm hu hjl hro hj2
          go_wp2_with (at_builtin; refine wpList_append_ints rfl _ _ rfl w.heap.size _ l rfl hown u m rfl HO.out (by omega) hsz ?_; intro v' w2 hown' hgrow)
          go_roundw
          case rel => exact ⟨j + 1, _, hlt, by go_num, HX, hown', below_grown hb hsz hown hgrow⟩
          case measure => simp [RowKit.intOf]; omega
        · have hjk : j = k := by omega
          subst hjk
          have hl2 : flatZ rs = l := by rw [← hjl.out, List.take_of_length_le (by rw [HN.out]; omega)]
          have HL := Lib.hid hl2
          clear hl2 hjl
          go_wp2
          go_ret
          rw [HL.out]
          exact ⟨_, rfl, hown, hb⟩

/-- Concat of one. -/
theorem concatZ (g : Nat) (v : Value) (l : IRow) (w : World) (hc : w.cell? ⟨g, 0, none⟩ = some v) (hv : IntsAt w v l) (hl : l.length ≤ 100000) :
    Calls Tryz.prog 106 #[.slice (some ⟨g, 0, none⟩) 1 1] w (OwnPostZ l w) := by
  have h := concatZ_any g [(v, l)] w (fun j hj => ?_) (by simpa [flatZ] using hl) (by simp)
  · have e : flatZ [(v, l)] = l := by simp [flatZ]
    rw [e] at h
    exact h
  · match j, hj with
    | 0, _ => exact ⟨hc, hv⟩

/-! ### a part of a row -/
theorem sliceZ_lh {w : World} {v : Value} {l : IRow} (hv : IntsAt w v l) (f t : Nat) (hft : f ≤ t) (ht : t ≤ l.length) :
    ∃ v', IntsAt w v' ((l.drop f).take (t - f)) ∧ ∀ W, (Instr.slice 44 v (some (.int .i64 (f : Int))) (some (.int .i64 (t : Int))) none).run Tryz.prog W = .ok v' W := by
  have hel : (Tryz.prog.underlying 44) = some (.slice (Tryz.prog.elem 44)) := by kernel_rfl
  have hsz : ∀ W, (sizeOf (Tryz.prog.elem 44)).run Tryz.prog W = .ok 1 W := fun W => by
    have : Tryz.prog.elem 44 = 3 := by kernel_rfl
    rw [this]; exact Tryz.sizeOf3 W
  have hln : ((l.drop f).take (t - f)).length = t - f := by simp; omega
  rcases hv with ⟨a, c, rfl, hac, hcm, rfl⟩ | ⟨b, o, c, rfl, hlc, hcm, hbb, hcs⟩
  · obtain rfl : t = 0 := by simpa using ht
    obtain rfl : f = 0 := by omega
    refine ⟨sliced a 0 0 c 1, ?_, fun W => ?_⟩
    · refine .inl ⟨_, _, rfl, ?_, by simpa using hcm, by simp⟩
      intro h
      split at h
      · simpa using hac h
      · cases a with
        | none => simpa using hac rfl
        | some a => simp at h
    · rw [run_slice_lh W _ a 0 c hel _ _ _ _ (by omega) (by omega) (by omega), hsz]; rfl
  · refine ⟨sliced (some ⟨b, o, none⟩) f t c 1, ?_, fun W => ?_⟩
    · unfold sliced
      by_cases hcf : c = f
      · rw [if_pos hcf]
        have e0 : t - f = 0 := by omega
        rw [e0]
        exact .inl ⟨_, _, rfl, fun h => (by cases h), by omega, by simp⟩
      · rw [if_neg hcf]
        refine .inr ⟨b, o + f, c - f, by rw [hln]; simp [Addr.add_lit], by omega, by omega, hbb, hcs.part f (t - f) (by omega)⟩
    · rw [run_slice_lh W _ _ l.length c hel _ _ _ _ (by omega) (by omega) (by omega), hsz]; simp [Result.andThen]
theorem sliceZ_h {w : World} {v : Value} {l : IRow} (hv : IntsAt w v l) (t : Nat) (ht : t ≤ l.length) :
    ∃ v', IntsAt w v' (l.take t) ∧ ∀ W, (Instr.slice 44 v none (some (.int .i64 (t : Int))) none).run Tryz.prog W = .ok v' W := by
  obtain ⟨v', h1, h2⟩ := sliceZ_lh hv 0 t (Nat.zero_le _) ht
  refine ⟨v', by simpa using h1, fun W => ?_⟩
  have hel : (Tryz.prog.underlying 44) = some (.slice (Tryz.prog.elem 44)) := by kernel_rfl
  obtain ⟨a, c, rfl, hc1, hc2⟩ := hv.cap
  rw [← h2 W, run_slice_lh W _ a l.length c hel _ _ _ _ (by omega) (by omega) (by omega), run_slice_h W _ a l.length c hel _ _ (by omega) (by omega)]
  rfl

end Go.Proofs.YtafincmcmgedbaaGreatDoor

namespace Go.Proofs.YtafincmcmgedbaaGreatDoor
open Go.RowKit Go.Lib

def upB (z m : Int) : Bool := decide (0 ≤ z ∧ z ≤ m)
def wrongB (z : Int) : Bool := !upB z 1
def listsB (ls : IRow) : Bool := decide (ls.length ≤ 6) && !ls.any wrongB
def kindB (ls : IRow) (k : Int) : Bool := if ls.length = 0 then upB k 3 else decide (k = 0)

theorem upTo_any (z m : Int) (w : World) : Calls Tryz.prog 101 #[.int .i64 z, .int .i64 m] w fun e w' => e = .returned (.bool (upB z m)) ∧ w = w' := by
  go_enter Tryz.func101, Tryz.ntmps101
  go_wp2
  all_goals go_ret
  all_goals (refine ⟨ret_bool ?_, rfl⟩; unfold upB; rw [Bool.eq_iff_iff]; first | (simp_all; done) | (simp_all; omega))
theorem wrong_any (z : Int) (w : World) : Calls Tryz.prog 127 #[.int .i64 z] w fun e w' => e = .returned (.bool (wrongB z)) ∧ w = w' := by
  have hc := upTo_any z 1
  unfold wrongB
  obtain ⟨U, hU⟩ : ∃ U, upB z 1 = U := ⟨_, rfl⟩
  rw [hU] at hc ⊢
  clear hU
  go_enter Tryz.func127, Tryz.ntmps127
  go_wp2_with (go_at_call 101; ((with_reducible refine (hc _).mono ?_); rintro e w1 ⟨rfl, rfl⟩))
  go_ret
  exact ⟨rfl, rfl⟩
theorem anyZ_step {P : Int → Bool} {l : IRow} {k : Nat} (hk : k < l.length) : (l.drop k).any P = (P l[k]! || (l.drop (k + 1)).any P) := by
  have e : l.drop k = l[k]! :: l.drop (k + 1) := by
    rw [List.drop_eq_getElem_cons hk, List.getElem!_eq_getElem?_getD, List.getElem?_eq_getElem hk]; rfl
  rw [e]
  rfl

set_option maxHeartbeats 4000000 in
theorem indexZ_any (v : Value) (l : IRow) (w : World) (hv : IntsAt w v l) (hl : l.length ≤ 100000) :
    Calls Tryz.prog 137 #[v, .func (.func 127) #[] #[]] w fun e w' => (∃ z : Int, e = .returned (.int .i64 z) ∧ decide (0 ≤ z) = l.any wrongB) ∧ w = w' := by
  obtain ⟨a, c, rfl⟩ := hv.len
  have V := Lib.hid hv
  obtain ⟨n, hn⟩ : ∃ n, l.length = n := ⟨_, rfl⟩
  rw [hn] at hl V ⊢
  have N := Lib.hid hn
  obtain ⟨R, hR⟩ : ∃ R, l.any wrongB = R := ⟨_, rfl⟩
  rw [hR]
  have HR : Hid ((l.drop 0).any wrongB = R) := Lib.hid hR
  have cF := wrong_any
  clear hv hn hR
  go_enter Tryz.func137, Tryz.ntmps137
  go_wp2
  go_loop [8] (fun i => ∃ k : Nat, k ≤ n ∧ i = .int .i64 k ∧ Hid ((l.drop k).any wrongB = R)) (fun i => n - (RowKit.intOf i).toNat)
  case atStart => exact ⟨0, Nat.zero_le _, rfl, HR⟩
  case round =>
    obtain ⟨k, hk, rfl, HK⟩ := hrel
    by_cases hlt : k < n
    · have hkl : k < l.length := by rw [N.out]; exact hlt
      obtain ⟨b, o, c2, e, hlc, hcm, hbl, hcs⟩ := V.out.lies (by omega)
      rw [N.out] at e hlc
      obtain ⟨rfl, _, rfl⟩ := Value.slice.inj e
      unfold maxLen at hcm
      have x1 := hcs k hkl
      have hst := anyZ_step (P := wrongB) hkl
      rw [HK.out] at hst
      obtain ⟨X, hX⟩ : ∃ X, l[k]! = X := ⟨_, rfl⟩
      rw [hX] at x1 hst
      have cF2 := cF X
      obtain ⟨M, hM⟩ : ∃ M, wrongB X = M := ⟨_, rfl⟩
      rw [hM] at hst cF2
      have HS := Lib.hid hst
      have hkI : (k : Int) < (n : Int) := by omega
      clear hst HK hX hcs e hkl hM cF
      cases M with
      | true =>
        go_wp2_with (go_at_call 127; ((with_reducible refine (cF2 _).mono ?_); rintro e w2 ⟨rfl, rfl⟩))
        go_ret
        exact ⟨⟨_, rfl, by rw [HS.out]; simp⟩, rfl⟩
      | false =>
        go_wp2_with (go_at_call 127; ((with_reducible refine (cF2 _).mono ?_); rintro e w2 ⟨rfl, rfl⟩))
        go_round
        case rel => exact ⟨k + 1, hlt, by go_num, Lib.hid (by rw [HS.out, Bool.false_or])⟩
        case measure => simp [RowKit.intOf]; omega
    · have hkn : k = n := by omega
      subst hkn
      have hR2 : R = false := by rw [← HK.out, List.drop_eq_nil_of_le (by rw [N.out]; omega)]; rfl
      have HR2 := Lib.hid hR2
      clear hR2
      go_wp2
      go_ret
      exact ⟨⟨_, rfl, by rw [HR2.out]; decide⟩, rfl⟩
theorem containsZ_any (v : Value) (l : IRow) (w : World) (hv : IntsAt w v l) (hl : l.length ≤ 100000) :
    Calls Tryz.prog 128 #[v, .func (.func 127) #[] #[]] w fun e w' => e = .returned (.bool (l.any wrongB)) ∧ w = w' := by
  have hc := indexZ_any v l w hv hl
  obtain ⟨R, hR⟩ : ∃ R, l.any wrongB = R := ⟨_, rfl⟩
  rw [hR] at hc ⊢
  clear hR hv
  go_enter Tryz.func128, Tryz.ntmps128
  go_wp2_with (go_at_call 137; ((with_reducible refine hc.mono ?_); rintro e w1 ⟨⟨z, rfl, hz⟩, rfl⟩))
  go_ret
  exact ⟨rfl, rfl⟩
theorem mayLists_any (v : Value) (l : IRow) (w : World) (hv : IntsAt w v l) (hl : l.length ≤ 100000) :
    Calls Tryz.prog 102 #[v] w fun e w' => e = .returned (.bool (listsB l)) ∧ w = w' := by
  have hc := containsZ_any v l w hv hl
  obtain ⟨a, c, rfl⟩ := hv.len
  unfold listsB
  obtain ⟨n, hn⟩ : ∃ n, l.length = n := ⟨_, rfl⟩
  obtain ⟨R, hR⟩ : ∃ R, l.any wrongB = R := ⟨_, rfl⟩
  rw [hR, hn] at hc ⊢
  clear hR hv hn hl
  by_cases h : n ≤ 6
  · have hI : (n : Int) ≤ 6 := by omega
    rw [decide_eq_true h]
    clear h
    go_enter Tryz.func102, Tryz.ntmps102
    go_wp2_with (go_at_call 128; ((with_reducible refine hc.mono ?_); rintro e w1 ⟨rfl, rfl⟩))
    all_goals go_ret
    all_goals exact ⟨ret_bool (by cases R <;> rfl), rfl⟩
  · have hI : ¬ (n : Int) ≤ 6 := by omega
    rw [decide_eq_false h]
    clear h hc
    go_enter Tryz.func102, Tryz.ntmps102
    go_wp2
    all_goals go_ret
    all_goals exact ⟨rfl, rfl⟩
theorem mayKind_any (q k : Int) (v sc : Value) (l : IRow) (w : World) (hv : IntsAt w v l) :
    Calls Tryz.prog 103 #[.agg #[.int .i64 q, v, .int .i64 k, sc]] w fun e w' => e = .returned (.bool (kindB l k)) ∧ Below w.heap.size w w' := by
  have hc := upTo_any k 3
  obtain ⟨a, c, rfl⟩ := hv.len
  unfold kindB
  obtain ⟨n, hn⟩ : ∃ n, l.length = n := ⟨_, rfl⟩
  rw [hn]
  clear hv hn
  have ba : ∀ o, Below w.heap.size w (w.alloc o) := fun o => (Below.refl _ w).alloc (Nat.le_refl _) _
  by_cases h : n = 0
  · subst h
    obtain ⟨U, hU⟩ : ∃ U, upB k 3 = U := ⟨_, rfl⟩
    rw [hU] at hc
    simp only [if_true, hU]
    clear hU
    go_enter Tryz.func103, Tryz.ntmps103
    go_wp2_with (go_at_call 101; ((with_reducible refine (hc _).mono ?_); rintro e w1 ⟨rfl, rfl⟩))
    all_goals go_ret
    all_goals exact ⟨rfl, ba _⟩
  · have hI : (0 : Int) < (n : Int) := by omega
    simp only [if_neg h]
    clear h hc
    go_enter Tryz.func103, Tryz.ntmps103
    go_wp2
    all_goals go_ret
    all_goals exact ⟨ret_bool (by rw [Bool.eq_iff_iff]; simp), ba _⟩

end Go.Proofs.YtafincmcmgedbaaGreatDoor

namespace Go.Proofs.YtafincmcmgedbaaGreatDoor
open Go.RowKit Go.Lib

set_option maxHeartbeats 4000000 in
theorem rown_any (v : Value) (l : Row) (w : World) (hv : RowAt w v l) (hl : l.length ≤ 100000) :
    Calls Tryz.prog 35 #[v] w (OwnPost l w) := by
  have V := Lib.hid hv
  have ba : ∀ o, Below w.heap.size w (w.alloc o) := fun o => (Below.refl _ w).alloc (Nat.le_refl _) _
  clear hv
  go_enter Tryz.func35, Tryz.ntmps35
  go_wp2_with (at_builtin; refine wpList_append_row rfl _ _ rfl w.heap.size _ [] rfl (World.ownsRow_made w #[] 0 (Nat.le_refl _) (Nat.zero_le _) (by simp)) _ l rfl (V.out.below (ba _)) (by simp; omega) (by simp) ?_; intro v3 w3 own3 grow3)
  go_ret
  exact ⟨v3, rfl, own3, (ba _).grown grow3 (by simp) (fun k e => by cases e; exact Nat.le_refl _)⟩

end Go.Proofs.YtafincmcmgedbaaGreatDoor
