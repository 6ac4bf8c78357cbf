/-
  Appending ints to a row of one's own; Go's Grow and Concat at slices of ints; parts of them.
-/
import Derived.Test.YtmlipcedkgfmiaaDoorInts
import Derived.Test.YtmlipcedkgfmiaaDoorConcat
namespace Go.Proofs.YtmlipcedkgfmiaaDoor
open Go.RowKit Go.Lib

theorem own_appZ {w : World} {B : Nat} {v : Value} {l m : IRow} {n k : Nat} (h : w.ownsRow B 3 1 v (n + k) (cellsZ l ++ cellsZ m)) (hn : l.length = n) (hk : m.length = k) : w.ownsRow B 3 1 v (l ++ m).length (cellsZ (l ++ m)) := by
  subst hn hk
  rw [List.length_append, cellsZ_append]
  exact h

/-- **append(s, m..)**: s ints of one's own, m ints. -/
theorem wpList_append_ints {ops : Array Oper} {rest : List Oper} {o : Oper} {a : Act} {Q : Exit → Act → World → Prop} {w : World} (hgd : o.guard = none) (s x : Operand)
    (ho : o.op = .call { callee := .builtin .append, args := #[s, x], argTypes := #[22, 22] })
    (base : Nat) (v : Value) (l : IRow) (hs : a.eval s = v) (hown : w.ownsRow base 3 1 v l.length (cellsZ l)) (u : Value) (m : IRow) (hx : a.eval x = u) (hu : IntsAt w u m)
    (hb : l.length + m.length ≤ 1000000) (hbase : base ≤ w.heap.size)
    (h : ∀ v' w', w'.ownsRow base 3 1 v' (l ++ m).length (cellsZ (l ++ m)) → w.grownBy w' v.ownBlock → wpList Tryd.prog ops Q rest (a.put o.dst v') w') : wpList Tryd.prog ops Q (o :: rest) a w := by
  obtain ⟨i0, hi, hz0, hz1, hz2⟩ := info_parts infoInt
  rcases hu with ⟨ad, c, rfl, hac, _, rfl⟩ | ⟨b, o1, c, rfl, hlc, hcm, hbb, hcs⟩
  · cases ad with
    | none =>
      obtain rfl := hac rfl
      refine wpList_append_own_none hgd s x 22 ho base 3 i0 1 Tryd.underlying22 hi v _ _ hs hown hx (h v w ?_ (grownBy_refl _ _))
      simpa using hown
    | some ad =>
      refine wpList_append_own _ hgd s x 22 ho base 3 i0 _ 1 8 Tryd.underlying22 hi hz0 hz1 hz2 rfl (by decide) v _ _ hs hown ad 0 c [] hx rfl (by simp) (by simp) (by unfold maxLen; omega) (by omega) hbase (fun v' w' h1 h2 _ => h v' w' ?_ h2)
      simpa using h1
  · refine wpList_append_own _ hgd s x 22 ho base 3 i0 _ 1 8 Tryd.underlying22 hi hz0 hz1 hz2 rfl (by decide) v _ _ hs hown ⟨b, o1, none⟩ m.length c (cellsZ m) hx (by rw [cellsZ_length, Nat.mul_one]) hcs.addF (cellsZ_one m) (by unfold maxLen; omega) (by omega) hbase (fun v' w' h1 h2 _ => h v' w' (own_appZ h1 rfl rfl) h2)

theorem growZ_any (n : Nat) (w : World) (hn : n ≤ 200000) :
    Calls Tryd.prog 64 #[.slice none 0 0, .int .i64 n] w (OwnPostZ [] w) := by
  by_cases h0 : n = 0
  · subst h0
    refine (Any8.slices_Grow_room Tryd.laysGrowI none 0 0 0 w (by omega) (by omega) (by omega) (by omega)).mono ?_
    rintro e w' ⟨rfl, rfl⟩
    exact ⟨_, rfl, World.ownsRow_nil _ _ _ _, Below.refl _ _⟩
  · obtain ⟨i0, hi, hz0, hz1, hz2⟩ := info_parts infoInt
    refine (Any8.slices_Grow_grow Tryd.laysGrowI i0 _ hi hz0 (by rw [hz1]; decide) none 0 0 n [] w (by omega) (by omega) (by rw [hz2]; omega) (by omega) (by simp) (fun _ => rfl) (fun a h => by cases h)).mono ?_
    rintro e w' ⟨rfl, rfl⟩
    have h1 := grownCap_ge w (0 + n) 0 3
    have h2 := grownCap_le_maxLen w (0 + n) 0 3 (by unfold maxLen; omega)
    refine ⟨_, rfl, World.ownsRow_made w.drew _ _ (Nat.le_refl _) h2 ?_, ((Below.refl _ w).drew).alloc (Nat.le_refl _) _⟩
    rw [Array.size_append, Array.size_append, size_zeroCells, size_zeroCells]
    show 0 + (0 + n - 0) * 1 + (grownCap w (0 + n) 0 3 - (0 + n)) * 1 = grownCap w (0 + n) 0 3 * 1
    omega

/-- Some rows, one behind the other. -/
def flatZ (rs : List (Value × IRow)) : IRow := rs.flatMap (·.2)
/-- They lie in block g. -/
def IntssAt (w : World) (g : Nat) (rs : List (Value × IRow)) : Prop := ∀ j, j < rs.length → w.cell? ⟨g, j, none⟩ = some (rs[j]!).1 ∧ IntsAt w (rs[j]!).1 (rs[j]!).2
theorem IntssAt.below {w w' : World} {g : Nat} {rs : List (Value × IRow)} (h : IntssAt w g rs) (hb : Below w.heap.size w w') : IntssAt w' g rs := fun j hj =>
  ⟨(hb.cell (p := ⟨g, j, none⟩) (lt_of_cell' (h j hj).1)).trans (h j hj).1, (h j hj).2.below hb⟩
theorem flatZ_next {rs : List (Value × IRow)} {k : Nat} (h : k < rs.length) : flatZ (rs.take (k + 1)) = flatZ (rs.take k) ++ (rs[k]!).2 := by
  unfold flatZ
  rw [take_next h, List.flatMap_append]
  simp
theorem flatZ_le (rs : List (Value × IRow)) (k : Nat) : (flatZ (rs.take k)).length ≤ (flatZ rs).length := by
  have : flatZ rs = flatZ (rs.take k) ++ flatZ (rs.drop k) := by unfold flatZ; rw [← List.flatMap_append, List.take_append_drop]
  rw [this, List.length_append]
  omega

set_option maxRecDepth 20000 in
set_option maxHeartbeats 8000000 in
theorem concatZ_any (g : Nat) (rs : List (Value × IRow)) (w : World) (hr : IntssAt w g rs) (hl : (flatZ rs).length ≤ 100000) (hn : rs.length ≤ 10) :
    Calls Tryd.prog 45 #[.slice (some ⟨g, 0, none⟩) rs.length rs.length] w (OwnPostZ (flatZ rs) w) := by
  have R := Lib.hid hr
  clear hr
  obtain ⟨T, hT⟩ : ∃ T, (flatZ rs).length = T := ⟨_, rfl⟩
  rw [hT] at hl
  have cG := growZ_any T w (by omega)
  obtain ⟨N, hN⟩ : ∃ N, rs.length = N := ⟨_, rfl⟩
  rw [hN] at hn ⊢
  have HN := Lib.hid hN
  have HT := Lib.hid hT
  clear hN hT
  go_enter Tryd.func45, Tryd.ntmps45
  go_wp2
  go_loop [3, 5, 11] (fun s v5 i => ∃ (k n : Nat), k ≤ N ∧ n ≤ T ∧ i = .int .i64 k ∧ s = .int .i64 n ∧ Hid ((flatZ (rs.take k)).length = n)) (fun _ _ i => N - (RowKit.intOf i).toNat)
  case atStart => exact ⟨0, 0, Nat.zero_le _, Nat.zero_le _, rfl, rfl, Lib.hid (by simp [flatZ])⟩
  case round =>
    obtain ⟨k, n, hk, hnT, rfl, rfl, hkn⟩ := hrel
    by_cases hlt : k < N
    · have hk2 : k < rs.length := by rw [HN.out]; exact hlt
      obtain ⟨hc, hro⟩ := R.out k hk2
      obtain ⟨a, c, ev⟩ := hro.len
      rw [ev] at hc
      have hnx := congrArg List.length (flatZ_next hk2)
      rw [List.length_append, hkn.out] at hnx
      have hle := flatZ_le rs (k + 1)
      rw [HT.out] at hle
      obtain ⟨m, hm⟩ : ∃ m, (rs[k]!).2.length = m := ⟨_, rfl⟩
      rw [hm] at hc hnx
      rw [hnx] at hle
      have HX := Lib.hid hnx
      clear hnx hm ev hro hkn hk2
      go_wp2
      go_round
      case rel => exact ⟨k + 1, n + m, hlt, hle, by go_num, by go_num, HX⟩
      case measure => simp [RowKit.intOf]; omega
    · have hkN : k = N := by omega
      subst hkN
      have hnT2 : n = T := by
        have := hkn.out
        rw [List.take_of_length_le (by rw [HN.out]; omega), HT.out] at this
        exact this.symm
      subst hnT2
      clear hkn hlt
      go_wp2_with (go_at_call 64; ((with_reducible refine cG.mono ?_); rintro e w1 ⟨v0, rfl, hown0, hb0⟩))
      have hz := hb0.size
      clear cG
      go_loopw [6, 8, 27] (fun v s8 i wr => ∃ (j : Nat) (l : IRow), j ≤ k ∧ i = .int .i64 j ∧ Hid (flatZ (rs.take j) = l) ∧ wr.ownsRow w.heap.size 3 1 v l.length (cellsZ l) ∧ Below w.heap.size w wr) (fun _ _ i _ => k - (RowKit.intOf i).toNat)
      case atStart => exact ⟨0, [], Nat.zero_le _, rfl, Lib.hid (by simp [flatZ]), hown0, hb0⟩
      case round =>
        obtain ⟨j, l, hj, rfl, hjl, hown, hb⟩ := hrel
        have hsz := hb.size
        by_cases hlt : j < k
        · have hj2 : j < rs.length := by rw [HN.out]; exact hlt
          obtain ⟨hc, hro⟩ := (R.out.below hb) j hj2
          obtain ⟨u, hu⟩ : ∃ u, (rs[j]!).1 = u := ⟨_, rfl⟩
          rw [hu] at hc hro
          have hnx := flatZ_next hj2
          rw [hjl.out] at hnx
          have hle := flatZ_le rs (j + 1)
          rw [HT.out, hnx, List.length_append] at hle
          obtain ⟨m, hm⟩ : ∃ m, (rs[j]!).2 = m := ⟨_, rfl⟩
          rw [hm] at hro hnx hle
          have HX := Lib.hid hnx
          have HO := Lib.hid hro
          clear hnx hm hu hjl hro hj2
          go_wp2_with (at_builtin; refine wpList_append_ints rfl _ _ rfl w.heap.size _ l rfl hown u m rfl HO.out (by omega) hsz ?_; intro v' w2 hown' hgrow)
          go_roundw
          case rel => exact ⟨j + 1, _, hlt, by go_num, HX, hown', below_grown hb hsz hown hgrow⟩
          case measure => simp [RowKit.intOf]; omega
        · have hjk : j = k := by omega
          subst hjk
          have hl2 : flatZ rs = l := by rw [← hjl.out, List.take_of_length_le (by rw [HN.out]; omega)]
          have HL := Lib.hid hl2
          clear hl2 hjl
          go_wp2
          go_ret
          rw [HL.out]
          exact ⟨_, rfl, hown, hb⟩

/-- Concat of one. -/
theorem concatZ (g : Nat) (v : Value) (l : IRow) (w : World) (hc : w.cell? ⟨g, 0, none⟩ = some v) (hv : IntsAt w v l) (hl : l.length ≤ 100000) :
    Calls Tryd.prog 45 #[.slice (some ⟨g, 0, none⟩) 1 1] w (OwnPostZ l w) := by
  have h := concatZ_any g [(v, l)] w (fun j hj => ?_) (by simpa [flatZ] using hl) (by simp)
  · have e : flatZ [(v, l)] = l := by simp [flatZ]
    rw [e] at h
    exact h
  · match j, hj with
    | 0, _ => exact ⟨hc, hv⟩

/-! ### a part of a row -/
theorem sliceZ_lh {w : World} {v : Value} {l : IRow} (hv : IntsAt w v l) (f t : Nat) (hft : f ≤ t) (ht : t ≤ l.length) :
    ∃ v', IntsAt w v' ((l.drop f).take (t - f)) ∧ ∀ W, (Instr.slice 22 v (some (.int .i64 (f : Int))) (some (.int .i64 (t : Int))) none).run Tryd.prog W = .ok v' W := by
  have hel : (Tryd.prog.underlying 22) = some (.slice (Tryd.prog.elem 22)) := by kernel_rfl
  have hsz : ∀ W, (sizeOf (Tryd.prog.elem 22)).run Tryd.prog W = .ok 1 W := fun W => by
    have : Tryd.prog.elem 22 = 3 := by kernel_rfl
    rw [this]; exact Tryd.sizeOf3 W
  have hln : ((l.drop f).take (t - f)).length = t - f := by simp; omega
  rcases hv with ⟨a, c, rfl, hac, hcm, rfl⟩ | ⟨b, o, c, rfl, hlc, hcm, hbb, hcs⟩
  · obtain rfl : t = 0 := by simpa using ht
    obtain rfl : f = 0 := by omega
    refine ⟨sliced a 0 0 c 1, ?_, fun W => ?_⟩
    · refine .inl ⟨_, _, rfl, ?_, by simpa using hcm, by simp⟩
      intro h
      split at h
      · simpa using hac h
      · cases a with
        | none => simpa using hac rfl
        | some a => simp at h
    · rw [run_slice_lh W _ a 0 c hel _ _ _ _ (by omega) (by omega) (by omega), hsz]; rfl
  · refine ⟨sliced (some ⟨b, o, none⟩) f t c 1, ?_, fun W => ?_⟩
    · unfold sliced
      by_cases hcf : c = f
      · rw [if_pos hcf]
        have e0 : t - f = 0 := by omega
        rw [e0]
        exact .inl ⟨_, _, rfl, fun h => (by cases h), by omega, by simp⟩
      · rw [if_neg hcf]
        refine .inr ⟨b, o + f, c - f, by rw [hln]; simp [Addr.add_lit], by omega, by omega, hbb, hcs.part f (t - f) (by omega)⟩
    · rw [run_slice_lh W _ _ l.length c hel _ _ _ _ (by omega) (by omega) (by omega), hsz]; simp [Result.andThen]
theorem sliceZ_h {w : World} {v : Value} {l : IRow} (hv : IntsAt w v l) (t : Nat) (ht : t ≤ l.length) :
    ∃ v', IntsAt w v' (l.take t) ∧ ∀ W, (Instr.slice 22 v none (some (.int .i64 (t : Int))) none).run Tryd.prog W = .ok v' W := by
  obtain ⟨v', h1, h2⟩ := sliceZ_lh hv 0 t (Nat.zero_le _) ht
  refine ⟨v', by simpa using h1, fun W => ?_⟩
  have hel : (Tryd.prog.underlying 22) = some (.slice (Tryd.prog.elem 22)) := by kernel_rfl
  obtain ⟨a, c, rfl, hc1, hc2⟩ := hv.cap
  rw [← h2 W, run_slice_lh W _ a l.length c hel _ _ _ _ (by omega) (by omega) (by omega), run_slice_h W _ a l.length c hel _ _ (by omega) (by omega)]
  rfl

end Go.Proofs.YtmlipcedkgfmiaaDoor
