/-
  The document's alike, Runs.
-/
import Derived.Test.YtiaoflagjaclmaaIter
import Derived.Deep.QuietTactic
import Derived.BigQuiet
import Derived.IntWalk
namespace Go.Proofs.Ytiaoflagjaclmaa
open Go.RowKit Go.Lib

def alikeB (a c : Ce) : Bool := decide (a.1 ≠ 10 ∧ c.1 ≠ 10 ∧ a.2 = c.2)

set_option maxHeartbeats 4000000 in
theorem alike_any (a c : Ce) (w : World) :
    Calls Try.prog 37 #[.agg #[.int .i32 a.1, .int .i64 a.2.1, .string a.2.2], .agg #[.int .i32 c.1, .int .i64 c.2.1, .string c.2.2]] w fun e w' => e = .returned (.bool (alikeB a c)) ∧ Below w.heap.size w w' := by
  obtain ⟨a1, a2, a3⟩ := a
  obtain ⟨c1, c2, c3⟩ := c
  dsimp only
  obtain ⟨R, hR⟩ : ∃ R, alikeB (a1, a2, a3) (c1, c2, c3) = R := ⟨_, rfl⟩
  rw [hR]
  have h0 : R = (decide (a1 ≠ 10) && decide (c1 ≠ 10) && decide (a2 = c2) && (a3.toList == c3.toList)) := by
    rw [← hR, str_eq, Bool.eq_iff_iff]
    unfold alikeB
    simp [and_assoc]
  have HR := Lib.hid h0
  clear h0 hR
  go_enter Try.func37, Try.ntmps37
  go_wp2
  all_goals (try (go_quiet (fail)))
  all_goals (try go_wp2)
  all_goals go_ret
  all_goals (refine ⟨ret_bool ?_, ?_⟩ <;> first | exact Below.refl _ _ | exact two_new w _ _ _ _ | exact ((Below.refl _ w).alloc (Nat.le_refl _) _).alloc (by simp) _ | (rw [HR.out]; simp_all; done))

/-! ### the runs, gathered one cell after the other -/
theorem endG_all (l : Row) (c : Ce) : ∀ n j i, j ≤ i → i < endG l c n j → goB c (atR l i) = true
  | 0, j, i, h1, h2 => by unfold endG at h2; omega
  | n + 1, j, i, h1, h2 => by
    unfold endG at h2
    by_cases h : goB c (atR l j) = true
    · rw [if_pos h] at h2
      by_cases e : i = j
      · subst e; exact h
      · exact endG_all l c n (j + 1) i (by omega) h2
    · rw [if_neg h] at h2; omega
theorem endG_stop (l : Row) (c : Ce) : ∀ n j, endG l c n j < j + n → goB c (atR l (endG l c n j)) = false
  | 0, j, h => by unfold endG at h; omega
  | n + 1, j, h => by
    unfold endG at h ⊢
    by_cases hg : goB c (atR l j) = true
    · rw [if_pos hg] at h ⊢
      exact endG_stop l c n (j + 1) (by omega)
    · rw [if_neg hg]; simpa using hg
theorem stop_all {l : Row} {f i : Nat} (h10 : (atR l f).1 ≠ 10) (h1 : f + 1 ≤ i) (h2 : i < stopN l f) : goB (atR l f) (atR l i) = true := by
  unfold stopN at h2
  rw [if_neg h10] at h2
  exact endG_all l _ _ _ _ h1 h2
theorem stop_stop {l : Row} {f : Nat} (h10 : (atR l f).1 ≠ 10) (hf : f < l.length) (h : stopN l f < l.length) : goB (atR l f) (atR l (stopN l f)) = false := by
  unfold stopN at h ⊢
  rw [if_neg h10] at h ⊢
  exact endG_stop l _ _ _ (by unfold endN at h; omega)
/-- The run that began at f, as far as k. -/
def curN (l : Row) (f k : Nat) : Rn := ((f : Int), (k : Int), (atR l f).2.1, (atR l f).2.2, if (atR l f).1 = 10 then 1 else 0)
theorem curN_stop (l : Row) (f : Nat) : curN l f (stopN l f) = runR l f := rfl
def AccOk (l : Row) (k : Nat) (acc : List Rn) : Prop := (k = 0 ∧ acc = []) ∨ ∃ pre f, acc = pre ++ [curN l f k] ∧ f < k ∧ k ≤ stopN l f ∧ runsR l 0 = pre ++ runsR l f
theorem alike_iff {l : Row} {f k : Nat} (hfk : f < k) (hk : k ≤ stopN l f) (hkn : k < l.length) : alikeB (atR l (k - 1)) (atR l k) = decide (k < stopN l f) := by
  by_cases h10 : (atR l f).1 = 10
  · have e : stopN l f = f + 1 := by unfold stopN; rw [if_pos h10]
    have e2 : k - 1 = f := by omega
    rw [e, e2, decide_eq_false (by omega)]
    unfold alikeB
    exact decide_eq_false (fun h => h.1 h10)
  · have hY : (atR l (k - 1)).1 ≠ 10 ∧ (atR l f).2 = (atR l (k - 1)).2 := by
      by_cases e : k - 1 = f
      · rw [e]; exact ⟨h10, rfl⟩
      · exact of_decide_eq_true (stop_all h10 (by omega) (by omega))
    have e : alikeB (atR l (k - 1)) (atR l k) = goB (atR l f) (atR l k) := by
      unfold alikeB goB
      rw [Bool.eq_iff_iff]
      simp only [decide_eq_true_eq]
      rw [← hY.2]
      constructor
      · exact fun h => h.2
      · exact fun h => ⟨hY.1, h⟩
    rw [e]
    by_cases hlt : k < stopN l f
    · rw [stop_all h10 (by omega) hlt, decide_eq_true hlt]
    · have e2 : k = stopN l f := by omega
      have := stop_stop h10 (by omega) (by omega)
      rw [← e2] at this
      rw [this, decide_eq_false hlt]
theorem acc_first (l : Row) (hl : 0 < l.length) : AccOk l 1 ([] ++ [curN l 0 1]) :=
  .inr ⟨[], 0, rfl, by omega, (stopN_le hl).1, rfl⟩
theorem acc_on {l : Row} {k : Nat} {acc : List Rn} (h : AccOk l k acc) (hk0 : 0 < k) (hk : k < l.length) (ha : alikeB (atR l (k - 1)) (atR l k) = true) :
    ∃ pre f, acc = pre ++ [curN l f k] ∧ AccOk l (k + 1) (pre ++ [curN l f (k + 1)]) := by
  rcases h with ⟨h, _⟩ | ⟨pre, f, h1, h2, h3, h4⟩
  · omega
  · rw [alike_iff h2 h3 hk] at ha
    have := of_decide_eq_true ha
    exact ⟨pre, f, h1, .inr ⟨pre, f, rfl, by omega, by omega, h4⟩⟩
theorem acc_new {l : Row} {k : Nat} {acc : List Rn} (h : AccOk l k acc) (hk0 : 0 < k) (hk : k < l.length) (ha : alikeB (atR l (k - 1)) (atR l k) = false) :
    AccOk l (k + 1) (acc ++ [curN l k (k + 1)]) := by
  rcases h with ⟨h, _⟩ | ⟨pre, f, h1, h2, h3, h4⟩
  · omega
  · rw [alike_iff h2 h3 hk] at ha
    have := of_decide_eq_false ha
    have e : k = stopN l f := by omega
    refine .inr ⟨acc, k, rfl, by omega, (stopN_le hk).1, ?_⟩
    rw [h4, h1, runsR_step (by omega : f < l.length), ← e, e, curN_stop, ← e]
    simp
theorem acc_end {l : Row} {acc : List Rn} (h : AccOk l l.length acc) : acc = runsR l 0 := by
  rcases h with ⟨h, rfl⟩ | ⟨pre, f, h1, h2, h3, h4⟩
  · rw [runsR_end (by omega)]
  · have e : l.length = stopN l f := by have := (stopN_le (l := l) (k := f) (by omega)).2; omega
    rw [h4, h1, runsR_step (by omega : f < l.length), ← e, runsR_end (by omega)]
    rw [e, curN_stop]
theorem acc_len {l : Row} {k : Nat} {acc : List Rn} (h : AccOk l k acc) (hk : k ≤ l.length) : acc.length ≤ l.length := by
  rcases h with ⟨_, rfl⟩ | ⟨pre, f, h1, h2, h3, h4⟩
  · simp
  · have h5 := runsR_length l 0
    rw [h4, runsR_step (by omega : f < l.length)] at h5
    simp only [List.length_append, List.length_cons] at h5
    rw [h1, List.length_append, List.length_singleton]
    omega
theorem cellsN_last (pre : List Rn) (r : Rn) (b : Int) : (cellsN (pre ++ [r])).set (pre.length * 5 + 1) (.int .i64 b) = cellsN (pre ++ [(r.1, b, r.2.2)]) := by
  rw [cellsN_snoc, cellsN_snoc, List.set_append_right _ _ (by rw [cellsN_length]; omega), cellsN_length, Nat.add_sub_cancel_left]
  rfl


set_option maxHeartbeats 16000000 in
theorem rruns_any (v : Value) (l : Row) (w : World) (hv : RowAt w v l) (hl : l.length ≤ 50000) :
    Calls Try.prog 23 #[v] w (RunsPost (runsR l 0) w) := by
  obtain ⟨i0, hi, ze, zs, zb⟩ := info_parts infoRun
  have V := Lib.hid hv
  obtain ⟨a, c, rfl⟩ := hv.len
  obtain ⟨n, hn⟩ : ∃ n, l.length = n := ⟨_, rfl⟩
  rw [hn] at V hl ⊢
  have N := Lib.hid hn
  clear hv hn
  have cal := alike_any
  go_enter Try.func23, Try.ntmps23
  go_wp2
  go_loopw [3, 4] (fun out i wr => ∃ (k : Nat) (acc : List Rn), k ≤ n ∧ i = .int .i64 k ∧ Hid (wr.ownsRow w.heap.size 39 5 out acc.length (cellsN acc)) ∧ Hid (Below w.heap.size w wr) ∧ Hid (AccOk l k acc)) (fun _ i _ => n - (RowKit.intOf i).toNat)
  case atStart => exact ⟨0, [], Nat.zero_le _, rfl, Lib.hid (World.ownsRow_nil _ _ _ _), Lib.hid (Below.refl _ _), Lib.hid (.inl ⟨rfl, rfl⟩)⟩
  case round =>
    obtain ⟨k, acc, hk, rfl, O, HB, HA⟩ := hrel
    obtain ⟨ao, co, rfl⟩ := own_len O.out
    by_cases hlt : k < n
    · obtain ⟨b, o, c2, e, hlc, hcm, hbl, hcs⟩ := V.out.lies (by rw [N.out]; omega)
      rw [N.out] at e hlc
      obtain ⟨rfl, _, rfl⟩ := Value.slice.inj e
      unfold maxLen at hcm
      have hkl : k < l.length := by rw [N.out]; exact hlt
      have hkI : (k : Int) < (n : Int) := by omega
      have hcw := hcs.below hbl HB.out
      have HCW := Lib.hid hcw
      obtain ⟨y1, y2, y3⟩ := hcw k hkl
      have hbw : b < wr.heap.size := Nat.lt_of_lt_of_le hbl HB.out.size
      rw [← atR_in hkl] at y1 y2 y3
      obtain ⟨Y, hY⟩ : ∃ Y, atR l k = Y := ⟨_, rfl⟩
      rw [hY] at y1 y2 y3
      have HY := Lib.hid hY
      obtain ⟨Y1, Y2, Y3⟩ := Y
      dsimp only at y1 y2 y3
      clear hcw hcs hY e
      rcases Nat.eq_zero_or_pos k with rfl | hk0
      · rw [show ((0 : Nat) : Int) = 0 from rfl]
        have hnI : (0 : Int) < (n : Int) := by omega
        have hacc : acc = [] := by
          rcases HA.out with ⟨_, h⟩ | ⟨_, f, _, h, _⟩
          · exact h
          · omega
        have HN : Hid (AccOk l (0 + 1) (acc ++ [curN l 0 (0 + 1)])) := Lib.hid (by rw [hacc]; exact acc_first l hkl)
        have HAcc := HA
        rw [Nat.zero_mul, Nat.add_zero] at y1 y2 y3
        clear HA hacc
        go_wp2
        go_quiet (fail)
        go_wp2
        have bb : Below wr.heap.size wr (wr.drewN nq) := below_draws wr nq
        obtain ⟨w3, hw3⟩ : ∃ W, wr.drewN nq = W := ⟨_, rfl⟩
        rw [hw3] at bb ⊢
        clear hw3 y1 y2 y3
        obtain ⟨y1, y2, y3⟩ := (HCW.out.below hbw bb) 0 hkl
        rw [← atR_in hkl, HY.out] at y1 y2 y3
        dsimp only at y1 y2 y3
        rw [Nat.zero_mul, Nat.add_zero] at y1 y2 y3
        have hbw3 : b < w3.heap.size := Nat.lt_of_lt_of_le hbw bb.size
        have hwk : IntKind.i64.wrap 1 = 1 := IntWalk.i64_in _ (by omega)
        have b7 : Below wr.heap.size wr (w3.alloc (.cells #[.int .i64 0, .int .i64 1, .int .i64 Y2, .string Y3, .int .i64 0] 39)).drew := (bb.alloc bb.size _).drew
        have B7 : (w3.alloc (.cells #[.int .i64 0, .int .i64 1, .int .i64 Y2, .string Y3, .int .i64 0] 39)).drew.heap[w3.heap.size]? = some (.cells #[.int .i64 0, .int .i64 1, .int .i64 Y2, .string Y3, .int .i64 0] 39) := World.alloc_heap_new w3 _
        have s7 : (w3.alloc (.cells #[.int .i64 0, .int .i64 1, .int .i64 Y2, .string Y3, .int .i64 0] 39)).drew.heap.size = w3.heap.size + 1 := World.size_alloc _ _
        obtain ⟨W5, hW5⟩ : ∃ W, (w3.alloc (.cells #[.int .i64 0, .int .i64 1, .int .i64 Y2, .string Y3, .int .i64 0] 39)).drew = W := ⟨_, rfl⟩
        rw [hW5] at b7 B7 s7
        have HW5 := Lib.hid hW5
        clear hW5
        obtain ⟨v1, _, _⟩ := (HCW.out.below hbw b7) 0 hkl
        rw [← atR_in hkl, HY.out] at v1
        dsimp only at v1
        rw [Nat.zero_mul, Nat.add_zero] at v1
        have bbs := bb.size
        have hbw5 : b < W5.heap.size := Nat.lt_of_lt_of_le hbw b7.size
        have hal2 := acc_len HAcc.out (by omega)
        rw [N.out] at hal2
        have HL := Lib.hid hal2
        have S7 := Lib.hid s7
        have HW := Lib.hid HB.out.size
        have hle3 : Hid (w.heap.size ≤ w3.heap.size) := Lib.hid (by have := HB.out.size; omega)
        clear hal2 s7
        have HWK := Lib.hid hwk
        clear hwk
        by_cases h10 : Y1 = 10
        · have hcur : curN l 0 (0 + 1) = (0, 1, Y2, Y3, 1) := by
            unfold curN
            rw [HY.out, if_pos h10]; rfl
          rw [hcur] at HN
          clear hcur
          subst h10
          have B8 := heap_setCell_same W5 w3.heap.size 4 _ _ (.int .i64 1) B7
          have z4 : W5.cell? ⟨w3.heap.size, 4, none⟩ = some (.int .i64 0) := cell_blk B7 4 _ rfl
          have f4 := frozen_of_row W5 _ 4 _ _ B7
          have q0 : (W5.setCell ⟨w3.heap.size, 4, none⟩ (.int .i64 1)).cell? ⟨w3.heap.size, 0, none⟩ = some (.int .i64 0) := cell_blk B8 0 _ rfl
          have q1 : (W5.setCell ⟨w3.heap.size, 4, none⟩ (.int .i64 1)).cell? ⟨w3.heap.size, 1, none⟩ = some (.int .i64 1) := cell_blk B8 1 _ rfl
          have q2 : (W5.setCell ⟨w3.heap.size, 4, none⟩ (.int .i64 1)).cell? ⟨w3.heap.size, 2, none⟩ = some (.int .i64 Y2) := cell_blk B8 2 _ rfl
          have q3 : (W5.setCell ⟨w3.heap.size, 4, none⟩ (.int .i64 1)).cell? ⟨w3.heap.size, 3, none⟩ = some (.string Y3) := cell_blk B8 3 _ rfl
          have q4 : (W5.setCell ⟨w3.heap.size, 4, none⟩ (.int .i64 1)).cell? ⟨w3.heap.size, 4, none⟩ = some (.int .i64 1) := cell_blk B8 4 _ rfl
          have b8 : Below wr.heap.size wr (W5.setCell ⟨w3.heap.size, 4, none⟩ (.int .i64 1)) := b7.setCell (p := ⟨w3.heap.size, 4, none⟩) bbs _
          have s8 : (W5.setCell ⟨w3.heap.size, 4, none⟩ (.int .i64 1)).heap.size = W5.heap.size := by simp
          have rn : ∀ t, ∀ j u, (encN (0, 1, Y2, Y3, 1))[j]? = some u → ((W5.setCell ⟨w3.heap.size, 4, none⟩ (.int .i64 1)).alloc (.cells #[.int .i64 0, .int .i64 1, .int .i64 Y2, .string Y3, .int .i64 1] t)).cell? ((⟨W5.heap.size, 0, none⟩ : Addr).add j) = some u := fun t j u h => by
            have h9 := run_new (W5.setCell ⟨w3.heap.size, 4, none⟩ (.int .i64 1)) (0, 1, Y2, Y3, 1) t j u h
            rw [s8] at h9
            exact h9
          have RN := Lib.hid rn
          have B8' := Lib.hid b8
          clear B7 B8 rn b8 s8
          go_region_with fail
          all_goals rw [HWK.out, HW5.out]
          all_goals go_wp2_with (at_builtin; refine wpList_append_own _ rfl _ _ 36 rfl w.heap.size 39 i0 _ 5 48 Try.underlying36 hi ze zs zb rfl (by decide) (.slice ao acc.length co) _ (cellsN acc) rfl (ownsRow_below O.out (B8'.out.alloc B8'.out.size _)) ⟨W5.heap.size, 0, none⟩ 1 1 (encN (0, 1, Y2, Y3, 1)) rfl rfl (RN.out _) (by simp [encN, Value.oneCell']) (by have := HL.out; unfold maxLen; omega) (by have := HL.out; omega) (by have h8 := S7.out; have h9 := hle3.out; simp; omega) ?_; intro v5 w5 own5 grow5 _)
          all_goals go_roundw
          all_goals first
            | exact ⟨0 + 1, acc ++ [(0, 1, Y2, Y3, 1)], hlt, by go_num, Lib.hid (by rw [List.length_append, List.length_singleton, cellsN_snoc]; exact own5), Lib.hid ((HB.out.trans ((B8'.out.alloc B8'.out.size _).mono HB.out.size)).grown grow5 (by have h8 := S7.out; have h9 := hle3.out; simp; omega) (fun j hj => (O.out.lt j hj).1)), HN⟩
            | (simp [RowKit.intOf]; omega)
        · have hcur : curN l 0 (0 + 1) = (0, 1, Y2, Y3, 0) := by
            unfold curN
            rw [HY.out, if_neg h10]; rfl
          rw [hcur] at HN
          have h10b : (Y1 == 10) = false := by simpa using h10
          clear hcur
          have q0 : W5.cell? ⟨w3.heap.size, 0, none⟩ = some (.int .i64 0) := cell_blk B7 0 _ rfl
          have q1 : W5.cell? ⟨w3.heap.size, 1, none⟩ = some (.int .i64 1) := cell_blk B7 1 _ rfl
          have q2 : W5.cell? ⟨w3.heap.size, 2, none⟩ = some (.int .i64 Y2) := cell_blk B7 2 _ rfl
          have q3 : W5.cell? ⟨w3.heap.size, 3, none⟩ = some (.string Y3) := cell_blk B7 3 _ rfl
          have q4 : W5.cell? ⟨w3.heap.size, 4, none⟩ = some (.int .i64 0) := cell_blk B7 4 _ rfl
          have RN := Lib.hid (fun t => run_new W5 (0, 1, Y2, Y3, 0) t)
          have B8' := Lib.hid b7
          clear B7
          go_region_with fail
          all_goals rw [HWK.out, HW5.out]
          all_goals go_wp2_with (at_builtin; refine wpList_append_own _ rfl _ _ 36 rfl w.heap.size 39 i0 _ 5 48 Try.underlying36 hi ze zs zb rfl (by decide) (.slice ao acc.length co) _ (cellsN acc) rfl (ownsRow_below O.out (B8'.out.alloc B8'.out.size _)) ⟨W5.heap.size, 0, none⟩ 1 1 (encN (0, 1, Y2, Y3, 0)) rfl rfl (RN.out _) (by simp [encN, Value.oneCell']) (by have := HL.out; unfold maxLen; omega) (by have := HL.out; omega) (by have h8 := S7.out; have h9 := hle3.out; simp; omega) ?_; intro v5 w5 own5 grow5 _)
          all_goals go_roundw
          all_goals first
            | exact ⟨0 + 1, acc ++ [(0, 1, Y2, Y3, 0)], hlt, by go_num, Lib.hid (by rw [List.length_append, List.length_singleton, cellsN_snoc]; exact own5), Lib.hid ((HB.out.trans ((B8'.out.alloc B8'.out.size _).mono HB.out.size)).grown grow5 (by have h8 := S7.out; have h9 := hle3.out; simp; omega) (fun j hj => (O.out.lt j hj).1)), HN⟩
            | (simp [RowKit.intOf]; omega)
      · obtain ⟨i, hi1⟩ : ∃ i, k - 1 = i := ⟨_, rfl⟩
        have hk1 : (k : Int) - 1 = (i : Int) := by omega
        have hk2 : (0 : Int) < (k : Int) := by omega
        have hwi : IntKind.i64.wrap (i : Int) = (i : Int) := IntWalk.i64_in _ (by omega)
        have hil : i < l.length := by omega
        have hiI : (i : Int) < (n : Int) := by omega
        obtain ⟨x1, x2, x3⟩ := HCW.out i hil
        rw [← atR_in hil] at x1 x2 x3
        obtain ⟨X, hX⟩ : ∃ X, atR l i = X := ⟨_, rfl⟩
        rw [hX] at x1 x2 x3
        have hal := cal X (Y1, Y2, Y3)
        obtain ⟨M, hM⟩ : ∃ M, alikeB X (Y1, Y2, Y3) = M := ⟨_, rfl⟩
        rw [hM] at hal
        have HM : Hid (alikeB (atR l (k - 1)) (atR l k) = M) := Lib.hid (by rw [hi1, hX, HY.out, hM])
        obtain ⟨X1, X2, X3⟩ := X
        dsimp only at x1 x2 x3 hal
        clear hX hM hi1
        cases M with
        | true =>
          obtain ⟨pre, f, hacc, HN0⟩ := acc_on HA.out hk0 hkl HM.out
          have hal2 := acc_len HA.out (by omega)
          rw [N.out] at hal2
          rw [hacc] at O hal2 ⊢
          rw [List.length_append, List.length_singleton] at O hal2 ⊢
          have HN := Lib.hid HN0
          obtain ⟨g, rfl⟩ : ∃ g, ao = some ⟨g, 0, none⟩ := by
            rcases O.out.2 with ⟨e, _⟩ | ⟨g, cap, cur, e, _⟩
            · simp only [Value.slice.injEq] at e; omega
            · simp only [Value.slice.injEq] at e; exact ⟨g, e.1⟩
          have hnc : pre.length + 1 ≤ co ∧ co ≤ maxLen := by
            rcases O.out.2 with ⟨e, _⟩ | ⟨g, cap, cur, e, _, _, h5, h6, _⟩
            · simp at e
            · simp only [Value.slice.injEq, true_and] at e; obtain ⟨_, rfl⟩ := e; exact ⟨h5, h6⟩
          have own2 : ∀ w3, Below wr.heap.size wr w3 → w3.ownsRow w.heap.size 39 5 (.slice (some ⟨g, 0, none⟩) (pre.length + 1) co) (pre.length + 1) (cellsN (pre ++ [curN l f k])) := fun w3 h => ownsRow_below O.out h
          have cel : (cellsN (pre ++ [curN l f k]))[pre.length * 5 + 1]? = some (.int .i64 (k : Int)) := by
            rw [cellsN_snoc, List.getElem?_append_right (by rw [cellsN_length]; omega), cellsN_length, Nat.add_sub_cancel_left]; rfl
          have clast := cellsN_last pre (curN l f k) ((k : Int) + 1)
          have e9 : ((curN l f k).1, (k : Int) + 1, (curN l f k).2.2) = curN l f (k + 1) := rfl
          rw [e9] at clast
          obtain ⟨R1, hR1⟩ : ∃ R, cellsN (pre ++ [curN l f k]) = R := ⟨_, rfl⟩
          obtain ⟨A2, hA2⟩ : ∃ R, pre ++ [curN l f (k + 1)] = R := ⟨_, rfl⟩
          have hA2l : A2.length = pre.length + 1 := by rw [← hA2]; simp
          rw [hR1] at own2 cel clast
          rw [hA2] at clast HN
          have own3 : ∀ w3, Below wr.heap.size wr w3 → w3.cell? ⟨g, pre.length * 5 + 1, none⟩ = some (.int .i64 (k : Int)) ∧ w3.frozen? ⟨g, pre.length * 5 + 1, none⟩ = false ∧ Hid ((w3.setCell ⟨g, pre.length * 5 + 1, none⟩ (.int .i64 ((k : Int) + 1))).ownsRow w.heap.size 39 5 (.slice (some ⟨g, 0, none⟩) (pre.length + 1) co) A2.length (cellsN A2)) ∧ w.heap.size ≤ g := fun w3 h => by
            have h0 := own2 w3 h
            refine ⟨(h0.cellAt _ (by omega)).trans cel, h0.frozenAt _, Lib.hid ?_, (h0.lt g rfl).1⟩
            rw [hA2l, ← clast]
            exact (h0.stored (pre.length * 5 + 1) (.int .i64 ((k : Int) + 1))).1
          obtain ⟨p, hp⟩ : ∃ p, pre.length = p := ⟨_, rfl⟩
          rw [hp] at own3 hal2 hnc ⊢
          unfold maxLen at hnc
          obtain ⟨hnc1, hnc2⟩ := hnc
          clear own2 cel clast hR1 hA2 hA2l hp O HA HM HN0 hacc e9
          go_wp2
          go_still_tail 12, (by kernel_rfl)
          change wpList _ _ _ _ _ wr.drew
          have b3 : Below wr.heap.size wr wr.drew := (Below.refl _ wr).drew
          obtain ⟨W, hW⟩ : ∃ W, wr.drew = W := ⟨_, rfl⟩
          rw [hW] at b3 ⊢
          clear hW
          have hwp : IntKind.i64.wrap (p : Int) = (p : Int) := IntWalk.i64_in _ (by omega)
          go_wp2_with (go_at_call 37; ((with_reducible refine (hal _).mono ?_); rintro e w3 ⟨rfl, hb3⟩; have bb := b3.trans (hb3.mono b3.size); obtain ⟨q1, q2, Q3, q4⟩ := own3 _ bb))
          go_roundw
          case rel => exact ⟨k + 1, A2, hlt, by go_num, Q3, Lib.hid ((HB.out.trans (bb.mono HB.out.size)).setCell (p := ⟨g, p * 5 + 1, none⟩) q4 _), HN⟩
          case measure => simp [RowKit.intOf]; omega
        | false =>
          have HN := Lib.hid (acc_new HA.out hk0 hkl HM.out)
          have HAcc := HA
          clear HA HM
          go_wp2
          go_still_tail 12, (by kernel_rfl)
          change wpList _ _ _ _ _ wr.drew
          have b3 : Below wr.heap.size wr wr.drew := (Below.refl _ wr).drew
          obtain ⟨W, hW⟩ : ∃ W, wr.drew = W := ⟨_, rfl⟩
          rw [hW] at b3 ⊢
          clear hW
          go_wp2_with (go_at_call 37; ((with_reducible refine (hal _).mono ?_); rintro e w3 ⟨rfl, hb3⟩; have bb := b3.trans (hb3.mono b3.size)))
          obtain ⟨y1, y2, y3⟩ := (HCW.out.below hbw bb) k hkl
          rw [← atR_in hkl, HY.out] at y1 y2 y3
          dsimp only at y1 y2 y3
          have hbw3 : b < w3.heap.size := Nat.lt_of_lt_of_le hbw bb.size
          clear x1 x2 x3 b3 hb3 hal
          have hwk : IntKind.i64.wrap ((k : Int) + 1) = (k : Int) + 1 := IntWalk.i64_in _ (by omega)
          have b7 : Below wr.heap.size wr (w3.alloc (.cells #[.int .i64 (k : Int), .int .i64 ((k : Int) + 1), .int .i64 Y2, .string Y3, .int .i64 0] 39)).drew := (bb.alloc bb.size _).drew
          have B7 : (w3.alloc (.cells #[.int .i64 (k : Int), .int .i64 ((k : Int) + 1), .int .i64 Y2, .string Y3, .int .i64 0] 39)).drew.heap[w3.heap.size]? = some (.cells #[.int .i64 (k : Int), .int .i64 ((k : Int) + 1), .int .i64 Y2, .string Y3, .int .i64 0] 39) := World.alloc_heap_new w3 _
          have s7 : (w3.alloc (.cells #[.int .i64 (k : Int), .int .i64 ((k : Int) + 1), .int .i64 Y2, .string Y3, .int .i64 0] 39)).drew.heap.size = w3.heap.size + 1 := World.size_alloc _ _
          obtain ⟨W5, hW5⟩ : ∃ W, (w3.alloc (.cells #[.int .i64 (k : Int), .int .i64 ((k : Int) + 1), .int .i64 Y2, .string Y3, .int .i64 0] 39)).drew = W := ⟨_, rfl⟩
          rw [hW5] at b7 B7 s7
          have HW5 := Lib.hid hW5
          clear hW5
          obtain ⟨v1, _, _⟩ := (HCW.out.below hbw b7) k hkl
          rw [← atR_in hkl, HY.out] at v1
          dsimp only at v1
          have bbs := bb.size
          have hbw5 : b < W5.heap.size := Nat.lt_of_lt_of_le hbw b7.size
          have hal2 := acc_len HAcc.out (by omega)
          rw [N.out] at hal2
          have HL := Lib.hid hal2
          have S7 := Lib.hid s7
          have HW := Lib.hid HB.out.size
          have hle3 : Hid (w.heap.size ≤ w3.heap.size) := Lib.hid (by have := HB.out.size; omega)
          clear hal2 s7
          have HWK := Lib.hid hwk
          clear hwk
          by_cases h10 : Y1 = 10
          · have hcur : curN l k (k + 1) = ((k : Int), ((k : Int) + 1), Y2, Y3, 1) := by
              unfold curN
              rw [HY.out, if_pos h10]; rfl
            rw [hcur] at HN
            clear hcur
            subst h10
            have B8 := heap_setCell_same W5 w3.heap.size 4 _ _ (.int .i64 1) B7
            have z4 : W5.cell? ⟨w3.heap.size, 4, none⟩ = some (.int .i64 0) := cell_blk B7 4 _ rfl
            have f4 := frozen_of_row W5 _ 4 _ _ B7
            have q0 : (W5.setCell ⟨w3.heap.size, 4, none⟩ (.int .i64 1)).cell? ⟨w3.heap.size, 0, none⟩ = some (.int .i64 (k : Int)) := cell_blk B8 0 _ rfl
            have q1 : (W5.setCell ⟨w3.heap.size, 4, none⟩ (.int .i64 1)).cell? ⟨w3.heap.size, 1, none⟩ = some (.int .i64 ((k : Int) + 1)) := cell_blk B8 1 _ rfl
            have q2 : (W5.setCell ⟨w3.heap.size, 4, none⟩ (.int .i64 1)).cell? ⟨w3.heap.size, 2, none⟩ = some (.int .i64 Y2) := cell_blk B8 2 _ rfl
            have q3 : (W5.setCell ⟨w3.heap.size, 4, none⟩ (.int .i64 1)).cell? ⟨w3.heap.size, 3, none⟩ = some (.string Y3) := cell_blk B8 3 _ rfl
            have q4 : (W5.setCell ⟨w3.heap.size, 4, none⟩ (.int .i64 1)).cell? ⟨w3.heap.size, 4, none⟩ = some (.int .i64 1) := cell_blk B8 4 _ rfl
            have b8 : Below wr.heap.size wr (W5.setCell ⟨w3.heap.size, 4, none⟩ (.int .i64 1)) := b7.setCell (p := ⟨w3.heap.size, 4, none⟩) bbs _
            have s8 : (W5.setCell ⟨w3.heap.size, 4, none⟩ (.int .i64 1)).heap.size = W5.heap.size := by simp
            have rn : ∀ t, ∀ j u, (encN ((k : Int), ((k : Int) + 1), Y2, Y3, 1))[j]? = some u → ((W5.setCell ⟨w3.heap.size, 4, none⟩ (.int .i64 1)).alloc (.cells #[.int .i64 (k : Int), .int .i64 ((k : Int) + 1), .int .i64 Y2, .string Y3, .int .i64 1] t)).cell? ((⟨W5.heap.size, 0, none⟩ : Addr).add j) = some u := fun t j u h => by
              have h9 := run_new (W5.setCell ⟨w3.heap.size, 4, none⟩ (.int .i64 1)) ((k : Int), ((k : Int) + 1), Y2, Y3, 1) t j u h
              rw [s8] at h9
              exact h9
            have RN := Lib.hid rn
            have B8' := Lib.hid b8
            clear B7 B8 rn b8 s8
            go_region_with fail
            all_goals rw [HWK.out, HW5.out]
            all_goals go_wp2_with (at_builtin; refine wpList_append_own _ rfl _ _ 36 rfl w.heap.size 39 i0 _ 5 48 Try.underlying36 hi ze zs zb rfl (by decide) (.slice ao acc.length co) _ (cellsN acc) rfl (ownsRow_below O.out (B8'.out.alloc B8'.out.size _)) ⟨W5.heap.size, 0, none⟩ 1 1 (encN ((k : Int), ((k : Int) + 1), Y2, Y3, 1)) rfl rfl (RN.out _) (by simp [encN, Value.oneCell']) (by have := HL.out; unfold maxLen; omega) (by have := HL.out; omega) (by have h8 := S7.out; have h9 := hle3.out; simp; omega) ?_; intro v5 w5 own5 grow5 _)
            all_goals go_roundw
            all_goals first
              | exact ⟨k + 1, acc ++ [((k : Int), ((k : Int) + 1), Y2, Y3, 1)], hlt, by go_num, Lib.hid (by rw [List.length_append, List.length_singleton, cellsN_snoc]; exact own5), Lib.hid ((HB.out.trans ((B8'.out.alloc B8'.out.size _).mono HB.out.size)).grown grow5 (by have h8 := S7.out; have h9 := hle3.out; simp; omega) (fun j hj => (O.out.lt j hj).1)), HN⟩
              | (simp [RowKit.intOf]; omega)
          · have hcur : curN l k (k + 1) = ((k : Int), ((k : Int) + 1), Y2, Y3, 0) := by
              unfold curN
              rw [HY.out, if_neg h10]; rfl
            rw [hcur] at HN
            have h10b : (Y1 == 10) = false := by simpa using h10
            clear hcur
            have q0 : W5.cell? ⟨w3.heap.size, 0, none⟩ = some (.int .i64 (k : Int)) := cell_blk B7 0 _ rfl
            have q1 : W5.cell? ⟨w3.heap.size, 1, none⟩ = some (.int .i64 ((k : Int) + 1)) := cell_blk B7 1 _ rfl
            have q2 : W5.cell? ⟨w3.heap.size, 2, none⟩ = some (.int .i64 Y2) := cell_blk B7 2 _ rfl
            have q3 : W5.cell? ⟨w3.heap.size, 3, none⟩ = some (.string Y3) := cell_blk B7 3 _ rfl
            have q4 : W5.cell? ⟨w3.heap.size, 4, none⟩ = some (.int .i64 0) := cell_blk B7 4 _ rfl
            have RN := Lib.hid (fun t => run_new W5 ((k : Int), ((k : Int) + 1), Y2, Y3, 0) t)
            have B8' := Lib.hid b7
            clear B7
            go_region_with fail
            all_goals rw [HWK.out, HW5.out]
            all_goals go_wp2_with (at_builtin; refine wpList_append_own _ rfl _ _ 36 rfl w.heap.size 39 i0 _ 5 48 Try.underlying36 hi ze zs zb rfl (by decide) (.slice ao acc.length co) _ (cellsN acc) rfl (ownsRow_below O.out (B8'.out.alloc B8'.out.size _)) ⟨W5.heap.size, 0, none⟩ 1 1 (encN ((k : Int), ((k : Int) + 1), Y2, Y3, 0)) rfl rfl (RN.out _) (by simp [encN, Value.oneCell']) (by have := HL.out; unfold maxLen; omega) (by have := HL.out; omega) (by have h8 := S7.out; have h9 := hle3.out; simp; omega) ?_; intro v5 w5 own5 grow5 _)
            all_goals go_roundw
            all_goals first
              | exact ⟨k + 1, acc ++ [((k : Int), ((k : Int) + 1), Y2, Y3, 0)], hlt, by go_num, Lib.hid (by rw [List.length_append, List.length_singleton, cellsN_snoc]; exact own5), Lib.hid ((HB.out.trans ((B8'.out.alloc B8'.out.size _).mono HB.out.size)).grown grow5 (by have h8 := S7.out; have h9 := hle3.out; simp; omega) (fun j hj => (O.out.lt j hj).1)), HN⟩
              | (simp [RowKit.intOf]; omega)
    · have hkn : k = n := by omega
      subst hkn
      have he := HA.out
      rw [← N.out] at he
      have he2 := acc_end he
      subst he2
      go_wp2
      go_ret
      exact ⟨_, rfl, O.out, HB.out⟩

end Go.Proofs.Ytiaoflagjaclmaa
