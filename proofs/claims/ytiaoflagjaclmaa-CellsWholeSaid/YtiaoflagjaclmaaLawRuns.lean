/-
  The law of Runs, Around, Within.
-/
import Derived.Test.YtiaoflagjaclmaaDocRuns
import Derived.Test.YtiaoflagjaclmaaAround
import Derived.Test.YtiaoflagjaclmaaAwake
import Derived.Test.YtiaoflagjaclmaaLong
import Derived.Laws.StructEq
namespace Go.Proofs.Ytiaoflagjaclmaa
open Go.RowKit Go.Lib

theorem cellsN_at : ∀ (l : List Rn) (j : Nat), j < l.length → (cellsN l)[j * 5]? = some (.int .i64 (l[j]!).1) ∧ (cellsN l)[j * 5 + 1]? = some (.int .i64 (l[j]!).2.1) ∧ (cellsN l)[j * 5 + 2]? = some (.int .i64 (l[j]!).2.2.1) ∧ (cellsN l)[j * 5 + 3]? = some (.string (l[j]!).2.2.2.1) ∧ (cellsN l)[j * 5 + 4]? = some (.int .i64 (l[j]!).2.2.2.2)
  | [], j, h => by simp at h
  | a :: l, 0, _ => ⟨rfl, rfl, rfl, rfl, rfl⟩
  | a :: l, j + 1, h => by
    have ih := cellsN_at l j (by simpa using h)
    have e : cellsN (a :: l) = .int .i64 a.1 :: .int .i64 a.2.1 :: .int .i64 a.2.2.1 :: .string a.2.2.2.1 :: .int .i64 a.2.2.2.2 :: cellsN l := rfl
    have e1 : (j + 1) * 5 = j * 5 + 1 + 1 + 1 + 1 + 1 := by omega
    rw [e, e1]
    simpa using ih
/-- A row of runs of one's own, read at a place. -/
theorem runs_at {w : World} {B k : Nat} {a : Option Addr} {c : Nat} {l : List Rn} (h : w.ownsRow B 39 5 (.slice a l.length c) l.length (cellsN l)) (hk : k < l.length) :
    ∃ g, a = some ⟨g, 0, none⟩ ∧ g < w.heap.size ∧ l.length ≤ c ∧ c ≤ maxLen ∧ w.cell? ⟨g, k * 5, none⟩ = some (.int .i64 (l[k]!).1) ∧ w.cell? ⟨g, k * 5 + 1, none⟩ = some (.int .i64 (l[k]!).2.1) ∧ w.cell? ⟨g, k * 5 + 2, none⟩ = some (.int .i64 (l[k]!).2.2.1)
      ∧ w.cell? ⟨g, k * 5 + 3, none⟩ = some (.string (l[k]!).2.2.2.1) ∧ w.cell? ⟨g, k * 5 + 4, none⟩ = some (.int .i64 (l[k]!).2.2.2.2) := by
  have h0 := h
  rcases h.2 with ⟨e, he⟩ | ⟨g, cap, cur, e, _, hg, hnc, hcm, _⟩
  · omega
  · simp only [Value.slice.injEq, true_and] at e
    obtain ⟨rfl, rfl⟩ := e
    obtain ⟨y0, y1, y2, y3, y4⟩ := cellsN_at l k hk
    exact ⟨g, rfl, (Array.getElem?_eq_some_iff.1 hg).1, hnc, hcm, (h0.cellAt _ (by omega)).trans y0, (h0.cellAt _ (by omega)).trans y1, (h0.cellAt _ (by omega)).trans y2, (h0.cellAt _ (by omega)).trans y3, (h0.cellAt _ (by omega)).trans y4⟩
theorem neqRun (a b c d : Int) (h : ByteArray) (W : World) : (binOp .neq 39 (.agg #[.int .i64 a, .int .i64 b, .int .i64 c, .string h, .int .i64 d]) (.agg #[.int .i64 a, .int .i64 b, .int .i64 c, .string h, .int .i64 d])).run Try.prog W = .ok (.bool false) W := by
  have u3 := Try.underlying9
  have a3 := Try.isAgg9
  have z3 := Try.sizeOf9
  have hS : Try.prog.underlying 39 = some (.struct (Try.prog.fieldsOf 39)) := by kernel_rfl
  have hp : Try.prog.stoodInHeld 39 = false := by kernel_rfl
  rw [run_neq_struct, show (10000 : Nat) = 9999 + 1 from rfl, run_equalIn_agg W 9999 39 _ _ hS hp]
  simp only [Program.fieldsOf, Try.underlying39]
  go_simp

set_option maxHeartbeats 16000000 in
theorem lawRuns_walk (v : Value) (l : Row) (z : Int) (w : World) (hv : RowAt w v l) (hs : Sized l) :
    Calls Try.prog 5 #[v, .int .i64 z] w fun e w' => e = .returned (.bool true) ∧ Below w.heap.size w w' := by
  have haw := fun w => awake_any w
  have cL1 := long_any v l w hv hs
  by_cases b1 : longB l = true
  · rw [b1] at cL1
    clear hv hs
    go_enter Try.func5, Try.ntmps5
    go_wp2_with (first
      | (go_at_call 13; ((with_reducible refine cL1.mono ?_); rintro e w1 ⟨rfl, rfl⟩))
      | (go_at_call 9; ((with_reducible refine (haw _).mono ?_); rintro e w1 ⟨rfl, hb1⟩)))
    go_ret
    exact ⟨rfl, hb1⟩
  have b1' : longB l = false := by simpa using b1
  rw [b1'] at cL1
  have n1 := longB_false b1'
  have cR := Runs_any v l w hv (by omega)
  have cS := fun w h => rruns_any v l w h (by omega)
  have cA := fun w h => around_any v l z w h (by omega)
  have cB := fun w h => raround_any v l z w h
  have cW := fun w h => within_any v l z w h (by omega)
  have cX := fun w h => rwithin_any v l z w h (by omega)
  unfold withinV at cW cX
  unfold RunsPost at cR cS
  have hrl := runsR_length l 0
  obtain ⟨Rs, hRs⟩ : ∃ R, runsR l 0 = R := ⟨_, rfl⟩
  rw [hRs] at cR cS hrl
  obtain ⟨p, hp⟩ : ∃ p, placeN l.length z = p := ⟨_, rfl⟩
  rw [hp] at cA cB cW cX
  obtain ⟨X1, hX1⟩ : ∃ X, arB l p = X := ⟨_, rfl⟩
  obtain ⟨X2, hX2⟩ : ∃ X, arH l p = X := ⟨_, rfl⟩
  rw [hX1, hX2] at cA cB
  obtain ⟨⟨Y1, Y2⟩, hY⟩ : ∃ X, withinR l p = X := ⟨_, rfl⟩
  rw [hY] at cW cX
  dsimp only at cW cX
  have V := Lib.hid hv
  obtain ⟨N, hN⟩ : ∃ N, Rs.length = N := ⟨_, rfl⟩
  rw [hN] at cR cS hrl
  have HN := Lib.hid hN
  have hNb : N ≤ 20000 := by omega
  have hm : Try.prog.eqGuardType Try.prog.depth 39 = false := by kernel_rfl
  have hq := neqRun
  clear hv hs b1 b1' hRs hp hX1 hX2 hY hN hrl n1
  go_enter Try.func5, Try.ntmps5
  go_wp2_with (first
    | (go_at_call 13; ((with_reducible refine cL1.mono ?_); rintro e w1 ⟨rfl, rfl⟩))
    | (go_at_call 22; ((with_reducible refine cR.mono ?_); rintro e w1 ⟨v1, rfl, own1, hb⟩; have A1 := Lib.hid own1; replace V := Lib.hid (V.out.below hb); obtain ⟨a1, c1, e1⟩ := own_len own1; subst e1; clear own1))
    | (go_at_call 23; ((with_reducible refine (cS _ V.out).mono ?_); rintro e w2 ⟨v2, rfl, own2, hb2⟩; have A2 := Lib.hid own2; replace A1 := Lib.hid (ownsRow_below A1.out hb2); replace V := Lib.hid (V.out.below hb2); replace hb := hb.trans (hb2.mono hb.size); obtain ⟨a2, c2, e2⟩ := own_len own2; subst e2; clear own2)))
  go_loopw [7] (fun i wr => ∃ k : Nat, k ≤ N ∧ i = .int .i64 k ∧ ∃ q, wr = w2.drewN q) (fun i _ => N - (RowKit.intOf i).toNat)
  case atStart => exact ⟨0, Nat.zero_le _, rfl, 0, rfl⟩
  case round =>
    obtain ⟨k, hk, rfl, q, rfl⟩ := hrel
    by_cases hlt : k < N
    · have hkI : (k : Int) < (N : Int) := by omega
      have h1 := A1.out
      have h2 := A2.out
      rw [← HN.out] at h1 h2
      obtain ⟨g1, rfl, hg1, hn1, hm1, x0, x1, x2, x3, x4⟩ := runs_at h1 (by rw [HN.out]; exact hlt)
      obtain ⟨g2, rfl, hg2, hn2, hm2, y0, y1, y2, y3, y4⟩ := runs_at h2 (by rw [HN.out]; exact hlt)
      rw [HN.out] at hn1 hn2
      unfold maxLen at hm1 hm2
      obtain ⟨R, hR⟩ : ∃ R, Rs[k]! = R := ⟨_, rfl⟩
      rw [hR] at x0 x1 x2 x3 x4 y0 y1 y2 y3 y4
      clear hR h1 h2
      obtain ⟨r0, r1, r2, r3, r4⟩ := R
      dsimp only at x0 x1 x2 x3 x4 y0 y1 y2 y3 y4
      go_wp2
      go_quiet (fail)
      go_wp2
      go_roundw
      case rel => exact ⟨k + 1, hlt, by go_num, _, rfl⟩
      case measure => simp [RowKit.intOf]; omega
    · have hkn : k = N := by omega
      subst hkn
      have hd := below_draws w2 q
      obtain ⟨w3, hw3⟩ : ∃ W, w2.drewN q = W := ⟨_, rfl⟩
      rw [hw3] at hd ⊢
      replace V := Lib.hid (V.out.below hd)
      replace hb := hb.trans (hd.mono hb.size)
      clear hw3 hd
      go_wp2_with (first
        | (go_at_call 24; ((with_reducible refine (cA _ V.out).mono ?_); rintro e w4 ⟨rfl, hb4⟩; replace V := Lib.hid (V.out.below hb4); replace hb := hb.trans (hb4.mono hb.size)))
        | (go_at_call 25; ((with_reducible refine (cB _ V.out).mono ?_); rintro e w5 ⟨rfl, hb5⟩; replace V := Lib.hid (V.out.below hb5); replace hb := hb.trans (hb5.mono hb.size)))
        | (go_at_call 26; ((with_reducible refine (cW _ V.out).mono ?_); rintro e w6 ⟨rfl, hb6⟩; replace V := Lib.hid (V.out.below hb6); replace hb := hb.trans (hb6.mono hb.size)))
        | (go_at_call 27; ((with_reducible refine (cX _ V.out).mono ?_); rintro e w7 ⟨rfl, rfl⟩))
        | (go_at_call 9; ((with_reducible refine (haw _).mono ?_); rintro e w8 ⟨rfl, hb8⟩; replace hb := hb.trans (hb8.mono hb.size))))
      go_ret
      exact ⟨rfl, hb⟩

end Go.Proofs.Ytiaoflagjaclmaa
