/-
  What is done to a line of its own: indent.
-/
import Derived.Test.YtmlipcedkgfmiaaDoorDoB
import Derived.Deep.RegionLawGrows
namespace Go.Proofs.YtmlipcedkgfmiaaDoor
open Go.RowKit Go.Lib

def indentS (L : Ln) : Int × Ln := if L.ls.length = 6 ∨ (L.ls.length = 0 ∧ L.q = 6) then (7, ln0) else if 0 < L.ls.length then (0, { L with ls := L.ls ++ [L.ls[L.ls.length - 1]!] }) else (0, { L with q := L.q + 1 })

/-- New ints are laid into the line's box. -/
theorem mine_new {B C D b j : Nat} {w w' : World} {sl v sc : Value} {ls ls' : IRow} {cs : Row} (h : MineLn B C w sl sc ls cs) (hbw : Below w.heap.size w w') (ho : w'.ownsRow D 3 1 v ls'.length (cellsZ ls')) (hD : w.heap.size ≤ D) (hC : C ≤ b) (hb : b < w.heap.size) (hB : B ≤ C) (u : Value) :
    MineLn B (w'.setCell ⟨b, j, none⟩ u).heap.size (w'.setCell ⟨b, j, none⟩ u) v sc ls' cs := by
  have hs := hbw.size
  have hz := (mineZ_of_own ho).mono hD (Nat.le_refl _)
  refine ⟨(hz.kept (kept_set w' ⟨b, j, none⟩ u (.inl hb))).mono (by omega) (by simp [World.setCell]), ((h.r.kept (kept_of_below hbw)).kept (kept_set w' ⟨b, j, none⟩ u (.inr hC))).mono (Nat.le_refl _) (by simp [World.setCell]; omega), ?_⟩
  intro h1 h2 g o n c g' o' n' c' e e' hgg
  have k1 := (hz.mine h1 _ _ _ _ e).1
  have k2 := (h.r.mine h2 _ _ _ _ e').2.1
  omega

set_option maxRecDepth 20000 in
set_option maxHeartbeats 8000000 in
theorem indent_any (q k : Int) (sl sc : Value) (ls : IRow) (cs : Row) (B C b : Nat) (w : World) (HB : BoxAt w b q sl k sc) (HM : MineLn B C w sl sc ls cs) (hBC : B ≤ C) (hC : C ≤ b) (hq : 0 ≤ q ∧ q ≤ 6) (hls : ls.length ≤ 6) :
    Calls Tryd.prog 52 #[.pointer (some ⟨b, 0, none⟩)] w (DoPost B b (indentS ⟨q, ls, k, cs⟩) w) := by
  have hbl := HB.lt
  have HB' := Lib.hid HB
  obtain ⟨_, x0, x1, x2, x3, y0, y1, y2, y3⟩ := HB
  obtain ⟨a, c, e1, hnc, hcm⟩ := HM.z.here.cap
  subst e1
  unfold maxLen at hcm
  obtain ⟨hq1, hq2⟩ := hq
  unfold indentS
  have HM' := Lib.hid HM
  by_cases h6 : ls.length = 6
  · rw [if_pos (.inl h6)]
    rw [h6] at x1
    clear HM HM' h6 hls
    go_enter Tryd.func52, Tryd.ntmps52
    go_wp2
    go_ret
    exact ⟨rfl, Below.refl _ _, fun h => absurd h (by decide)⟩
  · by_cases h0 : ls.length = 0
    · by_cases hq6 : q = 6
      · rw [if_pos (.inr ⟨h0, hq6⟩)]
        rw [h0] at x1
        subst hq6
        clear HM HM' h6 hls h0
        go_enter Tryd.func52, Tryd.ntmps52
        go_wp2
        go_ret
        exact ⟨rfl, Below.refl _ _, fun h => absurd h (by decide)⟩
      · rw [if_neg (fun h => h.elim h6 (fun h => hq6 h.2)), if_neg (by dsimp only; omega)]
        rw [h0] at x1 HB' HM'
        have hq7 : (q == 6) = false := by simpa using hq6
        have hw1 : IntKind.i64.wrap (q + 1) = q + 1 := IntWalk.i64_in _ (by omega)
        clear HM h6 hls h0
        go_enter Tryd.func52, Tryd.ntmps52
        go_wp2
        go_ret
        exact ⟨rfl, below_box hBC hC _, fun _ => ⟨_, _, HB'.out.set0 _, mine_box HM'.out hC hbl _⟩⟩
    · rw [if_neg (fun h => h.elim h6 (fun h => h0 h.1)), if_pos (show 0 < ls.length by omega)]
      obtain ⟨g, o, c', e2, _, _, hgl, hIn⟩ := HM.z.here.lies (by omega)
      simp only [Value.slice.injEq, true_and] at e2
      obtain ⟨rfl, rfl⟩ := e2
      have d1 := hIn (ls.length - 1) (by omega)
      obtain ⟨n, hn⟩ : ∃ n, ls.length = n + 1 := ⟨ls.length - 1, by omega⟩
      rw [hn] at x1 hnc HB' h6 hls
      dsimp only
      rw [hn, Nat.add_sub_cancel] at d1 ⊢
      obtain ⟨X, hX⟩ : ∃ X, ls[n]! = X := ⟨_, rfl⟩
      rw [hX] at d1 ⊢
      have hw1 : IntKind.i64.wrap (((n + 1 : Nat) : Int) - 1) = (n : Int) := by rw [IntWalk.i64_in _ (by omega)]; omega
      have hw2 : IntKind.i64.wrap ((n : Int) + 1 - 1) = (n : Int) := by rw [IntWalk.i64_in _ (by omega)]; omega
      have hw3 : IntKind.i64.wrap (n : Int) = (n : Int) := IntWalk.i64_in _ (by omega)
      have n0 : (0 : Int) ≤ (n : Int) + 1 := by omega
      have n1 : (0 : Int) ≤ (n : Int) := by omega
      have n2 : ((n : Int) + 1).toNat = n + 1 := by omega
      have n6 : ¬ ((n : Int) + 1 = 6) := by omega
      have nn : (n : Int) < (n : Int) + 1 := by omega
      have nc : (n : Int) + 1 ≤ (c : Int) := by omega
      have HN := Lib.hid hn
      have HI := Lib.hid hIn
      obtain ⟨i0, hi, hz0, hz1, hz2⟩ := info_parts infoInt
      clear HM h0 hX hn hIn
      go_enter Tryd.func52, Tryd.ntmps52
      go_wp2
      go_region_law (refine step_append_grows rfl _ _ 22 rfl 3 i0 _ 1 8 Tryd.underlying22 hi hz0 hz1 hz2 rfl (by decide) (some ⟨g, o, none⟩) (n + 1) (n + 1) (cellsZ ls) rfl (fun h => by cases h) (by rw [cellsZ_length, HN.out, Nat.mul_one]) ?hold _ 1 1 [.int .i64 X] rfl rfl ?hnew (by simp [Value.oneCell']) (by omega) (by unfold maxLen; omega) (by omega) ?_; (case hold => (intro bb e; cases e; exact (HI.out.below hgl (by (repeat (first | (with_reducible exact Below.refl _ _) | assumption | (with_reducible refine Below.drew ?_) | (with_reducible refine Below.alloc ?_ ?_ _) | omega | (simp <;> omega))))).addF)); (case hnew => (intro j u hu; match j, hu with | 0, hu => (cases hu; simp [go_sem, Addr.add]) | j + 1, hu => (simp at hu))); intro v' w' hown hgrow; have hbw : Below w.heap.size w w' := (show Below w.heap.size w _ by (repeat (first | (with_reducible exact Below.refl _ _) | assumption | (with_reducible refine Below.drew ?_) | (with_reducible refine Below.alloc ?_ ?_ _) | omega | (simp <;> omega)))).grown hgrow (by first | omega | (simp <;> omega)) (fun k e => by cases e); obtain ⟨a', c', rfl⟩ := own_len hown; have HO := Lib.hid (own_appZ (l := ls) (m := [X]) hown HN.out rfl); have hy1 := (HB'.out.below hbw).f1; have hx1 := (HB'.out.below hbw).c1; clear hown hgrow)
      all_goals clear hw1 hw2 hw3
      all_goals go_wp2
      all_goals go_ret
      all_goals exact ⟨rfl, (hbw.mono (by omega)).trans (below_box hBC hC _), fun _ => ⟨_, _, (HB'.out.below hbw).set1 _, mine_new HM'.out hbw HO.out (by first | omega | (simp <;> omega)) hC hbl hBC _⟩⟩

end Go.Proofs.YtmlipcedkgfmiaaDoor
