/-
  The program's between: an iterator over the stretches between two places.
-/
import Derived.Test.YtafincmcmgedbaaGreatDoorCDocO
import Derived.Test.YtafincmcmgedbaaGreatDoorCRangeL
import Derived.Shelf.Abstract
import Derived.Shelf.RegionOpen
import Derived.OwnWalkIn
import Derived.OwnWalk
import Derived.TacticsInMore
import Derived.LoopNIn
import Derived.LoopIn
import Derived.Sort.LoopGhostIn
import Derived.Laws.EntriesVeiled
import Derived.Deep.AppendLies
import Derived.Deep.Onto

namespace Go.Proofs.YtafincmcmgedbaaGreatDoor
open Go.RowKit Go.Lib Go.Shelf
attribute [local go_sem] Oper.semAt_some

theorem cell_blk {w : World} {g : Nat} {cs : Array Value} {t : TypeId} (h : w.heap[g]? = some (.cells cs t)) (j : Nat) (v : Value) (hv : cs[j]? = some v) : w.cell? ⟨g, j, none⟩ = some v := by
  rw [cell_of_row w g j cs t (0, 0) h]; exact hv
def stV (s : St) : Array Value := #[.agg #[.int .i64 (s.1 : Int), .int .i64 (s.2.1 : Int), .int .i64 (s.2.2 : Int)]]

set_option maxHeartbeats 4000000 in
theorem between_any (a : Option Addr) (n c : Nat) (al aa bl ba : Int) (w : World) :
    Calls Tryz.prog 98 #[.slice a n c, psV (al, aa), psV (bl, ba)] w fun e w' =>
      e = .returned (.func (.func 125) #[] #[.pointer (some ⟨w.heap.size + 1, 0, none⟩), .pointer (some ⟨w.heap.size + 2, 0, none⟩), .pointer (some ⟨w.heap.size, 0, none⟩)]) ∧ w'.heap.size = w.heap.size + 3 ∧ Below w.heap.size w w' ∧
      w'.cell? ⟨w.heap.size, 0, none⟩ = some (.slice a n c) ∧ PsAt w' (w.heap.size + 1) al aa ∧ PsAt w' (w.heap.size + 2) bl ba := by
  have e1 : (w.alloc (.cells #[.slice a n c] 22)).heap.size = w.heap.size + 1 := by simp
  have P1 := ps_new (w.alloc (.cells #[.slice a n c] 22)) al aa
  have P2 := ps_new ((w.alloc (.cells #[.slice a n c] 22)).alloc (.cells #[.int .i64 al, .int .i64 aa] 24)) bl ba
  have e2 : ((w.alloc (.cells #[.slice a n c] 22)).alloc (.cells #[.int .i64 al, .int .i64 aa] 24)).heap.size = w.heap.size + 2 := by simp
  replace P1 := P1.below (below_alloc1 _ (.cells #[.int .i64 bl, .int .i64 ba] 24))
  rw [e1] at P1
  rw [e2] at P2
  have P := Lib.hid (And.intro P1 P2)
  clear P1 P2 e1 e2
  go_enter Tryz.func98, Tryz.ntmps98
  go_wp2
  go_ret
  exact ⟨rfl, by simp, ((below_alloc1 w _).alloc (by simp) _).alloc (by simp; omega) _, by simp [go_sem], P.out.1, P.out.2⟩

theorem st_new (w : World) (i f t : Int) : (w.alloc (.cells #[.int .i64 i, .int .i64 f, .int .i64 t] 98)).heap[w.heap.size]? = some (.cells #[.int .i64 i, .int .i64 f, .int .i64 t] 98) := World.alloc_heap_new w _

set_option maxRecDepth 20000 in
set_option maxHeartbeats 16000000 in
theorem between_goes (B : Nat) (a : Option Addr) (c : Nat) (l : List Lw) (al aa bl ba : Nat) (hf : Fine (pl l)) (hsp : Span (pl l) al aa bl ba) (Kg : World → Prop) (hKv : ∀ W, Kg W → SliceAt W (.slice a l.length c) l) (w : World) (hB : w.heap.size = B + 3) (h1 : w.cell? ⟨B, 0, none⟩ = some (.slice a l.length c)) (P1 : PsAt w (B + 1) al aa) (P2 : PsAt w (B + 2) bl ba) :
    Goes Tryz.prog 125 #[.pointer (some ⟨B + 1, 0, none⟩), .pointer (some ⟨B + 2, 0, none⟩), .pointer (some ⟨B, 0, none⟩)] stV (fun xs => xs = strs (pl l) al aa bl ba) (fun pre => pre <+: strs (pl l) al aa bl ba) (fun pre x => pre ++ [x] <+: strs (pl l) al aa bl ba) Kg B w := fun y J Jx W hW hJ hK hJl hY h0 => by
  replace h1 := (hW.cell (p := ⟨B, 0, none⟩) (by simp; omega)).trans h1
  replace P1 := P1.below hW
  replace P2 := P2.below hW
  have hWs := hW.size
  rw [hB] at hWs
  have hrow := fun s row W1 h => hKv W1 (hK s row W1 h)
  have hln := hf.len
  have hc := hf.cnt
  obtain ⟨n, hn⟩ : ∃ n, l.length = n := ⟨_, rfl⟩
  rw [hn] at h1 hln
  have N := Lib.hid hn
  have SP := Lib.hid hsp
  obtain ⟨_, x0, x1, _, _⟩ := P1
  obtain ⟨_, y0, y1, _, _⟩ := P2
  have hbl : bl < n := by have := hsp.hb; rw [pl_length, hn] at this; exact this
  have hab := hsp.hab
  refine callsIn_of_wp Tryz.func125 rfl trivial ?_ rfl
  simp only [Tryz.ntmps125, List.size_toArray, List.length_cons, List.length_nil, Nat.reduceAdd, Nat.reduceSub, Array.replicate_succ, Array.replicate_zero, List.push_toArray, List.append_toArray, List.nil_append, List.cons_append]
  gi_wp2
  gi_loopg [5, 6] (bl + 1 - al) (fun gk s5 _ wx => ∃ (i : Nat) (pre : List St) (row : Nat → Prop), s5 = .int .i64 i ∧ al ≤ i ∧ i ≤ bl + 1 ∧ bl + 1 ≤ i + gk ∧ Hid (strs (pl l) al aa bl ba = pre ++ strsF (pl l) al aa bl ba i) ∧ Hid (J pre row wx) ∧ W.heap.size ≤ wx.heap.size ∧ wx.cell? ⟨B, 0, none⟩ = some (.slice a n c) ∧ wx.cell? ⟨B + 1, 0, none⟩ = some (.int .i64 al) ∧ wx.cell? ⟨B + 1, 1, none⟩ = some (.int .i64 aa) ∧ wx.cell? ⟨B + 2, 0, none⟩ = some (.int .i64 bl) ∧ wx.cell? ⟨B + 2, 1, none⟩ = some (.int .i64 ba))
  case atStart => exact ⟨al, [], fun _ => False, rfl, Nat.le_refl _, by omega, by omega, Lib.hid rfl, Lib.hid h0, Nat.le_refl _, h1, x0, x1, y0, y1⟩
  case round =>
    obtain ⟨i, pre, row, rfl, hai, hib, hgk, HR, hj, hsz, c1, x0, x1, y0, y1⟩ := hrel
    by_cases hlt : i ≤ bl
    · have hil : i < l.length := by rw [N.out]; omega
      obtain ⟨b, o, ha, _, hlc, hcm, hbl2, q, za, n1, zc, kk, ra, rc, z0, z1, z2, z3⟩ := slice_lies_cnt (hrow pre row wr hj.out) hil
      have hck := hc i hil
      have hst := HR.out
      rw [strsF_step _ _ _ _ _ _ hlt] at hst
      unfold stN frN toN at hst
      obtain ⟨m, hm⟩ : ∃ m, cnt (pl l) i = m := ⟨_, rfl⟩
      rw [hm] at z3 hck hst
      unfold maxLen at hcm
      rw [N.out] at hlc
      subst ha
      have hrw : ∀ r, row r → r < wr.heap.size ∧ W.heap.size ≤ r := fun r e => hJl pre row wr hj.out r e
      have hyy := fun W1 x (hb : Below wr.heap.size wr W1) (hx : strs (pl l) al aa bl ba = pre ++ x :: strsF (pl l) al aa bl ba (i + 1)) => hY pre x row W1 (Nat.le_trans hsz hb.size) (hJ _ _ _ _ hj.out hb) (by rw [hx]; exact ⟨strsF (pl l) al aa bl ba (i + 1), by simp⟩)
      have hiI : (i : Int) ≤ (bl : Int) := by omega
      have hinI : (i : Int) < (n : Int) := by omega
      have hba := below_alloc1 wr (.cells #[.int .i64 (i : Int), .int .i64 0, .int .i64 (m : Int)] 98)
      have hnew := st_new wr (i : Int) 0 (m : Int)
      clear HR hm hrow
      by_cases e1 : i = al <;> by_cases e2 : i = bl
      · rw [if_pos e1, if_pos e2] at hst
        subst e1
        subst e2
        have HS := Lib.hid hst
        have hba0 := below_alloc1 wr (.cells #[.int .i64 (i : Int), .int .i64 (0 : Int), .int .i64 (m : Int)] 98)
        have g1 := (hba0.cell (p := ⟨B + 1, 0, none⟩) (show B + 1 < wr.heap.size by omega)).trans x0
        have g2 := (hba0.cell (p := ⟨B + 1, 1, none⟩) (show B + 1 < wr.heap.size by omega)).trans x1
        have g3 := (hba0.cell (p := ⟨B + 2, 0, none⟩) (show B + 2 < wr.heap.size by omega)).trans y0
        have g4 := (hba0.cell (p := ⟨B + 2, 1, none⟩) (show B + 2 < wr.heap.size by omega)).trans y1
        have hba1 := below_alloc1 wr (.cells #[.int .i64 (i : Int), .int .i64 (aa : Int), .int .i64 (m : Int)] 98)
        have g5 := (hba1.cell (p := ⟨B + 1, 0, none⟩) (show B + 1 < wr.heap.size by omega)).trans x0
        have g6 := (hba1.cell (p := ⟨B + 1, 1, none⟩) (show B + 1 < wr.heap.size by omega)).trans x1
        have g7 := (hba1.cell (p := ⟨B + 2, 0, none⟩) (show B + 2 < wr.heap.size by omega)).trans y0
        have g8 := (hba1.cell (p := ⟨B + 2, 1, none⟩) (show B + 2 < wr.heap.size by omega)).trans y1
        have hba2 := below_alloc1 wr (.cells #[.int .i64 (i : Int), .int .i64 (aa : Int), .int .i64 (ba : Int)] 98)
        have g9 := (hba2.cell (p := ⟨B + 1, 0, none⟩) (show B + 1 < wr.heap.size by omega)).trans x0
        have g10 := (hba2.cell (p := ⟨B + 1, 1, none⟩) (show B + 1 < wr.heap.size by omega)).trans x1
        have g11 := (hba2.cell (p := ⟨B + 2, 0, none⟩) (show B + 2 < wr.heap.size by omega)).trans y0
        have g12 := (hba2.cell (p := ⟨B + 2, 1, none⟩) (show B + 2 < wr.heap.size by omega)).trans y1
        have c1' := (hba2.cell (p := ⟨B, 0, none⟩) (show B < wr.heap.size by omega)).trans c1
        obtain ⟨fn, tmps, assign, body, hy, hR⟩ := yield_any (m' := 8) (hyy _ (i, aa, ba) hba2 HS.out)
        dsimp only [stV] at hy
        have hzf := hba2.size
        have HG := Lib.hid (And.intro c1' (And.intro g9 (And.intro g10 (And.intro g11 g12))))
        clear hst hnew hba hba0 hba1 hba2 hyy
        gi_wp2
        refine hR.mono ?_
        rintro e W3 (⟨rfl, row', hJ3, hk3⟩ | ⟨rfl, hJx⟩)
        · obtain ⟨c1', v0, v1, v2, v3⟩ := HG.out
          have nb : ∀ j, j ≤ B + 2 → ¬ row j := fun j hj e => by have := hrw j e; omega
          have d0 := hk3.cell (p := ⟨B, 0, none⟩) (Nat.le_refl _) (nb _ (by show B ≤ B + 2; omega)) c1'
          have d1 := hk3.cell (p := ⟨B + 1, 0, none⟩) (Nat.le_add_right _ _) (nb _ (by show B + 1 ≤ B + 2; omega)) v0
          have d2 := hk3.cell (p := ⟨B + 1, 1, none⟩) (Nat.le_add_right _ _) (nb _ (by show B + 1 ≤ B + 2; omega)) v1
          have d3 := hk3.cell (p := ⟨B + 2, 0, none⟩) (Nat.le_add_right _ _) (nb _ (by show B + 2 ≤ B + 2; omega)) v2
          have d4 := hk3.cell (p := ⟨B + 2, 1, none⟩) (Nat.le_add_right _ _) (nb _ (by show B + 2 ≤ B + 2; omega)) v3
          have hsz3 := hk3.size
          have HJ3 := Lib.hid hJ3
          clear hJ3 hk3 HG c1' v0 v1 v2 v3 x0 x1 y0 y1 c1 z0 z1 z2 z3 g1 g2 g3 g4 g5 g6 g7 g8 g9 g10 g11 g12
          gi_wp2
          gi_roundg (gk - 1)
          case measure => omega
          case rel => exact ⟨i + 1, pre ++ [(i, aa, ba)], row', by go_num, by omega, by omega, by omega, Lib.hid (by rw [HS.out]; simp), HJ3, by omega, d0, d1, d2, d3, d4⟩
        · have HX := Lib.hid hJx
          clear hJx
          gi_wp2
          refine bodyPost_ret (results_none rfl _ _ _) rfl ?_
          exact ⟨⟨_, rfl⟩, .inr ⟨pre ++ [(i, aa, ba)], by rw [HS.out]; exact ⟨_, by simp; rfl⟩, HX.out⟩⟩
      · rw [if_pos e1, if_neg e2] at hst
        subst e1
        have HS := Lib.hid hst
        have E2 := Lib.hid e2
        have hba0 := below_alloc1 wr (.cells #[.int .i64 (i : Int), .int .i64 (0 : Int), .int .i64 (m : Int)] 98)
        have g1 := (hba0.cell (p := ⟨B + 1, 0, none⟩) (show B + 1 < wr.heap.size by omega)).trans x0
        have g2 := (hba0.cell (p := ⟨B + 1, 1, none⟩) (show B + 1 < wr.heap.size by omega)).trans x1
        have g3 := (hba0.cell (p := ⟨B + 2, 0, none⟩) (show B + 2 < wr.heap.size by omega)).trans y0
        have g4 := (hba0.cell (p := ⟨B + 2, 1, none⟩) (show B + 2 < wr.heap.size by omega)).trans y1
        have hba1 := below_alloc1 wr (.cells #[.int .i64 (i : Int), .int .i64 (aa : Int), .int .i64 (m : Int)] 98)
        have g5 := (hba1.cell (p := ⟨B + 1, 0, none⟩) (show B + 1 < wr.heap.size by omega)).trans x0
        have g6 := (hba1.cell (p := ⟨B + 1, 1, none⟩) (show B + 1 < wr.heap.size by omega)).trans x1
        have g7 := (hba1.cell (p := ⟨B + 2, 0, none⟩) (show B + 2 < wr.heap.size by omega)).trans y0
        have g8 := (hba1.cell (p := ⟨B + 2, 1, none⟩) (show B + 2 < wr.heap.size by omega)).trans y1
        have c1' := (hba1.cell (p := ⟨B, 0, none⟩) (show B < wr.heap.size by omega)).trans c1
        obtain ⟨fn, tmps, assign, body, hy, hR⟩ := yield_any (m' := 8) (hyy _ (i, aa, m) hba1 HS.out)
        dsimp only [stV] at hy
        have hzf := hba1.size
        have HG := Lib.hid (And.intro c1' (And.intro g5 (And.intro g6 (And.intro g7 g8))))
        clear hst hnew hba hba0 hba1 e2 hyy
        have hEq2 : ¬ (i : Int) = (bl : Int) := by have := E2.out; omega
        have hEq2b : ((i : Int) == (bl : Int)) = false := by simpa using hEq2
        gi_wp2
        refine hR.mono ?_
        rintro e W3 (⟨rfl, row', hJ3, hk3⟩ | ⟨rfl, hJx⟩)
        · obtain ⟨c1', v0, v1, v2, v3⟩ := HG.out
          have nb : ∀ j, j ≤ B + 2 → ¬ row j := fun j hj e => by have := hrw j e; omega
          have d0 := hk3.cell (p := ⟨B, 0, none⟩) (Nat.le_refl _) (nb _ (by show B ≤ B + 2; omega)) c1'
          have d1 := hk3.cell (p := ⟨B + 1, 0, none⟩) (Nat.le_add_right _ _) (nb _ (by show B + 1 ≤ B + 2; omega)) v0
          have d2 := hk3.cell (p := ⟨B + 1, 1, none⟩) (Nat.le_add_right _ _) (nb _ (by show B + 1 ≤ B + 2; omega)) v1
          have d3 := hk3.cell (p := ⟨B + 2, 0, none⟩) (Nat.le_add_right _ _) (nb _ (by show B + 2 ≤ B + 2; omega)) v2
          have d4 := hk3.cell (p := ⟨B + 2, 1, none⟩) (Nat.le_add_right _ _) (nb _ (by show B + 2 ≤ B + 2; omega)) v3
          have hsz3 := hk3.size
          have HJ3 := Lib.hid hJ3
          clear hJ3 hk3 HG c1' v0 v1 v2 v3 x0 x1 y0 y1 c1 z0 z1 z2 z3 g1 g2 g3 g4 g5 g6 g7 g8
          gi_wp2
          gi_roundg (gk - 1)
          case measure => omega
          case rel => exact ⟨i + 1, pre ++ [(i, aa, m)], row', by go_num, by omega, by omega, by omega, Lib.hid (by rw [HS.out]; simp), HJ3, by omega, d0, d1, d2, d3, d4⟩
        · have HX := Lib.hid hJx
          clear hJx
          gi_wp2
          refine bodyPost_ret (results_none rfl _ _ _) rfl ?_
          exact ⟨⟨_, rfl⟩, .inr ⟨pre ++ [(i, aa, m)], by rw [HS.out]; exact ⟨_, by simp; rfl⟩, HX.out⟩⟩
      · rw [if_neg e1, if_pos e2] at hst
        subst e2
        have HS := Lib.hid hst
        have E1 := Lib.hid e1
        have hba0 := below_alloc1 wr (.cells #[.int .i64 (i : Int), .int .i64 (0 : Int), .int .i64 (m : Int)] 98)
        have g1 := (hba0.cell (p := ⟨B + 1, 0, none⟩) (show B + 1 < wr.heap.size by omega)).trans x0
        have g2 := (hba0.cell (p := ⟨B + 1, 1, none⟩) (show B + 1 < wr.heap.size by omega)).trans x1
        have g3 := (hba0.cell (p := ⟨B + 2, 0, none⟩) (show B + 2 < wr.heap.size by omega)).trans y0
        have g4 := (hba0.cell (p := ⟨B + 2, 1, none⟩) (show B + 2 < wr.heap.size by omega)).trans y1
        have hba1 := below_alloc1 wr (.cells #[.int .i64 (i : Int), .int .i64 (0 : Int), .int .i64 (ba : Int)] 98)
        have g5 := (hba1.cell (p := ⟨B + 1, 0, none⟩) (show B + 1 < wr.heap.size by omega)).trans x0
        have g6 := (hba1.cell (p := ⟨B + 1, 1, none⟩) (show B + 1 < wr.heap.size by omega)).trans x1
        have g7 := (hba1.cell (p := ⟨B + 2, 0, none⟩) (show B + 2 < wr.heap.size by omega)).trans y0
        have g8 := (hba1.cell (p := ⟨B + 2, 1, none⟩) (show B + 2 < wr.heap.size by omega)).trans y1
        have c1' := (hba1.cell (p := ⟨B, 0, none⟩) (show B < wr.heap.size by omega)).trans c1
        obtain ⟨fn, tmps, assign, body, hy, hR⟩ := yield_any (m' := 8) (hyy _ (i, 0, ba) hba1 HS.out)
        dsimp only [stV] at hy
        simp only [Int.natCast_zero] at hy
        have hzf := hba1.size
        have HG := Lib.hid (And.intro c1' (And.intro g5 (And.intro g6 (And.intro g7 g8))))
        clear hst hnew hba hba0 hba1 e1 hyy
        have hEq1 : ¬ (i : Int) = (al : Int) := by have := E1.out; omega
        have hEq1b : ((i : Int) == (al : Int)) = false := by simpa using hEq1
        gi_wp2
        refine hR.mono ?_
        rintro e W3 (⟨rfl, row', hJ3, hk3⟩ | ⟨rfl, hJx⟩)
        · obtain ⟨c1', v0, v1, v2, v3⟩ := HG.out
          have nb : ∀ j, j ≤ B + 2 → ¬ row j := fun j hj e => by have := hrw j e; omega
          have d0 := hk3.cell (p := ⟨B, 0, none⟩) (Nat.le_refl _) (nb _ (by show B ≤ B + 2; omega)) c1'
          have d1 := hk3.cell (p := ⟨B + 1, 0, none⟩) (Nat.le_add_right _ _) (nb _ (by show B + 1 ≤ B + 2; omega)) v0
          have d2 := hk3.cell (p := ⟨B + 1, 1, none⟩) (Nat.le_add_right _ _) (nb _ (by show B + 1 ≤ B + 2; omega)) v1
          have d3 := hk3.cell (p := ⟨B + 2, 0, none⟩) (Nat.le_add_right _ _) (nb _ (by show B + 2 ≤ B + 2; omega)) v2
          have d4 := hk3.cell (p := ⟨B + 2, 1, none⟩) (Nat.le_add_right _ _) (nb _ (by show B + 2 ≤ B + 2; omega)) v3
          have hsz3 := hk3.size
          have HJ3 := Lib.hid hJ3
          clear hJ3 hk3 HG c1' v0 v1 v2 v3 x0 x1 y0 y1 c1 z0 z1 z2 z3 g1 g2 g3 g4 g5 g6 g7 g8
          gi_wp2
          gi_roundg (gk - 1)
          case measure => omega
          case rel => exact ⟨i + 1, pre ++ [(i, 0, ba)], row', by go_num, by omega, by omega, by omega, Lib.hid (by rw [HS.out]; simp), HJ3, by omega, d0, d1, d2, d3, d4⟩
        · have HX := Lib.hid hJx
          clear hJx
          gi_wp2
          refine bodyPost_ret (results_none rfl _ _ _) rfl ?_
          exact ⟨⟨_, rfl⟩, .inr ⟨pre ++ [(i, 0, ba)], by rw [HS.out]; exact ⟨_, by simp; rfl⟩, HX.out⟩⟩
      · rw [if_neg e1, if_neg e2] at hst
        have HS := Lib.hid hst
        have E1 := Lib.hid e1
        have E2 := Lib.hid e2
        have hba0 := below_alloc1 wr (.cells #[.int .i64 (i : Int), .int .i64 (0 : Int), .int .i64 (m : Int)] 98)
        have g1 := (hba0.cell (p := ⟨B + 1, 0, none⟩) (show B + 1 < wr.heap.size by omega)).trans x0
        have g2 := (hba0.cell (p := ⟨B + 1, 1, none⟩) (show B + 1 < wr.heap.size by omega)).trans x1
        have g3 := (hba0.cell (p := ⟨B + 2, 0, none⟩) (show B + 2 < wr.heap.size by omega)).trans y0
        have g4 := (hba0.cell (p := ⟨B + 2, 1, none⟩) (show B + 2 < wr.heap.size by omega)).trans y1
        have c1' := (hba0.cell (p := ⟨B, 0, none⟩) (show B < wr.heap.size by omega)).trans c1
        obtain ⟨fn, tmps, assign, body, hy, hR⟩ := yield_any (m' := 8) (hyy _ (i, 0, m) hba0 HS.out)
        dsimp only [stV] at hy
        simp only [Int.natCast_zero] at hy
        have hzf := hba0.size
        have HG := Lib.hid (And.intro c1' (And.intro g1 (And.intro g2 (And.intro g3 g4))))
        clear hst hnew hba hba0 e1 e2 hyy
        have hEq1 : ¬ (i : Int) = (al : Int) := by have := E1.out; omega
        have hEq1b : ((i : Int) == (al : Int)) = false := by simpa using hEq1
        have hEq2 : ¬ (i : Int) = (bl : Int) := by have := E2.out; omega
        have hEq2b : ((i : Int) == (bl : Int)) = false := by simpa using hEq2
        gi_wp2
        refine hR.mono ?_
        rintro e W3 (⟨rfl, row', hJ3, hk3⟩ | ⟨rfl, hJx⟩)
        · obtain ⟨c1', v0, v1, v2, v3⟩ := HG.out
          have nb : ∀ j, j ≤ B + 2 → ¬ row j := fun j hj e => by have := hrw j e; omega
          have d0 := hk3.cell (p := ⟨B, 0, none⟩) (Nat.le_refl _) (nb _ (by show B ≤ B + 2; omega)) c1'
          have d1 := hk3.cell (p := ⟨B + 1, 0, none⟩) (Nat.le_add_right _ _) (nb _ (by show B + 1 ≤ B + 2; omega)) v0
          have d2 := hk3.cell (p := ⟨B + 1, 1, none⟩) (Nat.le_add_right _ _) (nb _ (by show B + 1 ≤ B + 2; omega)) v1
          have d3 := hk3.cell (p := ⟨B + 2, 0, none⟩) (Nat.le_add_right _ _) (nb _ (by show B + 2 ≤ B + 2; omega)) v2
          have d4 := hk3.cell (p := ⟨B + 2, 1, none⟩) (Nat.le_add_right _ _) (nb _ (by show B + 2 ≤ B + 2; omega)) v3
          have hsz3 := hk3.size
          have HJ3 := Lib.hid hJ3
          clear hJ3 hk3 HG c1' v0 v1 v2 v3 x0 x1 y0 y1 c1 z0 z1 z2 z3 g1 g2 g3 g4
          gi_wp2
          gi_roundg (gk - 1)
          case measure => omega
          case rel => exact ⟨i + 1, pre ++ [(i, 0, m)], row', by go_num, by omega, by omega, by omega, Lib.hid (by rw [HS.out]; simp), HJ3, by omega, d0, d1, d2, d3, d4⟩
        · have HX := Lib.hid hJx
          clear hJx
          gi_wp2
          refine bodyPost_ret (results_none rfl _ _ _) rfl ?_
          exact ⟨⟨_, rfl⟩, .inr ⟨pre ++ [(i, 0, m)], by rw [HS.out]; exact ⟨_, by simp; rfl⟩, HX.out⟩⟩
    · have hib2 : i = bl + 1 := by omega
      subst hib2
      have hl2 : strs (pl l) al aa bl ba = pre := by rw [HR.out, strsF_end _ _ _ _ _ _ (by omega), List.append_nil]
      have HL := Lib.hid hl2
      have hgtI : ¬ ((bl + 1 : Nat) : Int) ≤ (bl : Int) := by omega
      clear hl2 HR
      gi_wp2
      go_end0
      exact ⟨⟨_, rfl⟩, .inl ⟨row, by rw [HL.out]; exact hj.out⟩⟩

end Go.Proofs.YtafincmcmgedbaaGreatDoor
