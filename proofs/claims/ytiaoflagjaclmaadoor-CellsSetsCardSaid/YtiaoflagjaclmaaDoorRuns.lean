/-
  The program's runs: goesOn, runFrom.
-/
import Derived.Test.YtiaoflagjaclmaaDoorWithin
import Derived.Laws.StructEq
import Derived.Deep.RegionHeld3
import Derived.Deep.RegionWith
import Derived.Deep.QuietTactic
import Derived.BigQuiet
import Derived.StillTailTactics
namespace Go.Proofs.YtiaoflagjaclmaaDoor
open Go.RowKit Go.Lib

/-- A run: from, to, bits, href, break. -/
abbrev Rn : Type := Int × Int × Int × ByteArray × Int
def encN (r : Rn) : List Value := [.int .i64 r.1, .int .i64 r.2.1, .int .i64 r.2.2.1, .string r.2.2.2.1, .int .i64 r.2.2.2.2]
/-- Does a run go on? -/
def goB (a c : Ce) : Bool := decide (c.1 ≠ 10 ∧ a.2 = c.2)

set_option maxHeartbeats 4000000 in
theorem goesOn_any (a c : Ce) (w : World) :
    Calls Tryd.prog 66 #[.agg #[.int .i32 a.1, .int .i64 a.2.1, .string a.2.2], .agg #[.int .i32 c.1, .int .i64 c.2.1, .string c.2.2]] w fun e w' => e = .returned (.bool (goB a c)) ∧ Below w.heap.size w w' := by
  obtain ⟨a1, a2, a3⟩ := a
  obtain ⟨c1, c2, c3⟩ := c
  dsimp only
  by_cases h10 : c1 = 10
  · subst h10
    have e0 : goB (a1, a2, a3) (10, c2, c3) = false := decide_eq_false (fun h => h.1 rfl)
    rw [e0]
    clear e0
    go_enter Tryd.func66, Tryd.ntmps66
    go_wp2
    go_ret
    exact ⟨rfl, ((Below.refl _ w).alloc (Nat.le_refl _) _).alloc (by simp) _⟩
  · have h10b : (c1 == 10) = false := by simpa using h10
    have e0 : goB (a1, a2, a3) (c1, c2, c3) = (decide (a2 = c2) && decide (a3 = c3)) := by
      unfold goB; rw [Bool.eq_iff_iff]; simp [h10]
    rw [e0, ← str_eq]
    have u3 := Tryd.underlying9
    have a3' := Tryd.isAgg9
    have z3 := Tryd.sizeOf9
    have hS : Tryd.prog.underlying 37 = some (.struct (Tryd.prog.fieldsOf 37)) := by kernel_rfl
    have hp : Tryd.prog.stoodInHeld 37 = false := by kernel_rfl
    have hq : ∀ (r b1 b2 : Int) (h1 h2 : ByteArray) (W : World), (binOp .eql 37 (.agg #[.int .i32 r, .int .i64 b1, .string h1]) (.agg #[.int .i32 r, .int .i64 b2, .string h2])).run Tryd.prog W = .ok (.bool (decide (b1 = b2) && (h1.toList == h2.toList))) W := fun r b1 b2 h1 h2 W => by
      rw [run_eql_struct, show (10000 : Nat) = 9999 + 1 from rfl, run_equalIn_agg W 9999 37 _ _ hS hp]
      simp only [Program.fieldsOf, Tryd.underlying37]
      go_simp
      by_cases k1 : b1 = b2 <;> cases k2 : h1.toList == h2.toList <;> simp_all
    have hm : Tryd.prog.eqGuardType Tryd.prog.depth 37 = false := by kernel_rfl
    clear e0 hS hp u3 a3' z3
    go_enter Tryd.func66, Tryd.ntmps66
    go_wp2
    go_ret
    exact ⟨rfl, ((Below.refl _ w).alloc (Nat.le_refl _) _).alloc (by simp) _⟩

/-- Where a run ends. -/
def endG (l : Row) (c : Ce) : Nat → Nat → Nat
  | 0, j => j
  | n + 1, j => if goB c (atR l j) then endG l c n (j + 1) else j
def endN (l : Row) (c : Ce) (j : Nat) : Nat := endG l c (l.length - j) j
theorem endN_step {l : Row} {c : Ce} {j : Nat} (hj : j < l.length) : endN l c j = if goB c (atR l j) then endN l c (j + 1) else j := by
  unfold endN
  obtain ⟨n, hn⟩ : ∃ n, l.length - j = n + 1 := ⟨l.length - j - 1, by omega⟩
  rw [hn, show l.length - (j + 1) = n by omega]
  rfl
theorem endN_end {l : Row} {c : Ce} {j : Nat} (hj : ¬ j < l.length) : endN l c j = j := by
  unfold endN
  rw [show l.length - j = 0 by omega]
  rfl
theorem endG_le (l : Row) (c : Ce) : ∀ n j, j ≤ endG l c n j ∧ endG l c n j ≤ j + n
  | 0, j => ⟨Nat.le_refl _, Nat.le_refl _⟩
  | n + 1, j => by
    have ih := endG_le l c n (j + 1)
    unfold endG
    split <;> omega
theorem endN_le {l : Row} {c : Ce} {j : Nat} (hj : j ≤ l.length) : j ≤ endN l c j ∧ endN l c j ≤ l.length := by
  have := endG_le l c (l.length - j) j
  unfold endN
  omega
/-- The run that begins at a place. -/
def stopN (l : Row) (k : Nat) : Nat := if (atR l k).1 = 10 then k + 1 else endN l (atR l k) (k + 1)
def runR (l : Row) (k : Nat) : Rn := ((k : Int), (stopN l k : Int), (atR l k).2.1, (atR l k).2.2, if (atR l k).1 = 10 then 1 else 0)

theorem cell_blk {w : World} {g : Nat} {cs : Array Value} {t : TypeId} (h : w.heap[g]? = some (.cells cs t)) (j : Nat) (v : Value) (hv : cs[j]? = some v) : w.cell? ⟨g, j, none⟩ = some v := by
  rw [cell_of_row w g j cs t (0, 0) h]; exact hv

theorem three_new (w : World) (o1 o2 o3 : Obj) : Below w.heap.size w (((w.alloc o1).alloc o2).alloc o3) :=
  (((Below.refl _ w).alloc (Nat.le_refl _) _).alloc (by simp) _).alloc (by simp; omega) _

set_option maxHeartbeats 8000000 in
theorem runFrom_break (v : Value) (l : Row) (k : Nat) (w : World) (hv : RowAt w v l) (hk : k < l.length) (hl : l.length ≤ 100000) (h10 : (atR l k).1 = 10) :
    Calls Tryd.prog 55 #[v, .int .i64 (k : Int)] w fun e w' => e = .returned (.agg #[.int .i64 (k : Int), .int .i64 ((k + 1 : Nat) : Int), .int .i64 (atR l k).2.1, .string (atR l k).2.2, .int .i64 1]) ∧ Below w.heap.size w w' := by
  obtain ⟨b, o, c, rfl, hlc, hcm, hb, hcs⟩ := hv.lies (by omega)
  unfold maxLen at hcm
  obtain ⟨x1, x2, x3⟩ := hcs k hk
  rw [← atR_in hk] at x1 x2 x3
  obtain ⟨X, hX⟩ : ∃ X, atR l k = X := ⟨_, rfl⟩
  rw [hX] at x1 x2 x3 h10 ⊢
  obtain ⟨X1, X2, X3⟩ := X
  dsimp only at h10
  subst h10
  dsimp only
  obtain ⟨n, hn⟩ : ∃ n, l.length = n := ⟨_, rfl⟩
  rw [hn] at hlc hl hk ⊢
  clear hX hcs hv hn
  have hkI : (k : Int) < (n : Int) := by omega
  rw [Int.natCast_add]
  go_enter Tryd.func55, Tryd.ntmps55
  go_wp2
  exact bodyPost_ret (v := .agg #[.int .i64 (k : Int), .int .i64 ((k : Int) + 1), .int .i64 X2, .string X3, .int .i64 1]) (by simp [results, Tryd.results55, go_sem]) rfl ⟨rfl, three_new w _ _ _⟩

theorem three_blk (w : World) (o1 o2 o3 : Obj) : (((w.alloc o1).alloc o2).alloc o3).heap[w.heap.size]? = some o1 ∧ (((w.alloc o1).alloc o2).alloc o3).heap[w.heap.size + 1]? = some o2 ∧ (((w.alloc o1).alloc o2).alloc o3).heap[w.heap.size + 1 + 1]? = some o3 := by
  have e2 : (w.alloc o1).heap.size = w.heap.size + 1 := World.size_alloc _ _
  have e3 : ((w.alloc o1).alloc o2).heap.size = w.heap.size + 1 + 1 := by rw [World.size_alloc, e2]
  refine ⟨?_, ?_, ?_⟩
  · rw [Below.heap_alloc _ _ _ (by omega), Below.heap_alloc _ _ _ (by omega)]
    exact World.alloc_heap_new w _
  · rw [Below.heap_alloc _ _ _ (by omega), ← e2]
    exact World.alloc_heap_new _ _
  · rw [← e3]
    exact World.alloc_heap_new _ _

/-- Five cells of a block, written over one behind the other. -/
theorem five_set {w : World} {B : Nat} {a0 a1 a2 a3 a4 : Value} {t : TypeId} (h : w.heap[B]? = some (.cells #[a0, a1, a2, a3, a4] t)) (v0 v1 v2 v3 v4 : Value) :
    (w.setCell ⟨B, 0, none⟩ v0).cell? ⟨B, 0, none⟩ = some v0 ∧ ((w.setCell ⟨B, 0, none⟩ v0).setCell ⟨B, 1, none⟩ v1).cell? ⟨B, 1, none⟩ = some v1 ∧
    (((w.setCell ⟨B, 0, none⟩ v0).setCell ⟨B, 1, none⟩ v1).setCell ⟨B, 2, none⟩ v2).cell? ⟨B, 2, none⟩ = some v2 ∧
    ((((w.setCell ⟨B, 0, none⟩ v0).setCell ⟨B, 1, none⟩ v1).setCell ⟨B, 2, none⟩ v2).setCell ⟨B, 3, none⟩ v3).cell? ⟨B, 3, none⟩ = some v3 ∧
    (((((w.setCell ⟨B, 0, none⟩ v0).setCell ⟨B, 1, none⟩ v1).setCell ⟨B, 2, none⟩ v2).setCell ⟨B, 3, none⟩ v3).setCell ⟨B, 4, none⟩ v4).cell? ⟨B, 4, none⟩ = some v4 := by
  have h0 := heap_setCell_same w B 0 _ _ v0 h
  have h1 := heap_setCell_same _ B 1 _ _ v1 h0
  have h2 := heap_setCell_same _ B 2 _ _ v2 h1
  have h3 := heap_setCell_same _ B 3 _ _ v3 h2
  have h4 := heap_setCell_same _ B 4 _ _ v4 h3
  exact ⟨cell_blk h0 0 _ rfl, cell_blk h1 1 _ rfl, cell_blk h2 2 _ rfl, cell_blk h3 3 _ rfl, cell_blk h4 4 _ rfl⟩
theorem five_below {B0 : Nat} {w0 w : World} {B : Nat} (h : Below B0 w0 w) (hB : B0 ≤ B) (v0 v1 v2 v3 v4 : Value) :
    Below B0 w0 (((((w.setCell ⟨B, 0, none⟩ v0).setCell ⟨B, 1, none⟩ v1).setCell ⟨B, 2, none⟩ v2).setCell ⟨B, 3, none⟩ v3).setCell ⟨B, 4, none⟩ v4) :=
  ((((h.setCell (p := ⟨B, 0, none⟩) hB _).setCell (p := ⟨B, 1, none⟩) hB _).setCell (p := ⟨B, 2, none⟩) hB _).setCell (p := ⟨B, 3, none⟩) hB _).setCell (p := ⟨B, 4, none⟩) hB _

set_option maxHeartbeats 8000000 in
set_option maxRecDepth 20000 in
theorem runFrom_plain (v : Value) (l : Row) (k : Nat) (w : World) (hv : RowAt w v l) (hk : k < l.length) (hl : l.length ≤ 100000) (h10 : (atR l k).1 ≠ 10) :
    Calls Tryd.prog 55 #[v, .int .i64 (k : Int)] w fun e w' => e = .returned (.agg #[.int .i64 (k : Int), .int .i64 ((endN l (atR l k) (k + 1) : Nat) : Int), .int .i64 (atR l k).2.1, .string (atR l k).2.2, .int .i64 0]) ∧ Below w.heap.size w w' := by
  obtain ⟨b, o, c, rfl, hlc, hcm, hb, hcs⟩ := hv.lies (by omega)
  unfold maxLen at hcm
  obtain ⟨x1, x2, x3⟩ := hcs k hk
  rw [← atR_in hk] at x1 x2 x3
  obtain ⟨X, hX⟩ : ∃ X, atR l k = X := ⟨_, rfl⟩
  rw [hX] at x1 x2 x3 h10 ⊢
  have cgo := fun X2 w => goesOn_any X X2 w
  clear hX
  obtain ⟨X1, X2, X3⟩ := X
  dsimp only at x1 x2 x3 h10 cgo ⊢
  have h10b : (X1 == 10) = false := by simpa using h10
  obtain ⟨n, hn⟩ : ∃ n, l.length = n := ⟨_, rfl⟩
  rw [hn] at hlc hl hk ⊢
  have N := Lib.hid hn
  have HC := Lib.hid hcs
  have hkI : (k : Int) < (n : Int) := by omega
  obtain ⟨E, hE⟩ : ∃ E, endN l (X1, X2, X3) (k + 1) = E := ⟨_, rfl⟩
  rw [hE]
  have HE := Lib.hid hE
  clear hcs hv hn hE
  go_enter Tryd.func55, Tryd.ntmps55
  go_wp2
  go_loopg [24] n (fun gk s24 wr => ∃ j : Nat, k + 1 ≤ j ∧ j ≤ n ∧ n ≤ j + gk ∧ Hid (endN l (X1, X2, X3) j = E) ∧ wr.heap[w.heap.size]? = some (.cells #[.int .i64 0, .int .i64 0, .int .i64 0, .string ⟨#[]⟩, .int .i64 0] 46)
    ∧ wr.heap[w.heap.size + 1]? = some (.cells #[.int .i32 X1, .int .i64 X2, .string X3] 37) ∧ wr.heap[w.heap.size + 1 + 1]? = some (.cells #[.int .i64 (k : Int), .int .i64 (j : Int), .int .i64 X2, .string X3, .int .i64 0] 46)
    ∧ w.heap.size + 3 ≤ wr.heap.size ∧ Below w.heap.size w wr)
  case atStart =>
    obtain ⟨t1, t2, t3⟩ := three_blk w (.cells #[.int .i64 0, .int .i64 0, .int .i64 0, .string ⟨#[]⟩, .int .i64 0] 46) (.cells #[.int .i32 X1, .int .i64 X2, .string X3] 37) (.cells #[.int .i64 (k : Int), .int .i64 ((k : Int) + 1), .int .i64 X2, .string X3, .int .i64 0] 46)
    exact ⟨k + 1, Nat.le_refl _, hk, by omega, HE, t1, t2, t3, by simp, three_new w _ _ _⟩
  case round =>
    obtain ⟨j, hkj, hjn, hgk, HJ, hB0, hB1, hB2, hsz, hbw⟩ := hrel
    have y0 : wr.cell? ⟨w.heap.size + 1, 0, none⟩ = some (.int .i32 X1) := cell_blk hB1 0 _ rfl
    have y1 : wr.cell? ⟨w.heap.size + 1, 1, none⟩ = some (.int .i64 X2) := cell_blk hB1 1 _ rfl
    have y2 : wr.cell? ⟨w.heap.size + 1, 2, none⟩ = some (.string X3) := cell_blk hB1 2 _ rfl
    have z0 : wr.cell? ⟨w.heap.size + 1 + 1, 0, none⟩ = some (.int .i64 (k : Int)) := cell_blk hB2 0 _ rfl
    have z1 : wr.cell? ⟨w.heap.size + 1 + 1, 1, none⟩ = some (.int .i64 (j : Int)) := cell_blk hB2 1 _ rfl
    have z2 : wr.cell? ⟨w.heap.size + 1 + 1, 2, none⟩ = some (.int .i64 X2) := cell_blk hB2 2 _ rfl
    have z3 : wr.cell? ⟨w.heap.size + 1 + 1, 3, none⟩ = some (.string X3) := cell_blk hB2 3 _ rfl
    have z4 : wr.cell? ⟨w.heap.size + 1 + 1, 4, none⟩ = some (.int .i64 0) := cell_blk hB2 4 _ rfl
    have fz := frozen_of_row wr _ 1 _ _ hB2
    have HB0 := Lib.hid hB0
    have HB1 := Lib.hid hB1
    have HB2 := Lib.hid hB2
    have hbs : b < wr.heap.size := by omega
    clear hB0 hB1 hB2
    by_cases hlt : j < n
    · have hjl : j < l.length := by rw [N.out]; exact hlt
      obtain ⟨q1, q2, q3⟩ := (HC.out.below hb hbw) j hjl
      rw [← atR_in hjl] at q1 q2 q3
      have hst := endN_step (c := (X1, X2, X3)) hjl
      obtain ⟨Y, hY⟩ : ∃ Y, atR l j = Y := ⟨_, rfl⟩
      rw [hY] at q1 q2 q3 hst
      have hgo := cgo Y
      rw [HJ.out] at hst
      obtain ⟨M, hM⟩ : ∃ M, goB (X1, X2, X3) Y = M := ⟨_, rfl⟩
      rw [hM] at hgo hst
      obtain ⟨Y1, Y2, Y3⟩ := Y
      have hjI : (j : Int) < (n : Int) := by omega
      have HS := Lib.hid hst
      clear hst hY hM HJ cgo hjl
      dsimp only at q1 q2 q3 hgo
      go_wp2
      go_still_tail 12, (by kernel_rfl)
      change wpList _ _ _ _ _ wr.drew
      have b3 : Below wr.heap.size wr wr.drew := (Below.refl _ wr).drew
      obtain ⟨W, hW⟩ : ∃ W, wr.drew = W := ⟨_, rfl⟩
      rw [hW] at b3 ⊢
      clear hW q1 q2 q3 y0 y1 y2 z0 z1 z2 z3 z4 fz
      cases M with
      | true =>
        go_wp2_with (go_at_call 66; ((with_reducible refine (hgo _).mono ?_); rintro e w3 ⟨rfl, hb3⟩; have bb := b3.trans (hb3.mono b3.size); have K0 := (bb.block _ (by omega)).trans HB0.out; have K1 := (bb.block _ (by omega)).trans HB1.out; have K2 := (bb.block _ (by omega)).trans HB2.out; have z1 : w3.cell? ⟨w.heap.size + 1 + 1, 1, none⟩ = some (.int .i64 (j : Int)) := cell_blk K2 1 _ rfl; have fz := frozen_of_row w3 _ 1 _ _ K2; have L0 := Lib.hid K0; have L1 := Lib.hid K1; have L2 := Lib.hid K2; clear K0 K1 K2 b3 hb3))
        go_roundg (gk - 1)
        case measure => omega
        case rel =>
          refine ⟨j + 1, by omega, hlt, by omega, Lib.hid (by have := HS.out; simpa using this.symm), ?_, ?_, ?_, ?_, ?_⟩
          · exact (Below.heap_setCell _ _ _ _ (by simp; omega)).trans L0.out
          · exact (Below.heap_setCell _ _ _ _ (by simp)).trans L1.out
          · have := heap_setCell_same w3 (w.heap.size + 1 + 1) 1 _ _ (.int .i64 ((j : Int) + 1)) L2.out
            exact this
          · have := bb.size
            simp
            omega
          · exact (hbw.trans (bb.mono hbw.size)).setCell (show w.heap.size ≤ w.heap.size + 1 + 1 by omega) _
      | false =>
        go_wp2_with (go_at_call 66; ((with_reducible refine (hgo _).mono ?_); rintro e w3 ⟨rfl, hb3⟩; have bb := b3.trans (hb3.mono b3.size); have K0 := (bb.block _ (by omega)).trans HB0.out; have K2 := (bb.block _ (by omega)).trans HB2.out; have p0 : w3.cell? ⟨w.heap.size, 0, none⟩ = some (.int .i64 0) := cell_blk K0 0 _ rfl; have p1 : w3.cell? ⟨w.heap.size, 1, none⟩ = some (.int .i64 0) := cell_blk K0 1 _ rfl; have p2 : w3.cell? ⟨w.heap.size, 2, none⟩ = some (.int .i64 0) := cell_blk K0 2 _ rfl; have p3 : w3.cell? ⟨w.heap.size, 3, none⟩ = some (.string ⟨#[]⟩) := cell_blk K0 3 _ rfl; have p4 : w3.cell? ⟨w.heap.size, 4, none⟩ = some (.int .i64 0) := cell_blk K0 4 _ rfl; have g0 := frozen_of_row w3 _ 0 _ _ K0; have g1 := frozen_of_row w3 _ 1 _ _ K0; have g2 := frozen_of_row w3 _ 2 _ _ K0; have g3 := frozen_of_row w3 _ 3 _ _ K0; have g4 := frozen_of_row w3 _ 4 _ _ K0; have z0 : w3.cell? ⟨w.heap.size + 1 + 1, 0, none⟩ = some (.int .i64 (k : Int)) := cell_blk K2 0 _ rfl; have z1 : w3.cell? ⟨w.heap.size + 1 + 1, 1, none⟩ = some (.int .i64 (j : Int)) := cell_blk K2 1 _ rfl; have z2 : w3.cell? ⟨w.heap.size + 1 + 1, 2, none⟩ = some (.int .i64 X2) := cell_blk K2 2 _ rfl; have z3 : w3.cell? ⟨w.heap.size + 1 + 1, 3, none⟩ = some (.string X3) := cell_blk K2 3 _ rfl; have z4 : w3.cell? ⟨w.heap.size + 1 + 1, 4, none⟩ = some (.int .i64 0) := cell_blk K2 4 _ rfl; have fz := frozen_of_row w3 _ 1 _ _ K2; obtain ⟨s0, s1, s2, s3, s4⟩ := five_set K0 (.int .i64 (k : Int)) (.int .i64 (j : Int)) (.int .i64 X2) (.string X3) (.int .i64 0); clear K0 K2 b3 hb3))
        go_wp2
        exact bodyPost_ret (v := .agg #[.int .i64 (k : Int), .int .i64 (j : Int), .int .i64 X2, .string X3, .int .i64 0]) (by simp [results, Tryd.results55, go_sem, s0, s1, s2, s3, s4]) rfl ⟨by rw [show E = j by have := HS.out; simpa using this], five_below (hbw.trans (bb.mono hbw.size)) (Nat.le_refl _) _ _ _ _ _⟩
    · have hjn2 : j = n := by omega
      subst hjn2
      have K0 := HB0.out
      have K2 := HB2.out
      clear z0 z1 z2 z3 z4 fz y0 y1 y2
      have p0 : wr.cell? ⟨w.heap.size, 0, none⟩ = some (.int .i64 0) := cell_blk K0 0 _ rfl
      have p1 : wr.cell? ⟨w.heap.size, 1, none⟩ = some (.int .i64 0) := cell_blk K0 1 _ rfl
      have p2 : wr.cell? ⟨w.heap.size, 2, none⟩ = some (.int .i64 0) := cell_blk K0 2 _ rfl
      have p3 : wr.cell? ⟨w.heap.size, 3, none⟩ = some (.string ⟨#[]⟩) := cell_blk K0 3 _ rfl
      have p4 : wr.cell? ⟨w.heap.size, 4, none⟩ = some (.int .i64 0) := cell_blk K0 4 _ rfl
      have g0 := frozen_of_row wr _ 0 _ _ K0
      have g1 := frozen_of_row wr _ 1 _ _ K0
      have g2 := frozen_of_row wr _ 2 _ _ K0
      have g3 := frozen_of_row wr _ 3 _ _ K0
      have g4 := frozen_of_row wr _ 4 _ _ K0
      have z0 : wr.cell? ⟨w.heap.size + 1 + 1, 0, none⟩ = some (.int .i64 (k : Int)) := cell_blk K2 0 _ rfl
      have z1 : wr.cell? ⟨w.heap.size + 1 + 1, 1, none⟩ = some (.int .i64 (j : Int)) := cell_blk K2 1 _ rfl
      have z2 : wr.cell? ⟨w.heap.size + 1 + 1, 2, none⟩ = some (.int .i64 X2) := cell_blk K2 2 _ rfl
      have z3 : wr.cell? ⟨w.heap.size + 1 + 1, 3, none⟩ = some (.string X3) := cell_blk K2 3 _ rfl
      have z4 : wr.cell? ⟨w.heap.size + 1 + 1, 4, none⟩ = some (.int .i64 0) := cell_blk K2 4 _ rfl
      have fz := frozen_of_row wr _ 1 _ _ K2
      clear K0 cgo
      go_wp2
      go_quiet (fail)
      obtain ⟨s0, s1, s2, s3, s4⟩ := five_set (w := wr.drewN nq) HB0.out (.int .i64 (k : Int)) (.int .i64 (j : Int)) (.int .i64 X2) (.string X3) (.int .i64 0)
      go_wp2
      exact bodyPost_ret (v := .agg #[.int .i64 (k : Int), .int .i64 (j : Int), .int .i64 X2, .string X3, .int .i64 0]) (by simp [results, Tryd.results55, go_sem, s0, s1, s2, s3, s4]) rfl ⟨by rw [show E = j by rw [← HJ.out]; exact endN_end (by rw [N.out]; omega)], five_below (hbw.trans ((below_draws wr _).mono hbw.size)) (Nat.le_refl _) _ _ _ _ _⟩

theorem runFrom_any (v : Value) (l : Row) (k : Nat) (w : World) (hv : RowAt w v l) (hk : k < l.length) (hl : l.length ≤ 100000) :
    Calls Tryd.prog 55 #[v, .int .i64 (k : Int)] w fun e w' => e = .returned (.agg (encN (runR l k)).toArray) ∧ Below w.heap.size w w' := by
  unfold runR encN stopN
  by_cases h10 : (atR l k).1 = 10
  · rw [if_pos h10, if_pos h10]
    exact runFrom_break v l k w hv hk hl h10
  · rw [if_neg h10, if_neg h10]
    exact runFrom_plain v l k w hv hk hl h10
theorem stopN_le {l : Row} {k : Nat} (hk : k < l.length) : k + 1 ≤ stopN l k ∧ stopN l k ≤ l.length := by
  unfold stopN
  split
  · omega
  · exact endN_le (by omega)
/-- The runs of a row, from a place on. -/
def runsG (l : Row) : Nat → Nat → List Rn
  | 0, _ => []
  | n + 1, k => if k < l.length then runR l k :: runsG l n (stopN l k) else []
def runsR (l : Row) (k : Nat) : List Rn := runsG l (l.length - k) k
theorem runsG_fuel (l : Row) : ∀ n m k, l.length - k ≤ n → l.length - k ≤ m → runsG l n k = runsG l m k
  | 0, 0, _, _, _ => rfl
  | 0, m + 1, k, h, _ => by
    unfold runsG
    rw [if_neg (by omega)]
  | n + 1, 0, k, _, h => by
    unfold runsG
    rw [if_neg (by omega)]
  | n + 1, m + 1, k, h, h2 => by
    unfold runsG
    by_cases hk : k < l.length
    · have := stopN_le hk
      rw [if_pos hk, if_pos hk, runsG_fuel l n m (stopN l k) (by omega) (by omega)]
    · rw [if_neg hk, if_neg hk]
theorem runsR_step {l : Row} {k : Nat} (hk : k < l.length) : runsR l k = runR l k :: runsR l (stopN l k) := by
  have := stopN_le hk
  unfold runsR
  obtain ⟨n, hn⟩ : ∃ n, l.length - k = n + 1 := ⟨l.length - k - 1, by omega⟩
  rw [hn]
  show (if k < l.length then _ else _) = _
  rw [if_pos hk, runsG_fuel l n (l.length - stopN l k) _ (by omega) (Nat.le_refl _)]
theorem runsR_end {l : Row} {k : Nat} (hk : ¬ k < l.length) : runsR l k = [] := by
  unfold runsR
  rw [show l.length - k = 0 by omega]
  rfl
theorem runsG_length (l : Row) : ∀ n k, (runsG l n k).length ≤ l.length - k
  | 0, k => by simp [runsG]
  | n + 1, k => by
    unfold runsG
    by_cases hk : k < l.length
    · have := stopN_le hk
      have ih := runsG_length l n (stopN l k)
      rw [if_pos hk, List.length_cons]
      omega
    · rw [if_neg hk]; simp
theorem runsR_length (l : Row) (k : Nat) : (runsR l k).length ≤ l.length - k := runsG_length l _ k

end Go.Proofs.YtiaoflagjaclmaaDoor
