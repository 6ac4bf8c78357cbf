/-
  The program's fit.
  The program's Insert, Part.
-/
import Derived.Test.YtafincmcmgedbaaGreatDoorCConcat
import Derived.StillTailTactics
import Derived.IntWalk

namespace Go.Proofs.YtafincmcmgedbaaGreatDoor
open Go.RowKit Go.Lib

/-- May from and to be? -/
def fitB (n : Nat) (f t : Int) : Bool := decide (0 ≤ f ∧ f ≤ t ∧ t ≤ n)
def RowPost (l : Row) (w : World) (e : Ending) (w' : World) : Prop := ∃ v, e = .returned (.tuple #[v, .int .i64 0]) ∧ w'.ownsRow w.heap.size 66 3 v l.length (cellsR l) ∧ Below w.heap.size w w'
def errV : Value := .tuple #[.slice none 0 0, .int .i64 1]

theorem row_post {w w2 w4 : World} {o : Obj} {v' : Value} {l : Row} (hown : w4.ownsRow (w2.alloc o).heap.size 66 3 v' l.length (cellsR l)) (b1 : Below w.heap.size w w2) (hb4 : Below (w2.alloc o).heap.size (w2.alloc o) w4) :
    RowPost l w (.returned (.tuple #[v', .int .i64 0])) w4 := by
  have h1 := b1.size
  have b2 : Below w.heap.size w (w2.alloc o) := b1.alloc h1 _
  exact ⟨v', rfl, hown.mono b2.size, b2.trans (hb4.mono b2.size)⟩

set_option maxHeartbeats 1000000 in
theorem fit_any (v : Value) (l : Row) (f t : Int) (w : World) (hv : RowAt w v l) :
    Calls Tryz.prog 109 #[v, .int .i64 f, .int .i64 t] w fun e w' => e = .returned (.bool (fitB l.length f t)) ∧ w = w' := by
  obtain ⟨a, c, rfl⟩ := hv.len
  obtain ⟨n, hn⟩ : ∃ n, l.length = n := ⟨_, rfl⟩
  rw [hn]
  clear hv hn
  go_enter Tryz.func109, Tryz.ntmps109
  go_wp2
  all_goals go_ret
  all_goals (refine ⟨ret_bool ?_, rfl⟩; unfold fitB; rw [Bool.eq_iff_iff]; first | (simp_all; done) | (simp_all; omega))

end Go.Proofs.YtafincmcmgedbaaGreatDoor

namespace Go.Proofs.YtafincmcmgedbaaGreatDoor
open Go.RowKit Go.Lib

set_option maxHeartbeats 2000000 in
theorem part_off (v : Value) (l : Row) (f t : Int) (w : World) (hv : RowAt w v l) (h : fitB l.length f t = false) :
    Calls Tryz.prog 72 #[v, .int .i64 f, .int .i64 t] w fun e w' => e = .returned errV ∧ Below w.heap.size w w' := by
  have hc := fit_any v l f t w hv
  rw [h] at hc
  unfold errV
  clear hv h
  go_enter Tryz.func72, Tryz.ntmps72
  go_wp2_with (go_at_call 109; ((with_reducible refine hc.mono ?_); rintro e w1 ⟨rfl, rfl⟩))
  go_ret2
  exact ⟨rfl, Below.refl _ _⟩

set_option maxRecDepth 20000 in
set_option maxHeartbeats 4000000 in
theorem part_on (v : Value) (l : Row) (f t : Nat) (w : World) (hv : RowAt w v l) (hl : l.length ≤ 50000) (hft : f ≤ t) (ht : t ≤ l.length) :
    Calls Tryz.prog 72 #[v, .int .i64 (f : Int), .int .i64 (t : Int)] w (RowPost ((l.drop f).take (t - f)) w) := by
  have hc := fit_any v l f t w hv
  have hB : fitB l.length f t = true := decide_eq_true (by omega)
  rw [hB] at hc
  obtain ⟨v1, r1, s1⟩ := slice_lh hv f t hft ht
  obtain ⟨a1, c1, e1⟩ := r1.len
  have q1 := Lib.hid r1
  obtain ⟨n1, hn1⟩ : ∃ n, ((l.drop f).take (t - f)).length = n := ⟨_, rfl⟩
  rw [hn1] at e1
  subst e1
  clear hn1
  have hz1 : ((l.drop f).take (t - f)).length ≤ 50000 := by rw [List.length_take, List.length_drop]; omega
  clear hv hB r1 hl hft ht
  have ba : ∀ o, Below w.heap.size w (w.alloc o) := fun o => (Below.refl _ w).alloc (Nat.le_refl _) _
  go_enter Tryz.func72, Tryz.ntmps72
  go_wp2_with (first
    | (go_at_call 109; ((with_reducible refine hc.mono ?_); rintro e w1 ⟨rfl, rfl⟩))
    | (go_at_call 77; ((with_reducible refine (concat1 w.heap.size _ ((l.drop f).take (t - f)) _ (by simp) (q1.out.below (ba _)) (by omega)).mono ?_); rintro e w4 ⟨v', rfl, hown, hb4⟩)))
  go_ret2
  exact row_post hown (Below.refl _ _) hb4

/-! ### Insert -/
def insB (n : Nat) (k : Int) : Bool := decide (0 ≤ k ∧ k ≤ n)

end Go.Proofs.YtafincmcmgedbaaGreatDoor
