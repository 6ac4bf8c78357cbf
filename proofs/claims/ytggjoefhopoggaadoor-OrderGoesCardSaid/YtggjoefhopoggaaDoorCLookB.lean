/-
  look.
-/
import Derived.Test.YtggjoefhopoggaaDoorCLook

namespace Go.Proofs.YtggjoefhopoggaaDoor
open Go.RowKit Go.Lib

set_option maxRecDepth 20000 in
set_option maxHeartbeats 8000000 in
theorem look_any (w : World) (t : Pn) (hT : OwnT w) (hP : PlAt w t) (hn : sizeP t ≤ 50000) :
    Calls Tryd.prog 65 #[t.v] w fun e w' => ∃ lg h c, e = .returned (.agg #[.bool (!goodP t), .bool lg, .int .i64 h, .int .i64 c]) ∧ Below w.heap.size w w' ∧ (goodP t = true → lg = !shortP t ∧ h = highP 0 0 t ∧ c = (sizeP t : Int)) := by
  obtain ⟨w0, hw0⟩ : ∃ w0, (w.alloc (.cells #[.int .i64 t.tag, .slice t.aa t.an t.ac, .string t.tx, .slice t.ka t.kn t.kc] 67)).alloc (.cells #[.bool false, .bool false, .int .i64 0, .int .i64 0] 95) = w0 := ⟨_, rfl⟩
  have hb0 : Below w.heap.size w w0 := by rw [← hw0]; exact ((Below.refl _ _).alloc (Nat.le_refl _) _).alloc (by simp) _
  have hz0 : w0.heap.size = w.heap.size + 1 + 1 := by rw [← hw0]; simp
  have x0 : w0.cell? ⟨w.heap.size, 0, none⟩ = some (.int .i64 t.tag) := by rw [← hw0]; simp [go_sem]
  have x1 : w0.cell? ⟨w.heap.size, 1, none⟩ = some (.slice t.aa t.an t.ac) := by rw [← hw0]; simp [go_sem]
  have x2 : w0.cell? ⟨w.heap.size, 2, none⟩ = some (.string t.tx) := by rw [← hw0]; simp [go_sem]
  have x3 : w0.cell? ⟨w.heap.size, 3, none⟩ = some (.slice t.ka t.kn t.kc) := by rw [← hw0]; simp [go_sem]
  have z0 : w0.cell? ⟨w.heap.size + 1, 0, none⟩ = some (.bool false) := by rw [← hw0]; simp [go_sem]
  have z1 : w0.cell? ⟨w.heap.size + 1, 1, none⟩ = some (.bool false) := by rw [← hw0]; simp [go_sem]
  have z2 : w0.cell? ⟨w.heap.size + 1, 2, none⟩ = some (.int .i64 0) := by rw [← hw0]; simp [go_sem]
  have z3 : w0.cell? ⟨w.heap.size + 1, 3, none⟩ = some (.int .i64 0) := by rw [← hw0]; simp [go_sem]
  have zf : ∀ j, w0.frozen? ⟨w.heap.size + 1, j, none⟩ = false := fun j => by rw [← hw0]; simp [go_sem]
  have KZ : Hid (∀ w', Below w0.heap.size w0 w' → (w'.cell? ⟨w.heap.size + 1, 0, none⟩ = some (.bool false) ∧ w'.cell? ⟨w.heap.size + 1, 1, none⟩ = some (.bool false) ∧ w'.cell? ⟨w.heap.size + 1, 2, none⟩ = some (.int .i64 0) ∧ w'.cell? ⟨w.heap.size + 1, 3, none⟩ = some (.int .i64 0) ∧ ∀ j, w'.frozen? ⟨w.heap.size + 1, j, none⟩ = false)) := Lib.hid (fun w' h => ⟨(h.cell (by simp; omega)).trans z0, (h.cell (by simp; omega)).trans z1, (h.cell (by simp; omega)).trans z2, (h.cell (by simp; omega)).trans z3, fun j => (h.frozen (by simp; omega)).trans (zf j)⟩)
  have cO := on_any w0 w0.heap.size (w0.heap.size + 1) (Nat.le_refl _) (by omega) (by omega) (hT.below hb0) (sizeP t) t (Nat.le_refl _) (hP.stay hb0)
  have W4b : Below w0.heap.size w0 ((w0.alloc (.cells #[.bool false, .bool false, .int .i64 0, .int .i64 0] 95)).alloc (.cells #[onV w0.heap.size (w0.heap.size + 1)] 110)) := ((Below.refl _ _).alloc (Nat.le_refl _) _).alloc (by simp) _
  have c4 := cO ((w0.alloc (.cells #[.bool false, .bool false, .int .i64 0, .int .i64 0] 95)).alloc (.cells #[onV w0.heap.size (w0.heap.size + 1)] 110)) 0 0 0 false false W4b ⟨by simp [go_sem], by simp [go_sem], by simp [go_sem], by simp [go_sem], fun j => by simp [go_sem]⟩ (by simp [go_sem]) (by omega) (by omega) (by omega) (by omega)
  obtain ⟨g, hg⟩ : ∃ g, goodP t = g := ⟨_, rfl⟩
  unfold LookPost onV at c4
  rw [hg] at c4
  rw [hg]
  have hv : t.v = .agg #[.int .i64 t.tag, .slice t.aa t.an t.ac, .string t.tx, .slice t.ka t.kn t.kc] := rfl
  rw [hv] at c4 ⊢
  have HBB := Lib.hid hb0
  have hzb : w.heap.size + 1 < w0.heap.size := by omega
  rw [hz0] at c4
  have HZ := Lib.hid hz0
  have hfin : ∀ w5, Below w0.heap.size w0 w5 → Below w.heap.size w w5 := fun w5 h => HBB.out.trans (h.mono HBB.out.size)
  have HF := Lib.hid hfin
  clear hT hP cO W4b zf hb0 hfin z0 z1 z2 z3
  cases g with
  | true =>
    go_enter Tryd.func65, Tryd.ntmps65
    go_wp2_with (go_at_call 82; ((with_reducible refine (c4).mono ?_); rintro e w5 ⟨rfl, b5, o5, g5, _⟩; obtain ⟨q0, q1, q2, q3, qf⟩ := g5 rfl; obtain ⟨z0, z1, z2, z3, zf⟩ := KZ.out w5 (by rw [HZ.out]; exact b5); have zf0 := zf 0; have zf1 := zf 1; have zf2 := zf 2; have zf3 := zf 3; have B5 := Lib.hid b5; clear b5 o5 g5 zf qf))
    refine bodyPost_ret (v := .agg #[.bool _, .bool _, .int .i64 _, .int .i64 _]) (by simp [results, Tryd.results65, go_sem, *]; done) rfl ⟨_, _, _, rfl, ?_, fun _ => ⟨rfl, rfl, rfl⟩⟩
    exact ((((HF.out w5 (by rw [HZ.out]; exact B5.out)).setCell (by simp) _).setCell (by simp) _).setCell (by simp) _).setCell (by simp) _
  | false =>
    go_enter Tryd.func65, Tryd.ntmps65
    go_wp2_with (go_at_call 82; ((with_reducible refine (c4).mono ?_); rintro e w5 ⟨rfl, b5, o5, _, g5⟩; obtain ⟨lg', h', c', q0, q1, q2, q3, qf⟩ := g5 rfl; obtain ⟨z0, z1, z2, z3, zf⟩ := KZ.out w5 (by rw [HZ.out]; exact b5); have zf0 := zf 0; have zf1 := zf 1; have zf2 := zf 2; have zf3 := zf 3; have B5 := Lib.hid b5; clear b5 o5 g5 zf qf))
    refine bodyPost_ret (v := .agg #[.bool true, .bool lg', .int .i64 h', .int .i64 c']) (by simp [results, Tryd.results65, go_sem, *]; done) rfl ⟨_, _, _, rfl, ?_, fun e => (by cases e)⟩
    exact ((((HF.out w5 (by rw [HZ.out]; exact B5.out)).setCell (by simp) _).setCell (by simp) _).setCell (by simp) _).setCell (by simp) _

end Go.Proofs.YtggjoefhopoggaaDoor
