/-
  The program's Insert, Part.
-/
import Derived.Test.YtmlipcedkgfmiaaDoorFit
namespace Go.Proofs.YtmlipcedkgfmiaaDoor
open Go.RowKit Go.Lib

set_option maxHeartbeats 2000000 in
theorem part_off (v : Value) (l : Row) (f t : Int) (w : World) (hv : RowAt w v l) (h : fitB l.length f t = false) :
    Calls Tryd.prog 67 #[v, .int .i64 f, .int .i64 t] w fun e w' => e = .returned errV ∧ Below w.heap.size w w' := by
  have hc := fit_any v l f t w hv
  rw [h] at hc
  unfold errV
  clear hv h
  go_enter Tryd.func67, Tryd.ntmps67
  go_wp2_with (go_at_call 73; ((with_reducible refine hc.mono ?_); rintro e w1 ⟨rfl, rfl⟩))
  go_ret2
  exact ⟨rfl, Below.refl _ _⟩

set_option maxRecDepth 20000 in
set_option maxHeartbeats 4000000 in
theorem part_on (v : Value) (l : Row) (f t : Nat) (w : World) (hv : RowAt w v l) (hl : l.length ≤ 50000) (hft : f ≤ t) (ht : t ≤ l.length) :
    Calls Tryd.prog 67 #[v, .int .i64 (f : Int), .int .i64 (t : Int)] w (RowPost ((l.drop f).take (t - f)) w) := by
  have hc := fit_any v l f t w hv
  have hB : fitB l.length f t = true := decide_eq_true (by omega)
  rw [hB] at hc
  obtain ⟨v1, r1, s1⟩ := slice_lh hv f t hft ht
  obtain ⟨a1, c1, e1⟩ := r1.len
  have q1 := Lib.hid r1
  obtain ⟨n1, hn1⟩ : ∃ n, ((l.drop f).take (t - f)).length = n := ⟨_, rfl⟩
  rw [hn1] at e1
  subst e1
  clear hn1
  have hz1 : ((l.drop f).take (t - f)).length ≤ 50000 := by rw [List.length_take, List.length_drop]; omega
  clear hv hB r1 hl hft ht
  have ba : ∀ o, Below w.heap.size w (w.alloc o) := fun o => (Below.refl _ w).alloc (Nat.le_refl _) _
  go_enter Tryd.func67, Tryd.ntmps67
  go_wp2_with (first
    | (go_at_call 73; ((with_reducible refine hc.mono ?_); rintro e w1 ⟨rfl, rfl⟩))
    | (go_at_call 46; ((with_reducible refine (concat1 w.heap.size _ ((l.drop f).take (t - f)) _ (by simp) (q1.out.below (ba _)) (by omega)).mono ?_); rintro e w4 ⟨v', rfl, hown, hb4⟩)))
  go_ret2
  exact row_post hown (Below.refl _ _) hb4

/-! ### Insert -/
def insB (n : Nat) (k : Int) : Bool := decide (0 ≤ k ∧ k ≤ n)

set_option maxHeartbeats 2000000 in
theorem insert_off (v u : Value) (l : Row) (k : Int) (w : World) (hv : RowAt w v l) (h : insB l.length k = false) :
    Calls Tryd.prog 51 #[v, .int .i64 k, u] w fun e w' => e = .returned errV ∧ Below w.heap.size w w' := by
  obtain ⟨a, c, rfl⟩ := hv.len
  obtain ⟨n, hn⟩ : ∃ n, l.length = n := ⟨_, rfl⟩
  rw [hn] at h ⊢
  have hk : ¬ (0 ≤ k ∧ k ≤ n) := of_decide_eq_false h
  clear hv hn h
  unfold errV
  by_cases h0 : k < 0
  · clear hk
    go_enter Tryd.func51, Tryd.ntmps51
    go_wp2
    go_ret2
    exact ⟨rfl, Below.refl _ _⟩
  · have h1 : (n : Int) < k := by omega
    clear hk
    go_enter Tryd.func51, Tryd.ntmps51
    go_wp2
    go_ret2
    exact ⟨rfl, Below.refl _ _⟩

set_option maxRecDepth 20000 in
set_option maxHeartbeats 4000000 in
theorem insert_on (v u : Value) (l m : Row) (k : Nat) (w : World) (hv : RowAt w v l) (hu : RowAt w u m) (hl : l.length ≤ 50000) (hm : m.length ≤ 50000) (hk : k ≤ l.length) :
    Calls Tryd.prog 51 #[v, .int .i64 (k : Int), u] w (RowPost (l.take k ++ m ++ l.drop k) w) := by
  obtain ⟨v1, r1, s1⟩ := slice_h hv k hk
  obtain ⟨v2, r2, s2⟩ := slice_l hv k hk
  have q1 := Lib.hid r1
  have q2 := Lib.hid r2
  have q3 := Lib.hid hu
  have hz1 : (l.take k).length + (l.drop k).length ≤ 50000 := by rw [List.length_take, List.length_drop]; omega
  have hel : (Tryd.prog.underlying 23) = some (.slice (Tryd.prog.elem 23)) := by kernel_rfl
  have hlen : ∀ ty W, (Builtin.len_ #[23] ty #[v]).run Tryd.prog W = .ok (.int .i64 (l.length : Int)) W := by
    obtain ⟨a, c, rfl⟩ := hv.len
    intro ty W
    rw [run_len_slice W _ _ _ _ _ hel]; rfl
  obtain ⟨n, hn⟩ : ∃ n, l.length = n := ⟨_, rfl⟩
  rw [hn] at hlen hk hl
  clear hv hu r1 r2 hn hel
  have hkn : (k : Int) ≤ (n : Int) := by omega
  go_enter Tryd.func51, Tryd.ntmps51
  go_wp2
  go_still_tail 7, (by kernel_rfl)
  change wpList _ _ _ _ _ w.drew
  have b1 : Below w.heap.size w w.drew := (Below.refl _ w).drew
  have p1 := q1.out.below b1
  have p2 := q2.out.below b1
  have p3 := q3.out.below b1
  obtain ⟨w2, hw2⟩ : ∃ w2, w.drew = w2 := ⟨_, rfl⟩
  rw [hw2] at b1 p1 p2 p3 ⊢
  have P1 := Lib.hid p1
  have P2 := Lib.hid p2
  have P3 := Lib.hid p3
  clear hw2 p1 p2 p3 q1 q2 q3 s1 s2 hlen
  obtain ⟨a1, c1, e1⟩ := P1.out.len
  obtain ⟨n1, hn1⟩ : ∃ n, (l.take k).length = n := ⟨_, rfl⟩
  rw [hn1] at e1
  subst e1
  clear hn1
  obtain ⟨a2, c2, e2⟩ := P2.out.len
  obtain ⟨n2, hn2⟩ : ∃ n, (l.drop k).length = n := ⟨_, rfl⟩
  rw [hn2] at e2
  subst e2
  clear hn2
  obtain ⟨a3, c3, e3⟩ := P3.out.len
  obtain ⟨n3, hn3⟩ : ∃ n, (m).length = n := ⟨_, rfl⟩
  rw [hn3] at e3
  subst e3
  clear hn3
  have hb1 := b1.size
  have ba : ∀ o, Below w2.heap.size w2 (w2.alloc o) := fun o => (Below.refl _ w2).alloc (Nat.le_refl _) _
  go_wp2_with (go_at_call 46; ((with_reducible refine (concat3 w2.heap.size _ _ _ (l.take k) m (l.drop k) _ (by simp) (by simp) (by simp) (P1.out.below (ba _)) (P3.out.below (ba _)) (P2.out.below (ba _)) (by omega)).mono ?_); rintro e w4 ⟨v', rfl, hown, hb4⟩))
  go_ret2
  exact row_post hown b1 hb4

end Go.Proofs.YtmlipcedkgfmiaaDoor
