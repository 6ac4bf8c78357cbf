/-
  The program's Split.
-/
import Derived.Test.YtafincmcmgedbaaGreatDoorCSplit

namespace Go.Proofs.YtafincmcmgedbaaGreatDoor
open Go.RowKit Go.Lib

def splitS (z : Int) (L : Ln) : Int × Ln × Ln := if mayS L = true then splitO z L else (1, ln0, ln0)
theorem box_five (w : World) (q k x : Int) (sl sc : Value) :
    Below w.heap.size w (((((w.alloc (.cells #[.int .i64 q, sl, .int .i64 k, sc] 46)).alloc (.cells #[.int .i64 x] 3)).alloc (.cells #[.int .i64 0, .slice none 0 0, .int .i64 0, .slice none 0 0] 46)).alloc (.cells #[.int .i64 0, .slice none 0 0, .int .i64 0, .slice none 0 0] 46)).alloc (.cells #[.int .i64 0, .slice none 0 0, .int .i64 0, .slice none 0 0] 46)) ∧ BoxAt (((((w.alloc (.cells #[.int .i64 q, sl, .int .i64 k, sc] 46)).alloc (.cells #[.int .i64 x] 3)).alloc (.cells #[.int .i64 0, .slice none 0 0, .int .i64 0, .slice none 0 0] 46)).alloc (.cells #[.int .i64 0, .slice none 0 0, .int .i64 0, .slice none 0 0] 46)).alloc (.cells #[.int .i64 0, .slice none 0 0, .int .i64 0, .slice none 0 0] 46)) w.heap.size q sl k sc ∧ (((((w.alloc (.cells #[.int .i64 q, sl, .int .i64 k, sc] 46)).alloc (.cells #[.int .i64 x] 3)).alloc (.cells #[.int .i64 0, .slice none 0 0, .int .i64 0, .slice none 0 0] 46)).alloc (.cells #[.int .i64 0, .slice none 0 0, .int .i64 0, .slice none 0 0] 46)).alloc (.cells #[.int .i64 0, .slice none 0 0, .int .i64 0, .slice none 0 0] 46)).cell? ⟨w.heap.size + 1, 0, none⟩ = some (.int .i64 x) ∧
    BoxAt (((((w.alloc (.cells #[.int .i64 q, sl, .int .i64 k, sc] 46)).alloc (.cells #[.int .i64 x] 3)).alloc (.cells #[.int .i64 0, .slice none 0 0, .int .i64 0, .slice none 0 0] 46)).alloc (.cells #[.int .i64 0, .slice none 0 0, .int .i64 0, .slice none 0 0] 46)).alloc (.cells #[.int .i64 0, .slice none 0 0, .int .i64 0, .slice none 0 0] 46)) (w.heap.size + 1 + 1) 0 (.slice none 0 0) 0 (.slice none 0 0) ∧ BoxAt (((((w.alloc (.cells #[.int .i64 q, sl, .int .i64 k, sc] 46)).alloc (.cells #[.int .i64 x] 3)).alloc (.cells #[.int .i64 0, .slice none 0 0, .int .i64 0, .slice none 0 0] 46)).alloc (.cells #[.int .i64 0, .slice none 0 0, .int .i64 0, .slice none 0 0] 46)).alloc (.cells #[.int .i64 0, .slice none 0 0, .int .i64 0, .slice none 0 0] 46)) (w.heap.size + 1 + 1 + 1) 0 (.slice none 0 0) 0 (.slice none 0 0) ∧ BoxAt (((((w.alloc (.cells #[.int .i64 q, sl, .int .i64 k, sc] 46)).alloc (.cells #[.int .i64 x] 3)).alloc (.cells #[.int .i64 0, .slice none 0 0, .int .i64 0, .slice none 0 0] 46)).alloc (.cells #[.int .i64 0, .slice none 0 0, .int .i64 0, .slice none 0 0] 46)).alloc (.cells #[.int .i64 0, .slice none 0 0, .int .i64 0, .slice none 0 0] 46)) (w.heap.size + 1 + 1 + 1 + 1) 0 (.slice none 0 0) 0 (.slice none 0 0) := by
  obtain ⟨h1, h2, h3, h4⟩ := box_three w q k 0 0 x sl sc (.slice none 0 0) (.slice none 0 0)
  obtain ⟨W, hW⟩ : ∃ W, ((w.alloc (.cells #[.int .i64 q, sl, .int .i64 k, sc] 46)).alloc (.cells #[.int .i64 x] 3)).alloc (.cells #[.int .i64 0, .slice none 0 0, .int .i64 0, .slice none 0 0] 46) = W := ⟨_, rfl⟩
  have hs : W.heap.size = w.heap.size + 1 + 1 + 1 := by rw [← hW]; simp
  rw [hW] at h1 h2 h3 h4 ⊢
  obtain ⟨g1, g2, g3⟩ := box_two W 0 0 0 0 (.slice none 0 0) (.slice none 0 0) (.slice none 0 0) (.slice none 0 0)
  rw [hs] at g2 g3
  exact ⟨h1.trans (g1.mono (by omega)), h2.below g1, (g1.cell (p := ⟨w.heap.size + 1, 0, none⟩) (show w.heap.size + 1 < W.heap.size by omega)).trans h4, h3.below g1, g2, g3⟩

def SplitPost (r : Int × Ln × Ln) (w : World) (e : Ending) (w' : World) : Prop :=
  ∃ D sl sc sl2 sc2, e = .returned (.tuple #[.agg #[.int .i64 r.2.1.q, sl, .int .i64 r.2.1.k, sc], .agg #[.int .i64 r.2.2.q, sl2, .int .i64 r.2.2.k, sc2], .int .i64 r.1]) ∧ MineLn w.heap.size D w' sl sc r.2.1.ls r.2.1.cs ∧ MineLn D w'.heap.size w' sl2 sc2 r.2.2.ls r.2.2.cs ∧ Below w.heap.size w w' ∧ w.heap.size ≤ D ∧ D ≤ w'.heap.size
theorem split_endA {w W w2 : World} {D r1 r2 V : Nat} {sl sc sl2 sc2 : Value} {ls ls2 : IRow} {cs cs2 : Row} (hW : Below w.heap.size w W) (hb : But W.heap.size V W w2) (hV : w.heap.size ≤ V) (h1 : w.heap.size ≤ r1) (h1' : r1 < W.heap.size) (h2 : w.heap.size ≤ r2) (h2' : r2 < W.heap.size)
    (m1 : MineLn W.heap.size D w2 sl sc ls cs) (m2 : MineLn D w2.heap.size w2 sl2 sc2 ls2 cs2) (hD : W.heap.size ≤ D) (hD2 : D ≤ w2.heap.size) (q k q' k' : Int) (s c s' c' : Value) (o : Obj) :
    MineLn w.heap.size D (((put4 (put4 w2 r1 q s k c) r2 q' s' k' c').alloc o).drew) sl sc ls cs ∧ MineLn D (((put4 (put4 w2 r1 q s k c) r2 q' s' k' c').alloc o).drew).heap.size (((put4 (put4 w2 r1 q s k c) r2 q' s' k' c').alloc o).drew) sl2 sc2 ls2 cs2 ∧ Below w.heap.size w (((put4 (put4 w2 r1 q s k c) r2 q' s' k' c').alloc o).drew) ∧ w.heap.size ≤ D ∧ D ≤ (((put4 (put4 w2 r1 q s k c) r2 q' s' k' c').alloc o).drew).heap.size := by
  have hw := hW.size
  have bw2 : Below w.heap.size w w2 := hW.trans (hb.below hw hV)
  have s4 : (put4 (put4 w2 r1 q s k c) r2 q' s' k' c').heap.size = w2.heap.size := by rw [put4_size, put4_size]
  have b9 : Below (put4 (put4 w2 r1 q s k c) r2 q' s' k' c').heap.size (put4 (put4 w2 r1 q s k c) r2 q' s' k' c') (((put4 (put4 w2 r1 q s k c) r2 q' s' k' c').alloc o).drew) := ((Below.refl _ _).alloc (Nat.le_refl _) _).drew
  have n1 := (((m1.kept (put4_kept (r := r1) (q := q) (k := k) (sl := s) (sc := c) (.inl h1'))).kept (put4_kept (r := r2) (q := q') (k := k') (sl := s') (sc := c') (.inl h2'))).below b9).mono hw (Nat.le_refl D)
  have n2 := ((m2.kept (put4_kept (r := r1) (q := q) (k := k) (sl := s) (sc := c) (.inl (Nat.lt_of_lt_of_le h1' hD)))).kept (put4_kept (r := r2) (q := q') (k := k') (sl := s') (sc := c') (.inl (Nat.lt_of_lt_of_le h2' hD)))).below b9
  have hs9 := b9.size
  exact ⟨n1, n2.mono (Nat.le_refl _) (by omega), (put4_below (put4_below bw2 h1) h2).trans (b9.mono (by have := bw2.size; omega)), by omega, by omega⟩
theorem split_endB {w W w2 : World} {A D r1 r2 V p : Nat} {sl sc sl2 sc2 : Value} {ls ls2 : IRow} {cs cs2 : Row} (hW : Below w.heap.size w W) (hb : But W.heap.size V W w2) (hV : w.heap.size ≤ V) (h1 : w.heap.size ≤ r1) (h1' : r1 < W.heap.size) (h2 : w.heap.size ≤ r2) (h2' : r2 < W.heap.size)
    (m1 : MineLn A D w2 sl sc ls cs) (m2 : MineLn D w2.heap.size w2 sl2 sc2 ls2 cs2) (hp : W.heap.size ≤ p) (hpA : p + 1 ≤ A) (hpD : p < D) (hD2 : D ≤ w2.heap.size) (q k q' k' q9 k9 : Int) (s c s' c' s9 c9 : Value) :
    MineLn w.heap.size D ((put4 (put4 (put4 w2 p q9 s9 k9 c9) r1 q s k c) r2 q' s' k' c').drew) sl sc ls cs ∧ MineLn D ((put4 (put4 (put4 w2 p q9 s9 k9 c9) r1 q s k c) r2 q' s' k' c').drew).heap.size ((put4 (put4 (put4 w2 p q9 s9 k9 c9) r1 q s k c) r2 q' s' k' c').drew) sl2 sc2 ls2 cs2 ∧ Below w.heap.size w ((put4 (put4 (put4 w2 p q9 s9 k9 c9) r1 q s k c) r2 q' s' k' c').drew) ∧ w.heap.size ≤ D ∧ D ≤ ((put4 (put4 (put4 w2 p q9 s9 k9 c9) r1 q s k c) r2 q' s' k' c').drew).heap.size := by
  have hw := hW.size
  have bw2 : Below w.heap.size w w2 := hW.trans (hb.below hw hV)
  have b9 : Below (put4 (put4 (put4 w2 p q9 s9 k9 c9) r1 q s k c) r2 q' s' k' c').heap.size (put4 (put4 (put4 w2 p q9 s9 k9 c9) r1 q s k c) r2 q' s' k' c') ((put4 (put4 (put4 w2 p q9 s9 k9 c9) r1 q s k c) r2 q' s' k' c').drew) := (Below.refl _ _).drew
  have s4 : (put4 (put4 (put4 w2 p q9 s9 k9 c9) r1 q s k c) r2 q' s' k' c').heap.size = w2.heap.size := by rw [put4_size, put4_size, put4_size]
  have n1 := ((((m1.kept (put4_kept (r := p) (q := q9) (k := k9) (sl := s9) (sc := c9) (.inl hpA))).kept (put4_kept (r := r1) (q := q) (k := k) (sl := s) (sc := c) (.inl (by omega)))).kept (put4_kept (r := r2) (q := q') (k := k') (sl := s') (sc := c') (.inl (by omega)))).below b9).mono (show w.heap.size ≤ A by omega) (Nat.le_refl D)
  have n2 := (((m2.kept (put4_kept (r := p) (q := q9) (k := k9) (sl := s9) (sc := c9) (.inl hpD))).kept (put4_kept (r := r1) (q := q) (k := k) (sl := s) (sc := c) (.inl (by omega)))).kept (put4_kept (r := r2) (q := q') (k := k') (sl := s') (sc := c') (.inl (by omega)))).below b9
  have hs9 := b9.size
  exact ⟨n1, n2.mono (Nat.le_refl _) (by omega), (put4_below (put4_below (put4_below bw2 (by omega)) h1) h2).trans (b9.mono (by have := bw2.size; omega)), by omega, by omega⟩


set_option maxRecDepth 20000 in
set_option maxHeartbeats 16000000 in
theorem Split_any (q k z : Int) (sl sc : Value) (ls : IRow) (cs : Row) (w : World) (h : LnAt w sl sc ls cs) (hls : ls.length ≤ 50000) (hcs : cs.length ≤ 50000) (hf : Fair cs) (hE : Tg.Env w) :
    Calls Tryz.prog 81 #[.agg #[.int .i64 q, sl, .int .i64 k, sc], .int .i64 z] w (SplitPost (splitS z ⟨q, ls, k, cs⟩) w) := by
  obtain ⟨a1, c1, rfl⟩ := h.z.len
  obtain ⟨a2, c2, rfl⟩ := h.r.len
  have HX := Lib.hid (box_five w q k z (.slice a1 ls.length c1) (.slice a2 cs.length c2))
  have cK : ∀ (w1 : World) (D : Nat), Below w.heap.size w w1 → w1.cell? ⟨D, 0, none⟩ = some (.func (.func 114) #[] #[.pointer (some ⟨w.heap.size + 1, 0, none⟩), .pointer (some ⟨w.heap.size + 1 + 1 + 1 + 1, 0, none⟩)]) → w1.cell? ⟨w.heap.size + 1, 0, none⟩ = some (.int .i64 z) → BoxAt w1 (w.heap.size + 1 + 1 + 1 + 1) 0 (.slice none 0 0) 0 (.slice none 0 0) →
      Calls Tryz.prog 133 #[.agg #[.int .i64 q, .slice a1 ls.length c1, .int .i64 k, .slice a2 cs.length c2], .pointer (some ⟨D, 0, none⟩)] w1 (AskSplit (w.heap.size + 1 + 1 + 1 + 1) (splitS z ⟨q, ls, k, cs⟩) w1) :=
    fun w1 D h1 h2 hK HV => ask_split q k _ _ ls cs D (w.heap.size + 1) (w.heap.size + 1 + 1 + 1 + 1) w1 (h.below h1) hls hcs hf (hE.below h1) h2 (splitO z ⟨q, ls, k, cs⟩) (splitO_err z _) HV (fun hM w2 b B C sl' sc' h3 h4 h5 h6 h7 h8 h9 => split_do q k sl' sc' ls cs B C b (w.heap.size + 1) (w.heap.size + 1 + 1 + 1 + 1) z w2 h4 h5 h6 h7 hls hcs ((h3.cell (p := ⟨w.heap.size + 1, 0, none⟩) (lt_of_cell' hK)).trans hK) h9 (Nat.lt_of_lt_of_le HV.lt h8))
  obtain ⟨R, hR⟩ : ∃ R, splitS z ⟨q, ls, k, cs⟩ = R := ⟨_, rfl⟩
  rw [hR] at cK ⊢
  obtain ⟨n1, hn1⟩ : ∃ n, ls.length = n := ⟨_, rfl⟩
  obtain ⟨n2, hn2⟩ : ∃ n, cs.length = n := ⟨_, rfl⟩
  rw [hn1] at cK HX ⊢
  rw [hn2] at cK HX ⊢
  clear h hls hcs hf hE hn1 hn2 hR
  have cA := asking_any
  obtain ⟨code, ⟨q', ls', k', cs'⟩, ⟨q8, ls8, k8, cs8⟩⟩ := R
  go_enter Tryz.func81, Tryz.ntmps81
  go_wp2
  obtain ⟨W, hW⟩ : ∃ W, (((((w.alloc (.cells #[.int .i64 q, .slice a1 n1 c1, .int .i64 k, .slice a2 n2 c2] 46)).alloc (.cells #[.int .i64 z] 3)).alloc (.cells #[.int .i64 0, .slice none 0 0, .int .i64 0, .slice none 0 0] 46)).alloc (.cells #[.int .i64 0, .slice none 0 0, .int .i64 0, .slice none 0 0] 46)).alloc (.cells #[.int .i64 0, .slice none 0 0, .int .i64 0, .slice none 0 0] 46)) = W := ⟨_, rfl⟩
  rw [hW] at HX ⊢
  obtain ⟨bW, B0, hK0, R1, R2, BV⟩ := HX.out
  have HB0 := Lib.hid B0
  have HR1 := Lib.hid R1
  have HR2 := Lib.hid R2
  have HV := Lib.hid BV
  have hr0 := BV.lt
  obtain ⟨l0, x0, x1, x2, x3, _, _, _, _⟩ := B0
  have bWs := bW.size
  have HbW := Lib.hid bW
  have HK0 := Lib.hid hK0
  clear R1 R2 BV hW HX bW hK0
  go_region_with (first
    | (go_at_call 113; ((with_reducible refine (cA _ _ _).mono ?_); rintro e w1 ⟨rfl, rfl⟩))
    | (go_at_call 133; ((with_reducible refine (cK _ _ ?hb ?hd ?hk ?hv).mono ?_); (case hb => exact HbW.out.trans (Below.mono (show Below W.heap.size W _ by (repeat (first | (with_reducible exact Below.refl _ _) | assumption | (with_reducible refine Below.drew ?_) | (with_reducible refine Below.alloc ?_ ?_ _) | omega | (simp <;> omega)))) bWs)); (case hd => simp [go_sem]); (case hk => exact ((show Below W.heap.size W _ by (repeat (first | (with_reducible exact Below.refl _ _) | assumption | (with_reducible refine Below.drew ?_) | (with_reducible refine Below.alloc ?_ ?_ _) | omega | (simp <;> omega)))).cell (p := ⟨w.heap.size + 1, 0, none⟩) (show w.heap.size + 1 < W.heap.size by omega)).trans HK0.out); (case hv => exact HV.out.below (show Below W.heap.size W _ by (repeat (first | (with_reducible exact Below.refl _ _) | assumption | (with_reducible refine Below.drew ?_) | (with_reducible refine Below.alloc ?_ ?_ _) | omega | (simp <;> omega))))); rintro e w2 ⟨D, sl3, sc3, sl8, sc8, rfl, m1, hvx, m2, hbut, hD1, hD2⟩; dsimp only at m1 hvx m2; obtain ⟨a5, c5, e5⟩ := m1.z.here.len; obtain ⟨a6, c6, e6⟩ := m1.r.here.len; obtain ⟨a7, c7, e7⟩ := m2.z.here.len; obtain ⟨a8, c8, e8⟩ := m2.r.here.len; subst e5 e6 e7 e8; have hD3 : W.heap.size < D := (Nat.lt_of_lt_of_le (by first | omega | (simp <;> omega)) hD1); (try (have G8 := hbut.box (b := W.heap.size) (q := 0) (k := 0) (sl := .slice none 0 0) (sc := .slice none 0 0) ?hx (by first | omega | (simp <;> omega)) (by omega); (case hx => (constructor <;> (simp [go_sem]; done))); obtain ⟨_, g0, g1, g2, g3, g4, g5, g6, g7⟩ := G8; have hp : W.heap.size < D := hD3; have HM1 := Lib.hid (m1.mono (show W.heap.size + 1 ≤ _ by first | omega | (simp <;> omega)) (Nat.le_refl D)))); (try (have G8 := hbut.box (b := W.heap.size + 1) (q := 0) (k := 0) (sl := .slice none 0 0) (sc := .slice none 0 0) ?hx (by first | omega | (simp <;> omega)) (by omega); (case hx => (constructor <;> (simp [go_sem]; done))); obtain ⟨_, g0, g1, g2, g3, g4, g5, g6, g7⟩ := G8; have hp : W.heap.size + 1 < D := (Nat.lt_of_lt_of_le (by first | omega | (simp <;> omega)) hD1); have HM1 := Lib.hid (m1.mono (show W.heap.size + 1 + 1 ≤ _ by first | omega | (simp <;> omega)) (Nat.le_refl D)))); obtain ⟨l1, u0, u1, u2, u3, u4, u5, u6, u7⟩ := hbut.box (HR1.out.below (show Below W.heap.size W _ by (repeat (first | (with_reducible exact Below.refl _ _) | assumption | (with_reducible refine Below.drew ?_) | (with_reducible refine Below.alloc ?_ ?_ _) | omega | (simp <;> omega))))) (by first | omega | (simp <;> omega)) (by omega); obtain ⟨l2, v0, v1, v2, v3, v4, v5, v6, v7⟩ := hbut.box (HR2.out.below (show Below W.heap.size W _ by (repeat (first | (with_reducible exact Below.refl _ _) | assumption | (with_reducible refine Below.drew ?_) | (with_reducible refine Below.alloc ?_ ?_ _) | omega | (simp <;> omega))))) (by first | omega | (simp <;> omega)) (by omega); have hVX := Lib.hid hvx; obtain ⟨l3, y0, y1, y2, y3, _, _, _, _⟩ := hvx; have M1 := Lib.hid (m1.mono (show W.heap.size ≤ _ by first | omega | (simp <;> omega)) (Nat.le_refl D)); have M2 := Lib.hid m2; have HBut := Lib.hid ((But.of_below (V := w.heap.size + 1 + 1 + 1 + 1) (show Below W.heap.size W _ by (repeat (first | (with_reducible exact Below.refl _ _) | assumption | (with_reducible refine Below.drew ?_) | (with_reducible refine Below.alloc ?_ ?_ _) | omega | (simp <;> omega))))).trans (hbut.mono (by first | omega | (simp <;> omega)))); clear m1 m2 hbut)))
  all_goals clear cK cA
  all_goals go_wp2
  all_goals go_region_with fail
  all_goals go_wp2
  all_goals first
    | exact bodyPost_ret (v := .tuple #[.agg #[.int .i64 q', .slice a5 ls'.length c5, .int .i64 k', .slice a6 cs'.length c6], .agg #[.int .i64 q8, .slice a7 ls8.length c7, .int .i64 k8, .slice a8 cs8.length c8], .int .i64 code]) (by simp [results, Tryz.results81, go_sem, *]) rfl ⟨D, _, _, _, _, rfl, split_endB HbW.out HBut.out (by omega) (by omega) (by omega) (by omega) (by omega) HM1.out M2.out (by omega) (Nat.le_refl _) hp hD2 _ _ _ _ _ _ _ _ _ _ _ _⟩
    | exact bodyPost_ret (v := .tuple #[.agg #[.int .i64 q', .slice a5 ls'.length c5, .int .i64 k', .slice a6 cs'.length c6], .agg #[.int .i64 q8, .slice a7 ls8.length c7, .int .i64 k8, .slice a8 cs8.length c8], .int .i64 code]) (by simp [results, Tryz.results81, go_sem, *]) rfl ⟨D, _, _, _, _, rfl, split_endA HbW.out HBut.out (by omega) (by omega) (by omega) (by omega) (by omega) M1.out M2.out (by omega) hD2 _ _ _ _ _ _ _ _ _⟩

end Go.Proofs.YtafincmcmgedbaaGreatDoor
