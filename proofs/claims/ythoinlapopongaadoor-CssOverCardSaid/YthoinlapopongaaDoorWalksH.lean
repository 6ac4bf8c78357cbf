/-
  Parse: what a style sets and clears.
-/
import Derived.Test.YthoinlapopongaaDoorWalksG
import Derived.Laws.EntriesVeiled
namespace Go.Proofs.YthoinlapopongaaDoor
open Go.RowKit Go.Lib Go.Shelf
attribute [local go_sem] Oper.semAt_some

set_option maxHeartbeats 8000000 in
theorem parse_any (s : ByteArray) (w : World) (hs : s.size ≤ 1000000000) (hE : Env w) :
    Calls Tryd.prog 9 #[.string s] w fun e w' => e = .returned (.tuple #[.int .i64 (parseS s).1.toInt, .int .i64 (parseS s).2.toInt]) ∧ Below w.heap.size w w' := by
  have hdc := fun w => declarations_any s w
  refine (callsIn_wide (n := 9)).1 ?_
  refine callsIn_of_wp_marks Tryd.func9 rfl trivial ?_ rfl
  simp only [Tryd.ntmps9, List.size_toArray, List.length_cons, List.length_nil, Nat.reduceAdd, Nat.reduceSub, Array.replicate_succ, Array.replicate_zero, List.push_toArray, List.append_toArray, List.nil_append, List.cons_append]
  gi_wp2_with (refine ⟨trivial, ?_⟩; gi_at_call 15; refine (callsIn_wide.2 (hdc _)).mono ?_; rintro e w1 ⟨rfl, hz1, hb1, c1⟩)
  rw [World.size_alloc, World.size_alloc, World.size_alloc] at hz1 hb1 c1
  have hb0 : Below w.heap.size w w1 := ((((Below.refl _ w).alloc (Nat.le_refl _) _).alloc (by simp) _).alloc (by simp; omega) _).trans (hb1.mono (by omega))
  obtain ⟨F, hF⟩ : ∃ F : Value, .func (.func 14) #[] #[.pointer (some ⟨w.heap.size, 0, none⟩), .pointer (some ⟨w.heap.size + 1, 0, none⟩)] = F := ⟨_, rfl⟩
  rw [hF] at hb1
  obtain ⟨n1, n2⟩ := new_cell w (.int .i64 0) 3
  obtain ⟨m1, m2⟩ := new_cell (w.alloc (.cells #[.int .i64 0] 3)) (.int .i64 0) 3
  have k1 := (new_cell ((w.alloc (.cells #[.int .i64 0] 3)).alloc (.cells #[.int .i64 0] 3)) F 32).1
  rw [World.size_alloc] at m1 m2
  rw [World.size_alloc, World.size_alloc] at k1
  have two1 : Two w.heap.size (0#64).toInt (0#64).toInt w1 := by
    have two0 : Two w.heap.size (0#64).toInt (0#64).toInt (((w.alloc (.cells #[.int .i64 0] 3)).alloc (.cells #[.int .i64 0] 3)).alloc (.cells #[F] 32)) :=
      ⟨old_cell _ (old_cell _ n1), old_frozen _ (old_cell _ n1) (old_frozen _ n1 n2), old_cell _ m1, old_frozen _ m1 m2⟩
    exact two0.kept (grown_of_below (hb1.mono (by simp))) (fun r e => by cases e)
  have y1 := (hb1.cell (p := ⟨w.heap.size + 1 + 1, 0, none⟩) (show w.heap.size + 1 + 1 < w.heap.size + 1 + 1 + 1 by omega)).trans k1
  have HF := Lib.hid hF
  clear n1 n2 m1 m2 k1 hb1 hdc hF
  refine range_goes (gf := 25) rfl (enters_of Tryd.func25 (by kernel_rfl) rfl)
    (decls_goes (w.heap.size + 1 + 1 + 1) s hs (fun W => Below w.heap.size w W) (fun W h => hE.below h) w1 hz1 c1) (by omega) (Below.refl _ _) (fun _ => rfl)
    (fun pre W => Below w.heap.size w W ∧ Two w.heap.size (foldS pre).1.toInt (foldS pre).2.toInt W ∧ W.cell? ⟨w.heap.size + 1 + 1, 0, none⟩ = some F)
    (fun _ _ _ => False)
    (fun s V V' row h hg hr => ⟨h.1.grown hg h.1.size (fun k e => by have := hr k e; omega), h.2.1.kept hg (fun r e => by have := hr r e; omega), grown_cell (own := (w.heap.size + 1 + 1 + 1 ≤ ·)) hg hr (show ¬ w.heap.size + 1 + 1 + 1 ≤ w.heap.size + 1 + 1 by omega) h.2.2⟩)
    (fun _ _ _ _ _ h _ _ => h) (fun _ _ _ h => h) (fun _ _ h => h.1)
    ⟨hb0, two1, y1⟩
    (fun d => { tmps := #[.string s, undef, .pointer (some ⟨w.heap.size, 0, none⟩), .pointer (some ⟨w.heap.size + 1, 0, none⟩), .pointer (some ⟨w.heap.size + 1 + 1, 0, none⟩), .string d.1, .string d.2, .func (.func 14) #[] #[.pointer (some ⟨w.heap.size, 0, none⟩), .pointer (some ⟨w.heap.size + 1, 0, none⟩)], .string s, .func (.func 25) #[] #[.pointer (some ⟨w.heap.size + 1 + 1 + 1, 0, none⟩)], .string d.1, .string d.2, undef, undef, undef, undef, undef, undef, undef, undef, undef], defers := [] }) ?assign ?body ?done ?stop
  case assign =>
    intro l x V K hK
    gi_wp2
    exact hK
  case body =>
    rintro l₂ pre ⟨p, v⟩ V hsz ⟨hb, two, y2⟩ hT
    replace hT : v.size ≤ s.size := hT
    have ht := fun w h => told_any p v w (by omega) h
    have hst := foldS_snoc pre (p, v)
    have e1 : (foldS (pre ++ [(p, v)])).1 = overS (foldS pre).1 (toldS p v).1 (toldS p v).2 := by rw [hst]; rfl
    have e2 : (foldS (pre ++ [(p, v)])).2 = overS (foldS pre).2 (toldS p v).2 (toldS p v).1 := by rw [hst]; rfl
    have hstay : Stays (w.heap.size + 1 + 1 + 1 ≤ ·) V V.drew := Stays.below (below_draws V 1)
    replace hb : Below w.heap.size w V.drew := hb.trans ((below_draws V 1).mono hb.size)
    replace two := two.kept (grown_of_below (below_draws V 1)) (fun r e => by cases e)
    replace y2 : V.drew.cell? ⟨w.heap.size + 1 + 1, 0, none⟩ = some F := y2
    rw [← HF.out] at y2
    have E1 := Lib.hid e1
    have E2 := Lib.hid e2
    clear e1 e2 hst
    have hmx : Tryd.prog.follows .mixedOrders = true := by kernel_rfl
    gi_wp2
    gi_region_with_o (first
      | (refine ⟨trivial, ?_⟩; gi_at_call 16; ((with_reducible refine (CallsIn.inRound l₂ (callsIn_wide.2 (ht _ (hE.below hb)))).mono ?_); rintro e w3 ⟨rfl, hb3⟩; replace y2 := (hb3.cell (p := ⟨w.heap.size + 1 + 1, 0, none⟩) (lt_of_cell' y2)).trans y2; replace hb := hb.trans (hb3.mono hb.size); replace two := two.kept (grown_of_below hb3) (fun r e => by cases e); replace hstay := hstay.trans (Stays.below hb3)))
      | (refine ⟨trivial, ?_⟩; gi_at_call 14; ((refine (CallsIn.inRound l₂ (callsIn_wide.2 (say_any _ _ _ _ _ _ two))).mono ?_); rintro e w4 ⟨⟨r, rfl⟩, two4, hbut⟩)))
    all_goals gi_wp2
    all_goals exact ⟨hstay.trans (hbut.stays (fun k ho h => by rcases h with h | h <;> omega)), hb.trans (hbut.below hb.size (fun k h => by rcases h with h | h <;> omega)), by rw [E1.out, E2.out]; exact two4,
      (World.cell?_of_block (hbut.same _ (lt_of_cell' y2) (fun h => by rcases h with h | h <;> (simp at h; try omega)))).trans (y2.trans (congrArg some HF.out))⟩
  case done =>
    rintro D xs V hD rfl ⟨hb, two, y2⟩ hK'
    obtain ⟨a1, a2, a3, a4⟩ := two
    have eP : parseS s = foldS (declsB s.data.toList) := rfl
    rw [← eP] at a1 a3
    obtain ⟨X, hX⟩ : ∃ X, (parseS s).1.toInt = X := ⟨_, rfl⟩
    obtain ⟨Y, hY⟩ : ∃ Y, (parseS s).2.toInt = Y := ⟨_, rfl⟩
    rw [hX] at a1
    rw [hY] at a3
    have HX := Lib.hid hX
    have HY := Lib.hid hY
    clear hX hY eP y2
    gi_wp2
    have hmx : Tryd.prog.follows .mixedOrders = true := by kernel_rfl
    gi_region_with_o (fail)
    all_goals gi_wp2
    all_goals
      have t9 := Two.set ⟨a1, a2, a3, a4⟩ X Y
      have hK9 := (((KeepsOthers.setCell V ⟨w.heap.size, 0, none⟩ (.int .i64 X)).trans (KeepsOthers.setCell _ ⟨w.heap.size + 1, 0, none⟩ (.int .i64 Y))).trans (KeepsOthers.drew _)).same D _ hK' rfl
      have hb9 : Below w.heap.size w ((V.setCell ⟨w.heap.size, 0, none⟩ (.int .i64 X)).setCell ⟨w.heap.size + 1, 0, none⟩ (.int .i64 Y)).drew :=
        ((hb.setCell (p := ⟨w.heap.size, 0, none⟩) (Nat.le_refl _) _).setCell (p := ⟨w.heap.size + 1, 0, none⟩) (Nat.le_succ _) _).trans ((below_draws _ 1).mono (by have := hb.size; simp; omega))
      refine ⟨by simp, .inl ⟨_, _, rfl, run_takeDeferred hK9, ?_⟩⟩
      have k1 := cell_kept t9.c1 (grownBy_putObj' _ D (.deferred none)) (fun r e => by cases e; exact ⟨_, hK9, rfl⟩)
      have k2 := cell_kept t9.c2 (grownBy_putObj' _ D (.deferred none)) (fun r e => by cases e; exact ⟨_, hK9, rfl⟩)
      exact ⟨_, results_cells2 rfl rfl rfl (run_isAgg_plain Tryd.underlying3 rfl) k1 k2, by rw [HX.out, HY.out], Below.grown hb9 (grownBy_putObj' _ D (.deferred none)) (by have := hb9.size; omega) (fun r e => by cases e; omega)⟩
  case stop =>
    rintro D c pre V _ _ h _
    exact h.elim

end Go.Proofs.YthoinlapopongaaDoor
