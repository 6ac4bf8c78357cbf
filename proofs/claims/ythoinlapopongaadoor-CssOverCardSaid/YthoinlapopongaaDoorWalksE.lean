/-
  What the iterators are made of; what the words of text-decoration say.
-/
import Derived.Test.YthoinlapopongaaDoorWalksD
namespace Go.Proofs.YthoinlapopongaaDoor
open Go.RowKit Go.Lib Go.Shelf
attribute [local go_sem] Oper.semAt_some

theorem new_cell (w : World) (v : Value) (t : TypeId) : (w.alloc (.cells #[v] t)).cell? ⟨w.heap.size, 0, none⟩ = some v ∧ (w.alloc (.cells #[v] t)).frozen? ⟨w.heap.size, 0, none⟩ = false := by simp
theorem old_cell {w : World} {p : Addr} {v : Value} (o : Obj) (h : w.cell? p = some v) : (w.alloc o).cell? p = some v := by
  rw [World.cell?_alloc_old w o p (Nat.ne_of_lt (lt_of_cell' h))]; exact h
theorem old_frozen {w : World} {p : Addr} {v : Value} {b : Bool} (o : Obj) (h : w.cell? p = some v) (hf : w.frozen? p = b) : (w.alloc o).frozen? p = b := by
  rw [World.frozen?_alloc_old w o p (Nat.ne_of_lt (lt_of_cell' h))]; exact hf
theorem fieldsSeq_any (s : ByteArray) (w : World) :
    Calls Tryd.prog 53 #[.string s, .func (.func 54) #[] #[]] w fun e w' =>
      e = .returned (.func (.func 65) #[] #[.pointer (some ⟨w.heap.size, 0, none⟩), .pointer (some ⟨w.heap.size + 1, 0, none⟩)]) ∧ w'.heap.size = w.heap.size + 2 ∧ Below w.heap.size w w' ∧
      w'.cell? ⟨w.heap.size, 0, none⟩ = some (.string s) ∧ w'.cell? ⟨w.heap.size + 1, 0, none⟩ = some (.func (.func 54) #[] #[]) := by
  go_enter Tryd.func53, Tryd.ntmps53
  go_wp2
  go_ret
  refine ⟨rfl, by simp, ((Below.refl _ w).alloc (Nat.le_refl _) _).alloc (by simp) _, by simp, by simp⟩
theorem words_any (s : ByteArray) (w : World) :
    Calls Tryd.prog 39 #[.string s] w fun e w' =>
      e = .returned (.func (.func 65) #[] #[.pointer (some ⟨w.heap.size, 0, none⟩), .pointer (some ⟨w.heap.size + 1, 0, none⟩)]) ∧ w'.heap.size = w.heap.size + 2 ∧ Below w.heap.size w w' ∧
      w'.cell? ⟨w.heap.size, 0, none⟩ = some (.string s) ∧ w'.cell? ⟨w.heap.size + 1, 0, none⟩ = some (.func (.func 54) #[] #[]) := by
  have h := fieldsSeq_any s w
  go_enter Tryd.func39, Tryd.ntmps39
  go_wp2_with (go_at_call 53; ((with_reducible refine h.mono ?_); rintro e w1 ⟨rfl, hw1⟩))
  go_ret
  exact ⟨rfl, hw1⟩

theorem splitSeq_any (s : ByteArray) (w : World) :
    Calls Tryd.prog 35 #[.string s, .string ⟨#[59]⟩, .int .i64 0] w fun e w' =>
      e = .returned (.func (.func 42) #[] #[.pointer (some ⟨w.heap.size + 1, 0, none⟩), .pointer (some ⟨w.heap.size, 0, none⟩), .pointer (some ⟨w.heap.size + 2, 0, none⟩)]) ∧ w'.heap.size = w.heap.size + 3 ∧ Below w.heap.size w w' ∧
      w'.cell? ⟨w.heap.size, 0, none⟩ = some (.string s) ∧ w'.frozen? ⟨w.heap.size, 0, none⟩ = false ∧ w'.cell? ⟨w.heap.size + 1, 0, none⟩ = some (.string ⟨#[59]⟩) ∧ w'.cell? ⟨w.heap.size + 2, 0, none⟩ = some (.int .i64 0) := by
  go_enter Tryd.func35, Tryd.ntmps35
  go_wp2
  go_ret
  obtain ⟨n1, n2⟩ := new_cell w (.string s) 9
  have m1 := (new_cell (w.alloc (.cells #[.string s] 9)) (.string ⟨#[59]⟩) 9).1
  have k1 := (new_cell ((w.alloc (.cells #[.string s] 9)).alloc (.cells #[.string ⟨#[59]⟩] 9)) (.int .i64 0) 3).1
  rw [World.size_alloc] at m1
  rw [World.size_alloc, World.size_alloc] at k1
  exact ⟨rfl, by simp, (((Below.refl _ w).alloc (Nat.le_refl _) _).alloc (by simp) _).alloc (by simp; omega) _, old_cell _ (old_cell _ n1), old_frozen _ (old_cell _ n1) (old_frozen _ n1 n2), old_cell _ m1, k1⟩
theorem SplitSeq_any (s : ByteArray) (w : World) :
    Calls Tryd.prog 26 #[.string s, .string ⟨#[59]⟩] w fun e w' =>
      e = .returned (.func (.func 42) #[] #[.pointer (some ⟨w.heap.size + 1, 0, none⟩), .pointer (some ⟨w.heap.size, 0, none⟩), .pointer (some ⟨w.heap.size + 2, 0, none⟩)]) ∧ w'.heap.size = w.heap.size + 3 ∧ Below w.heap.size w w' ∧
      w'.cell? ⟨w.heap.size, 0, none⟩ = some (.string s) ∧ w'.frozen? ⟨w.heap.size, 0, none⟩ = false ∧ w'.cell? ⟨w.heap.size + 1, 0, none⟩ = some (.string ⟨#[59]⟩) ∧ w'.cell? ⟨w.heap.size + 2, 0, none⟩ = some (.int .i64 0) := by
  have h := splitSeq_any s w
  go_enter Tryd.func26, Tryd.ntmps26
  go_wp2_with (go_at_call 35; ((with_reducible refine h.mono ?_); rintro e w1 ⟨rfl, hw1⟩))
  go_ret
  exact ⟨rfl, hw1⟩

theorem results_cells2 {P : Program} {fn : Func} {p q : Tmp} {t : TypeId} (h : fn.results = #[.cell p t, .cell q t]) {tmps : Array Value} {a b : Addr} {v u : Value} {w : World}
    (ha : tmps[p]?.getD undef = .pointer (some a)) (hb : tmps[q]?.getD undef = .pointer (some b)) (hva : ∀ w, (isAgg t).run P w = .ok false w) (hv : w.cell? a = some v) (hu : w.cell? b = some u) : (results fn tmps).run P w = .ok (.tuple #[v, u]) w := by
  simp only [results, h]
  simp [go_sem, ha, hb, hv, hu, hva, Result.andThen]
theorem addr_ne {a b i j : Nat} (h : a ≠ b) : (⟨a, i, none⟩ : Addr) ≠ ⟨b, j, none⟩ := fun e => h (congrArg Addr.block e)
/-! ### The words of text-decoration -/
theorem strokesOf_snoc (l : List ByteArray) (v : ByteArray) : strokesOf (l ++ [v]) = strokesOf l ||| strokeS v := by simp [strokesOf]
theorem allStrokes_snoc (l : List ByteArray) (v : ByteArray) : allStrokes (l ++ [v]) = (allStrokes l && decide (v = kUnder ∨ v = kThrough)) := by simp [allStrokes]
theorem allStrokes_prefix {l l' : List ByteArray} (h : l <+: l') (hn : allStrokes l = false) : allStrokes l' = false := by
  obtain ⟨t, rfl⟩ := h
  unfold allStrokes at *
  rw [List.all_append, hn]; rfl

set_option maxHeartbeats 4000000 in
theorem strokes_any (v : ByteArray) (w : World) (hs : v.size ≤ 1000000000) (hE : Env w) :
    Calls Tryd.prog 31 #[.string v] w fun e w' => e = .returned (.tuple #[.int .i64 (strokesS v).1.toInt, .int .i64 (strokesS v).2.toInt]) ∧ Below w.heap.size w w' := by
  by_cases h0 : v = kNone
  · unfold strokesS
    rw [if_pos h0]
    subst h0
    go_enter Tryd.func31, Tryd.ntmps31
    go_wp2
    refine bodyPost_ret (results_cells2 rfl rfl rfl (run_isAgg_plain Tryd.underlying3 rfl) (v := .int .i64 0) (u := .int .i64 12) (by simp) (by simp)) rfl ?_
    exact ⟨rfl, ((Below.refl _ w).alloc (Nat.le_refl _) _).alloc (by simp) _⟩
  · have hl := list_ne' h0
    have hwd := fun w => words_any v w
    refine (callsIn_wide (n := 9)).1 ?_
    refine callsIn_of_wp_marks Tryd.func31 rfl trivial ?_ rfl
    simp only [Tryd.ntmps31, List.size_toArray, List.length_cons, List.length_nil, Nat.reduceAdd, Nat.reduceSub, Array.replicate_succ, Array.replicate_zero, List.push_toArray, List.append_toArray, List.nil_append, List.cons_append]
    gi_wp2_with (refine ⟨trivial, ?_⟩; gi_at_call 39; refine (callsIn_wide.2 (hwd _)).mono ?_; rintro e w1 ⟨rfl, hz1, hb1, c1, c2⟩)
    rw [World.size_alloc, World.size_alloc] at hz1 hb1 c1 c2
    have hb0 : Below w.heap.size w w1 := (((Below.refl _ w).alloc (Nat.le_refl _) _).alloc (by simp) _).trans (hb1.mono (by omega))
    obtain ⟨n1, n2⟩ := new_cell w (.int .i64 0) 3
    obtain ⟨m1, m2⟩ := new_cell (w.alloc (.cells #[.int .i64 0] 3)) (.int .i64 0) 3
    rw [World.size_alloc] at m1 m2
    have o1 := old_cell (.cells #[.int .i64 0] 3) n1
    have o2 := old_frozen (.cells #[.int .i64 0] 3) n1 n2
    have p1 := (hb1.cell (p := ⟨w.heap.size, 0, none⟩) (show w.heap.size < w.heap.size + 1 + 1 by omega)).trans o1
    have p2 := (hb1.frozen (p := ⟨w.heap.size, 0, none⟩) (show w.heap.size < w.heap.size + 1 + 1 by omega)).trans o2
    have q1 := (hb1.cell (p := ⟨w.heap.size + 1, 0, none⟩) (show w.heap.size + 1 < w.heap.size + 1 + 1 by omega)).trans m1
    have q2 := (hb1.frozen (p := ⟨w.heap.size + 1, 0, none⟩) (show w.heap.size + 1 < w.heap.size + 1 + 1 by omega)).trans m2
    clear n1 n2 m1 m2 o1 o2 hb1 hwd
    have keep : ∀ {s : Unit} {W W' : World} {row : Option Nat} {x y : Value}, (Below w.heap.size w W ∧ W.cell? ⟨w.heap.size, 0, none⟩ = some x ∧ W.frozen? ⟨w.heap.size, 0, none⟩ = false ∧ W.cell? ⟨w.heap.size + 1, 0, none⟩ = some y ∧ W.frozen? ⟨w.heap.size + 1, 0, none⟩ = false) → W.grownBy W' row → (∀ r, row = some r → w.heap.size + 1 + 1 ≤ r) →
        (Below w.heap.size w W' ∧ W'.cell? ⟨w.heap.size, 0, none⟩ = some x ∧ W'.frozen? ⟨w.heap.size, 0, none⟩ = false ∧ W'.cell? ⟨w.heap.size + 1, 0, none⟩ = some y ∧ W'.frozen? ⟨w.heap.size + 1, 0, none⟩ = false) := by
      rintro _ W W' row x y ⟨hb, a1, a2, a3, a4⟩ hg hr
      have e0 : ¬ w.heap.size + 1 + 1 ≤ w.heap.size := by omega
      have e1 : ¬ w.heap.size + 1 + 1 ≤ w.heap.size + 1 := by omega
      exact ⟨hb.grown hg hb.size (fun k e => by have := hr k e; omega), grown_cell hg hr e0 a1, (grown_frozen hg hr e0 a1).trans a2, grown_cell hg hr e1 a3, (grown_frozen hg hr e1 a3).trans a4⟩
    refine range_goes (gf := 65) rfl (enters_of Tryd.func65 (by kernel_rfl) rfl)
      (fields_goes (w.heap.size + 1 + 1) v hs True (fun W => Below w.heap.size w W) (fun W h => hE.below h) w1 hz1 c1 c2) (by omega) (Below.refl _ _) (fun _ => rfl)
      (fun pre W => (Below w.heap.size w W ∧ W.cell? ⟨w.heap.size, 0, none⟩ = some (.int .i64 (strokesOf pre).toInt) ∧ W.frozen? ⟨w.heap.size, 0, none⟩ = false ∧ W.cell? ⟨w.heap.size + 1, 0, none⟩ = some (.int .i64 0) ∧ W.frozen? ⟨w.heap.size + 1, 0, none⟩ = false) ∧ allStrokes pre = true)
      (fun c pre W => (Below w.heap.size w W ∧ W.cell? ⟨w.heap.size, 0, none⟩ = some (.int .i64 0) ∧ W.frozen? ⟨w.heap.size, 0, none⟩ = false ∧ W.cell? ⟨w.heap.size + 1, 0, none⟩ = some (.int .i64 0) ∧ W.frozen? ⟨w.heap.size + 1, 0, none⟩ = false) ∧ c = .ret ∧ allStrokes pre = false)
      (fun s W W' row h hg hr => ⟨keep (s := ()) h.1 hg hr, h.2⟩) (fun c s W W' row h hg hr => ⟨keep (s := ()) h.1 hg hr, h.2⟩) (fun _ _ _ _ => trivial) (fun _ _ h => h.1.1)
      ⟨⟨hb0, p1, p2, q1, q2⟩, rfl⟩
      (fun x => { tmps := #[.string v, undef, .pointer (some ⟨w.heap.size, 0, none⟩), .pointer (some ⟨w.heap.size + 1, 0, none⟩), .string x, .string v, .bool false, .string v, .func (.func 65) #[] #[.pointer (some ⟨w.heap.size + 1 + 1, 0, none⟩), .pointer (some ⟨w.heap.size + 1 + 1 + 1, 0, none⟩)], .string x, undef, undef, undef, undef, undef, undef, undef, undef, undef, undef, undef, undef, undef, undef], defers := [] }) ?assign ?body ?done ?stop
    case assign =>
      intro l x W K hK
      gi_wp2
      exact hK
    case body =>
      rintro l pre x W hsz ⟨⟨hb, a1, a2, a3, a4⟩, hall⟩ _
      by_cases hu : x = kUnder
      · subst hu
        obtain ⟨z, hz⟩ : ∃ z, (strokesOf pre).toInt = z := ⟨_, rfl⟩
        rw [hz] at a1
        have e1 : (strokesOf (pre ++ [kUnder])).toInt = bits .or .i64 z 4 := by
          rw [strokesOf_snoc, ← hz, bits_or, ofInt_bits]; rfl
        have e2 : allStrokes (pre ++ [kUnder]) = true := by rw [allStrokes_snoc, hall]; decide
        have E1 := Lib.hid e1
        clear e1 hz hall
        gi_wp2
        refine ⟨Stays.grown (grownBy_setCell' W w.heap.size _) (fun r e h => by have e2 := Option.some.inj e; have h2 : w.heap.size + 1 + 1 ≤ r := h; omega), ⟨hb.setCell (p := ⟨w.heap.size, 0, none⟩) (Nat.le_refl _) _, ?_, by rw [World.frozen?_setCell]; exact a2, ?_, by rw [World.frozen?_setCell]; exact a4⟩, e2⟩
        · rw [E1.out]; exact World.cell?_setCell_same' _ _ _ (by rw [a1]; rfl)
        · rw [World.cell?_setCell_other _ _ _ _ (addr_ne (by omega))]; exact a3
      · have hl1 := list_ne' hu
        by_cases ht : x = kThrough
        · subst ht
          obtain ⟨z, hz⟩ : ∃ z, (strokesOf pre).toInt = z := ⟨_, rfl⟩
          rw [hz] at a1
          have e1 : (strokesOf (pre ++ [kThrough])).toInt = bits .or .i64 z 8 := by
            rw [strokesOf_snoc, ← hz, bits_or, ofInt_bits]; rfl
          have e2 : allStrokes (pre ++ [kThrough]) = true := by rw [allStrokes_snoc, hall]; decide
          have E1 := Lib.hid e1
          clear e1 hz hall
          gi_wp2
          refine ⟨Stays.grown (grownBy_setCell' W w.heap.size _) (fun r e h => by have e2 := Option.some.inj e; have h2 : w.heap.size + 1 + 1 ≤ r := h; omega), ⟨hb.setCell (p := ⟨w.heap.size, 0, none⟩) (Nat.le_refl _) _, ?_, by rw [World.frozen?_setCell]; exact a2, ?_, by rw [World.frozen?_setCell]; exact a4⟩, e2⟩
          · rw [E1.out]; exact World.cell?_setCell_same' _ _ _ (by rw [a1]; rfl)
          · rw [World.cell?_setCell_other _ _ _ _ (addr_ne (by omega))]; exact a3
        · have hl2 := list_ne' ht
          have e2 : allStrokes (pre ++ [x]) = false := by
            rw [allStrokes_snoc, decide_eq_false (fun h => h.elim hu ht), Bool.and_false]
          gi_wp2
          refine ⟨(Stays.grown (grownBy_setCell' W w.heap.size _) (fun r e h => by have e2 := Option.some.inj e; have h2 : w.heap.size + 1 + 1 ≤ r := h; omega)).trans (Stays.grown (grownBy_setCell' _ (w.heap.size + 1) _) (fun r e h => by have e2 := Option.some.inj e; have h2 : w.heap.size + 1 + 1 ≤ r := h; omega)), ⟨(hb.setCell (p := ⟨w.heap.size, 0, none⟩) (Nat.le_refl _) _).setCell (p := ⟨w.heap.size + 1, 0, none⟩) (Nat.le_succ _) _, ?_, by rw [World.frozen?_setCell, World.frozen?_setCell]; exact a2, ?_, by rw [World.frozen?_setCell, World.frozen?_setCell]; exact a4⟩, rfl, e2⟩
          · rw [World.cell?_setCell_other _ _ _ _ (addr_ne (by omega))]; exact World.cell?_setCell_same' _ _ _ (by rw [a1]; rfl)
          · refine World.cell?_setCell_same' _ _ _ ?_
            rw [World.cell?_setCell_other _ _ _ _ (addr_ne (by omega)), a3]; rfl
    case done =>
      rintro D xs W hD rfl ⟨⟨hb, a1, a2, a3, a4⟩, hall⟩ hK
      have hDw : w.heap.size ≤ D := by omega
      by_cases hz : strokesOf (wordsS v) = 0#64
      · have eS : strokesS v = (0#64, 0#64) := by unfold strokesS; rw [if_neg h0, if_pos (.inr hz)]
        rw [hz] at a1
        replace a1 : W.cell? ⟨w.heap.size, 0, none⟩ = some (.int .i64 0) := a1
        gi_wp2
        have hK' := ((KeepsOthers.setCell W ⟨w.heap.size, 0, none⟩ (.int .i64 0)).trans (KeepsOthers.setCell _ ⟨w.heap.size + 1, 0, none⟩ (.int .i64 0))).same D _ hK rfl
        have b1 : ((W.setCell ⟨w.heap.size, 0, none⟩ (.int .i64 0)).setCell ⟨w.heap.size + 1, 0, none⟩ (.int .i64 0)).cell? ⟨w.heap.size, 0, none⟩ = some (.int .i64 0) := by
          rw [World.cell?_setCell_other _ _ _ _ (addr_ne (by omega))]; exact World.cell?_setCell_same' _ _ _ (by rw [a1]; rfl)
        have b2 : ((W.setCell ⟨w.heap.size, 0, none⟩ (.int .i64 0)).setCell ⟨w.heap.size + 1, 0, none⟩ (.int .i64 0)).cell? ⟨w.heap.size + 1, 0, none⟩ = some (.int .i64 0) := by
          refine World.cell?_setCell_same' _ _ _ ?_
          rw [World.cell?_setCell_other _ _ _ _ (addr_ne (by omega)), a3]; rfl
        refine ⟨by simp, .inl ⟨_, _, rfl, run_takeDeferred hK', ?_⟩⟩
        have k1 := cell_kept b1 (grownBy_putObj' _ D (.deferred none)) (fun r e => by cases e; exact ⟨_, hK', rfl⟩)
        have k2 := cell_kept b2 (grownBy_putObj' _ D (.deferred none)) (fun r e => by cases e; exact ⟨_, hK', rfl⟩)
        exact ⟨_, results_cells2 rfl rfl rfl (run_isAgg_plain Tryd.underlying3 rfl) k1 k2, by rw [eS]; rfl, Below.grown ((hb.setCell (p := ⟨w.heap.size, 0, none⟩) (Nat.le_refl _) _).setCell (p := ⟨w.heap.size + 1, 0, none⟩) (Nat.le_succ _) _) (grownBy_putObj' _ D (.deferred none)) (by have := hb.size; simp; omega) (fun r e => by cases e; omega)⟩
      · have eS : strokesS v = (strokesOf (wordsS v), 12#64 &&& ~~~(strokesOf (wordsS v))) := by
          unfold strokesS
          rw [if_neg h0, if_neg (by rintro (h | h); · rw [hall] at h; cases h
                                    · exact hz h)]
        obtain ⟨z, hzz⟩ : ∃ z, (strokesOf (wordsS v)).toInt = z := ⟨_, rfl⟩
        have hz0 : ¬ z = 0 := fun h => hz ((toInt_zero_iff _).1 (hzz.trans h))
        have e2 : (12#64 &&& ~~~(strokesOf (wordsS v))).toInt = bits .andNot .i64 12 z := by rw [← hzz, bits_andNot, ofInt_bits]; rfl
        rw [hzz] at a1
        have E := Lib.hid (And.intro hzz e2)
        clear hzz e2 hz
        gi_wp2
        obtain ⟨y, hy⟩ : ∃ y, bits .andNot .i64 12 z = y := ⟨_, rfl⟩
        have hE2 := E.out
        rw [hy] at hE2
        try rw [hy]
        have hK' := ((KeepsOthers.setCell W ⟨w.heap.size, 0, none⟩ (.int .i64 z)).trans (KeepsOthers.setCell _ ⟨w.heap.size + 1, 0, none⟩ (.int .i64 y))).same D _ hK rfl
        have b1 : ((W.setCell ⟨w.heap.size, 0, none⟩ (.int .i64 z)).setCell ⟨w.heap.size + 1, 0, none⟩ (.int .i64 y)).cell? ⟨w.heap.size, 0, none⟩ = some (.int .i64 z) := by
          rw [World.cell?_setCell_other _ _ _ _ (addr_ne (by omega))]; exact World.cell?_setCell_same' _ _ _ (by rw [a1]; rfl)
        have b2 : ((W.setCell ⟨w.heap.size, 0, none⟩ (.int .i64 z)).setCell ⟨w.heap.size + 1, 0, none⟩ (.int .i64 y)).cell? ⟨w.heap.size + 1, 0, none⟩ = some (.int .i64 y) := by
          refine World.cell?_setCell_same' _ _ _ ?_
          rw [World.cell?_setCell_other _ _ _ _ (addr_ne (by omega)), a3]; rfl
        refine ⟨by simp, .inl ⟨_, _, rfl, run_takeDeferred hK', ?_⟩⟩
        have k1 := cell_kept b1 (grownBy_putObj' _ D (.deferred none)) (fun r e => by cases e; exact ⟨_, hK', rfl⟩)
        have k2 := cell_kept b2 (grownBy_putObj' _ D (.deferred none)) (fun r e => by cases e; exact ⟨_, hK', rfl⟩)
        exact ⟨_, results_cells2 rfl rfl rfl (run_isAgg_plain Tryd.underlying3 rfl) k1 k2, by rw [eS]; rw [hE2.1, hE2.2], Below.grown ((hb.setCell (p := ⟨w.heap.size, 0, none⟩) (Nat.le_refl _) _).setCell (p := ⟨w.heap.size + 1, 0, none⟩) (Nat.le_succ _) _) (grownBy_putObj' _ D (.deferred none)) (by have := hb.size; simp; omega) (fun r e => by cases e; omega)⟩
    case stop =>
      rintro D c pre W hD hpre ⟨⟨hb, a1, a2, a3, a4⟩, rfl, hall⟩ hK
      have hDw : w.heap.size ≤ D := by omega
      have hall2 := allStrokes_prefix hpre hall
      have eS : strokesS v = (0#64, 0#64) := by unfold strokesS; rw [if_neg h0, if_pos (.inl hall2)]
      gi_wp2
      have hK' := hK
      refine ⟨by simp, .inl ⟨_, _, rfl, run_takeDeferred hK', ?_⟩⟩
      have k1 := cell_kept a1 (grownBy_putObj' _ D (.deferred none)) (fun r e => by cases e; exact ⟨_, hK', rfl⟩)
      have k2 := cell_kept a3 (grownBy_putObj' _ D (.deferred none)) (fun r e => by cases e; exact ⟨_, hK', rfl⟩)
      exact ⟨_, results_cells2 rfl rfl rfl (run_isAgg_plain Tryd.underlying3 rfl) k1 k2, by rw [eS]; rfl, Below.grown hb (grownBy_putObj' _ D (.deferred none)) (by have := hb.size; simp; omega) (fun r e => by cases e; omega)⟩

end Go.Proofs.YthoinlapopongaaDoor
