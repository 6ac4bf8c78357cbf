/-
  What goes up: rootOf, Within.
-/
import Derived.Test.YtggjoefhopoggaaDoorCIter
import Derived.Deep.AppendLies
import Derived.Laws.EntriesVeiled

namespace Go.Proofs.YtggjoefhopoggaaDoor
open Go.RowKit Go.Lib Go.Shelf
attribute [local go_sem] Oper.semAt_some

theorem below_draws (w : World) : ∀ n : Nat, Below w.heap.size w (w.drewN n)
  | 0 => Below.refl _ _
  | n + 1 => by
    have h := below_draws w n
    exact ⟨h.os, h.tape, h.output, h.size, h.block⟩
theorem cell_put {Y : World} {D : Nat} {o : Obj} {a : Addr} {v : Value} (h : Y.cell? a = some v) (hne : a.block ≠ D) : (Y.putObj D o).cell? a = some v := by
  rw [World.cell?_of_block ((grownBy_putObj' Y D o).block _ (lt_of_cell' h) (fun e => hne (Option.some.inj e)))]; exact h
theorem results_one {P : Program} {fn : Func} {p : Tmp} {t : TypeId} (h : fn.results = #[.cell p t]) {tmps : Array Value} {a : Addr} {v : Value} {w : World}
    (ha : tmps[p]?.getD undef = .pointer (some a)) (hva : ∀ w, (isAgg t).run P w = .ok false w) (hv : w.cell? a = some v) : (results fn tmps).run P w = .ok v w := by
  simp only [results, h]
  simp [go_sem, ha, hv, hva, Result.andThen]
theorem put_below {w Y : World} {D : Nat} {o : Obj} (hb : Below w.heap.size w Y) (hD : w.heap.size ≤ D) : Below w.heap.size w (Y.putObj D o) :=
  hb.grown (grownBy_putObj' Y D o) hb.size (fun r e => by cases e; exact hD)

theorem two_boxes {w w1 : World} {v1 v2 : Value} {t1 t2 : TypeId} (hb1 : Below ((w.alloc (.cells #[v1] t1)).alloc (.cells #[v2] t2)).heap.size ((w.alloc (.cells #[v1] t1)).alloc (.cells #[v2] t2)) w1) :
    Below w.heap.size w w1 ∧ w1.cell? ⟨w.heap.size, 0, none⟩ = some v1 ∧ w1.frozen? ⟨w.heap.size, 0, none⟩ = false ∧ w1.cell? ⟨w.heap.size + 1, 0, none⟩ = some v2 ∧ w1.frozen? ⟨w.heap.size + 1, 0, none⟩ = false := by
  rw [World.size_alloc, World.size_alloc] at hb1
  have ba := (((Below.refl w.heap.size w).alloc (Nat.le_refl _) (.cells #[v1] t1)).alloc (by simp) (.cells #[v2] t2))
  obtain ⟨a1, a2⟩ := new_cell w v1 t1
  obtain ⟨b1, b2⟩ := new_cell (w.alloc (.cells #[v1] t1)) v2 t2
  rw [World.size_alloc] at b1 b2
  have hbb := (Below.refl (w.alloc (.cells #[v1] t1)).heap.size (w.alloc (.cells #[v1] t1))).alloc (Nat.le_refl _) (.cells #[v2] t2)
  rw [World.size_alloc] at hbb
  have a3 := (hbb.cell (p := ⟨w.heap.size, 0, none⟩) (show w.heap.size < w.heap.size + 1 by omega)).trans a1
  have a4 := (hbb.frozen (p := ⟨w.heap.size, 0, none⟩) (show w.heap.size < w.heap.size + 1 by omega)).trans a2
  exact ⟨ba.trans (hb1.mono (by omega)), (hb1.cell (p := ⟨w.heap.size, 0, none⟩) (show w.heap.size < w.heap.size + 1 + 1 by omega)).trans a3, (hb1.frozen (p := ⟨w.heap.size, 0, none⟩) (show w.heap.size < w.heap.size + 1 + 1 by omega)).trans a4,
    (hb1.cell (p := ⟨w.heap.size + 1, 0, none⟩) (show w.heap.size + 1 < w.heap.size + 1 + 1 by omega)).trans b1, (hb1.frozen (p := ⟨w.heap.size + 1, 0, none⟩) (show w.heap.size + 1 < w.heap.size + 1 + 1 by omega)).trans b2⟩
/-- A box in block b that holds v, from a world on. -/
structure BoxAt (w : World) (b : Nat) (v : Value) (V : World) : Prop where
  bl : Below w.heap.size w V
  c : V.cell? ⟨b, 0, none⟩ = some v
  f : V.frozen? ⟨b, 0, none⟩ = false
theorem BoxAt.grown {w V V' : World} {b B : Nat} {v : Value} (h : BoxAt w b v V) {rr : Option Nat} (hg : V.grownBy V' rr) (hr : ∀ r, rr = some r → B ≤ r) (hB : w.heap.size ≤ B) (hbB : b < B) : BoxAt w b v V' :=
  ⟨h.bl.grown hg h.bl.size (fun r e => by have := hr r e; omega), grown_cell (own := (B ≤ ·)) hg hr (show ¬ B ≤ b by omega) h.c, (grown_frozen (own := (B ≤ ·)) hg hr (show ¬ B ≤ b by omega) h.c).trans h.f⟩
theorem BoxAt.set {w V : World} {b : Nat} {v : Value} (h : BoxAt w b v V) (hb : w.heap.size ≤ b) (u : Value) : BoxAt w b u (V.setCell ⟨b, 0, none⟩ u) :=
  ⟨h.bl.setCell (p := ⟨b, 0, none⟩) hb _, World.cell?_setCell_same' _ _ _ (by rw [h.c]; rfl), by rw [World.frozen?_setCell]; exact h.f⟩
theorem BoxAt.other {w V : World} {b b' : Nat} {v : Value} (h : BoxAt w b v V) (hb : w.heap.size ≤ b') (hn : b ≠ b') (u : Value) : BoxAt w b v (V.setCell ⟨b', 0, none⟩ u) :=
  ⟨h.bl.setCell (p := ⟨b', 0, none⟩) hb _, by rw [World.cell?_setCell_other _ _ _ _ (fun e => hn (congrArg Addr.block e).symm)]; exact h.c, by rw [World.frozen?_setCell]; exact h.f⟩
theorem BoxAt.later {w V V' : World} {b : Nat} {v : Value} (h : BoxAt w b v V) (hb : Below V.heap.size V V') : BoxAt w b v V' :=
  ⟨h.bl.trans (hb.mono h.bl.size), (hb.cell (p := ⟨b, 0, none⟩) (lt_of_cell' h.c)).trans h.c, (hb.frozen (p := ⟨b, 0, none⟩) (lt_of_cell' h.c)).trans h.f⟩
theorem keptSet {own : Nat → Prop} {row : Option Nat} (W : World) (b : Nat) (v : Value) (hb : ¬ own b) : KeptI own row W (W.setCell ⟨b, 0, none⟩ v) :=
  KeptI.grown (grownBy_setCell' W b v) (fun r e h => by cases e; exact (hb h).elim)

def rootS (L : Sk) (n : Nat) (id : Int) : Int := ((upsS L n id).getLast?).getD id
theorem getLast_snoc (l : List Int) (x z : Int) : ((l ++ [x]).getLast?).getD z = x := by simp

set_option maxRecDepth 20000 in
set_option maxHeartbeats 4000000 in
theorem rootOf_v {w : World} {a : Option Addr} {L : Sk} (h : Tv w (.pointer a) L) (id : Int) (n : Nat) (he : endsU L n id = true) :
    Calls Tryd.prog 29 #[.pointer a, .int .i64 id] w fun e w' => e = .returned (.int .i64 (rootS L n id)) ∧ Below w.heap.size w w' := by
  refine (callsIn_wide (n := 9)).1 ?_
  refine callsIn_of_wp_marks Tryd.func29 rfl trivial ?_ rfl
  simp only [Tryd.ntmps29, List.size_toArray, List.length_cons, List.length_nil, Nat.reduceAdd, Nat.reduceSub, Array.replicate_succ, Array.replicate_zero, List.push_toArray, List.append_toArray, List.nil_append, List.cons_append]
  have H := Lib.hid h
  have HE := Lib.hid he
  clear h he
  gi_wp2_with (refine ⟨trivial, ?_⟩; gi_at_call 36; refine (callsIn_wide.2 (up_any a id _)).mono ?_; rintro e w1 ⟨rfl, hz1, hb1, c1, d1⟩)
  rw [World.size_alloc] at hz1 hb1 c1 d1
  have ba := (Below.refl w.heap.size w).alloc (Nat.le_refl _) (.cells #[.int .i64 id] 3)
  obtain ⟨t1, t2⟩ := new_cell w (.int .i64 id) 3
  have bx : BoxAt w w.heap.size (.int .i64 id) w1 := ⟨ba.trans (hb1.mono (by omega)), (hb1.cell (p := ⟨w.heap.size, 0, none⟩) (show w.heap.size < w.heap.size + 1 by omega)).trans t1, (hb1.frozen (p := ⟨w.heap.size, 0, none⟩) (show w.heap.size < w.heap.size + 1 by omega)).trans t2⟩
  have hgo := up_goes (w.heap.size + 1) a id L n HE.out False (fun W => Below w.heap.size w W) (fun W hb => H.out.below hb) w1 hz1 c1 d1
  clear t1 t2 ba hb1 c1 d1
  refine range_goes (gf := 52) rfl (enters_of Tryd.func52 (by kernel_rfl) rfl)
    hgo (by omega) (Below.refl _ _) (fun _ => rfl)
    (fun pre row V => row = none ∧ BoxAt w w.heap.size (.int .i64 ((pre.getLast?).getD id)) V)
    (fun _ _ _ _ => False)
    (fun s row A A' rr h hg hr => ⟨h.1, h.2.grown hg (fun r e => (hr r e).1) (Nat.le_succ _) (Nat.lt_succ_self _)⟩)
    (fun _ _ _ _ _ _ h _ _ => h) (fun _ _ _ h r e => by rw [h.1] at e; cases e) (fun _ _ _ _ h => h) (fun _ _ _ h => h.2.bl)
    none (fun r e => by cases e) ⟨rfl, bx⟩
    (fun x => { tmps := #[.pointer a, .int .i64 id, undef, undef, .int .i64 0, .pointer (some ⟨w.heap.size, 0, none⟩), .int .i64 x, .int .i64 id, .pointer a, .int .i64 id, .func (.func 52) #[] #[.pointer (some ⟨w.heap.size + 1 + 1, 0, none⟩), .pointer (some ⟨w.heap.size + 1, 0, none⟩)], .int .i64 x, undef, undef], defers := [] }) ?assign ?body ?done ?stop
  case assign =>
    intro l x V K hK
    gi_wp2
    exact hK
  case body =>
    rintro l₂ pre x row V hsz ⟨rfl, hbx⟩ hT
    have c := hbx.c
    have f := hbx.f
    have HB := Lib.hid hbx
    clear hbx hT
    gi_wp2
    exact ⟨none, .inl rfl, keptSet V _ _ (show ¬ w.heap.size + 1 ≤ w.heap.size by omega), rfl, by rw [getLast_snoc]; exact HB.out.set (Nat.le_refl _) _⟩
  case done =>
    rintro D xs row V hD rfl ⟨rfl, hbx⟩ hrD hK'
    have c := hbx.c
    have HB := Lib.hid hbx
    have HK := Lib.hid hK'
    clear hbx hK'
    obtain ⟨R, hR⟩ : ∃ R, ((upsS L n id).getLast?).getD id = R := ⟨_, rfl⟩
    rw [hR] at c
    have HR := Lib.hid hR
    clear hR
    gi_wp2
    refine ⟨by simp, .inl ⟨_, _, rfl, run_takeDeferred HK.out, ?_⟩⟩
    exact ⟨_, results_tmp rfl _ _ _, by rw [← HR.out]; rfl, put_below HB.out.bl (by omega)⟩
  case stop =>
    rintro D c pre row V _ _ h _ _
    exact h.elim

/-! ### Within -/
def withinS (L : Sk) (n : Nat) (id outer : Int) : Bool := decide (outer ∈ upsS L n id)
set_option maxRecDepth 20000 in
set_option maxHeartbeats 4000000 in
theorem within_v {w : World} {a : Option Addr} {L : Sk} (h : Tv w (.pointer a) L) (id outer : Int) (n : Nat) (he : endsU L n id = true) :
    Calls Tryd.prog 19 #[.pointer a, .int .i64 id, .int .i64 outer] w fun e w' => e = .returned (.bool (withinS L n id outer)) ∧ Below w.heap.size w w' := by
  refine (callsIn_wide (n := 9)).1 ?_
  refine callsIn_of_wp_marks Tryd.func19 rfl trivial ?_ rfl
  simp only [Tryd.ntmps19, List.size_toArray, List.length_cons, List.length_nil, Nat.reduceAdd, Nat.reduceSub, Array.replicate_succ, Array.replicate_zero, List.push_toArray, List.append_toArray, List.nil_append, List.cons_append]
  have H := Lib.hid h
  have HE := Lib.hid he
  clear h he
  gi_wp2_with (refine ⟨trivial, ?_⟩; gi_at_call 36; refine (callsIn_wide.2 (up_any a id _)).mono ?_; rintro e w1 ⟨rfl, hz1, hb1, c1, d1⟩)
  obtain ⟨hb0, k1, f1, k2, f2⟩ := two_boxes hb1
  rw [World.size_alloc, World.size_alloc] at hz1 c1 d1
  have b1 : BoxAt w w.heap.size _ w1 := ⟨hb0, k1, f1⟩
  have b2 : BoxAt w (w.heap.size + 1) _ w1 := ⟨hb0, k2, f2⟩
  clear k1 k2 f1 f2 hb1
  refine range_goes (gf := 52) rfl (enters_of Tryd.func52 (by kernel_rfl) rfl)
    (up_goes (w.heap.size + 1 + 1) a id L n HE.out True (fun W => Below w.heap.size w W) (fun W hb => H.out.below hb) w1 hz1 c1 d1) (by omega) (Below.refl _ _) (fun _ => rfl)
    (fun pre row V => row = none ∧ BoxAt w w.heap.size (.int .i64 outer) V ∧ BoxAt w (w.heap.size + 1) (.bool false) V ∧ outer ∉ pre)
    (fun c pre row V => c = .ret ∧ row = none ∧ BoxAt w (w.heap.size + 1) (.bool true) V ∧ outer ∈ pre)
    (fun s row A A' rr h hg hr => ⟨h.1, h.2.1.grown hg (fun r e => (hr r e).1) (by omega) (by omega), h.2.2.1.grown hg (fun r e => (hr r e).1) (by omega) (by omega), h.2.2.2⟩)
    (fun c s row A A' rr h hg hr => ⟨h.1, h.2.1, h.2.2.1.grown hg (fun r e => (hr r e).1) (by omega) (by omega), h.2.2.2⟩) (fun _ _ _ h r e => by rw [h.1] at e; cases e) (fun _ _ _ _ _ => trivial) (fun _ _ _ h => h.2.1.bl)
    none (fun r e => by cases e) ⟨rfl, b1, b2, by simp⟩
    (fun x => { tmps := #[.pointer a, .int .i64 id, .int .i64 outer, undef, undef, .pointer (some ⟨w.heap.size, 0, none⟩), .pointer (some ⟨w.heap.size + 1, 0, none⟩), .int .i64 x, .pointer a, .int .i64 id, .func (.func 52) #[] #[.pointer (some ⟨w.heap.size + 1 + 1 + 1, 0, none⟩), .pointer (some ⟨w.heap.size + 1 + 1, 0, none⟩)], .int .i64 x, undef, undef, undef], defers := [] }) ?assign ?body ?done ?stop
  case assign =>
    intro l x V K hK
    gi_wp2
    exact hK
  case body =>
    rintro l₂ pre x row V hsz ⟨rfl, hb1, hb2, hno⟩ hT
    have c1 := hb1.c
    have c2 := hb2.c
    have f2 := hb2.f
    have HB1 := Lib.hid hb1
    have HB2 := Lib.hid hb2
    have HN := Lib.hid hno
    clear hb1 hb2 hT hno
    by_cases hx : x = outer
    · subst hx
      gi_wp2
      exact ⟨none, .inl rfl, keptSet V _ _ (show ¬ w.heap.size + 1 + 1 ≤ w.heap.size + 1 by omega), rfl, rfl, HB2.out.set (by omega) _, by simp⟩
    · have hxb : (x == outer) = false := by simpa using hx
      have HX := Lib.hid hx
      clear hx
      gi_wp2
      exact ⟨none, .inl rfl, KeptI.refl _ _ _, rfl, HB1.out, HB2.out, by
        rw [List.mem_append, List.mem_singleton]
        rintro (h | h)
        · exact HN.out h
        · exact HX.out h.symm⟩
  case done =>
    rintro D xs row V hD rfl ⟨rfl, hb1, hb2, hno⟩ hrD hK'
    have c2 := hb2.c
    have f2 := hb2.f
    have HB2 := Lib.hid (hb2.set (by omega) (.bool false))
    have HK := Lib.hid ((KeepsOthers.setCell V ⟨w.heap.size + 1, 0, none⟩ (.bool false)).same D _ hK' rfl)
    have HN : Hid (withinS L n id outer = false) := Lib.hid (by unfold withinS; exact decide_eq_false hno)
    clear hb1 hb2 hK' hno
    gi_wp2
    refine ⟨by simp, .inl ⟨_, _, rfl, run_takeDeferred HK.out, ?_⟩⟩
    exact ⟨_, results_one rfl rfl (run_isAgg_plain Tryd.underlying4 rfl) (cell_put HB2.out.c (show w.heap.size + 1 ≠ D by omega)), by rw [HN.out], put_below HB2.out.bl (by omega)⟩
  case stop =>
    rintro D c pre row V hD hSp ⟨rfl, rfl, hb2, hin⟩ hrD hK'
    have HB2 := Lib.hid hb2
    have HK := Lib.hid hK'
    have HN : Hid (withinS L n id outer = true) := Lib.hid (by unfold withinS; exact decide_eq_true (hSp.subset hin))
    clear hb2 hK' hin hSp
    gi_wp2
    refine ⟨by simp, .inl ⟨_, _, rfl, run_takeDeferred HK.out, ?_⟩⟩
    exact ⟨_, results_one rfl rfl (run_isAgg_plain Tryd.underlying4 rfl) (cell_put HB2.out.c (show w.heap.size + 1 ≠ D by omega)), by rw [HN.out], put_below HB2.out.bl (by omega)⟩

/-! ### Behind -/
/-- The kid behind a node. -/
def nxtS (L : Sk) (m : Int) : Option Int := if indexS L m + 1 < ((kidsS L (upS L m)).length : Int) then some ((kidsS L (upS L m))[(indexS L m + 1).toNat]!) else none
theorem kids_at {w : World} {ka : Option Addr} {ks : List Int} (h : KidsAt w ka ks) {j : Nat} (hj : j < ks.length) : ∃ b o, ka = some ⟨b, o, none⟩ ∧ w.cell? ⟨b, o + j, none⟩ = some (.int .i64 (ks[j]!)) := by
  rcases h with h0 | ⟨b, o, e, hc⟩
  · rw [h0] at hj; simp at hj
  · exact ⟨b, o, e, hc j hj⟩
def behindS (L : Sk) (n : Nat) (id : Int) : Int := ((upsS L n id).findSome? (nxtS L)).getD (-1)
theorem ixZ_ge (z : Int) : ∀ (l : List Int) (i : Nat), -1 ≤ ixZ l z i ∧ ixZ l z i < (i : Int) + l.length
  | [], i => by unfold ixZ; simp; omega
  | x :: l, i => by
    unfold ixZ
    dsimp only
    split
    · simp; omega
    · have := ixZ_ge z l (i + 1)
      rw [List.length_cons]; omega
theorem indexS_ge (L : Sk) (m : Int) : -1 ≤ indexS L m := by
  unfold indexS
  split
  · omega
  · exact (ixZ_ge _ _ _).1
theorem find_none {f : Int → Option Int} : ∀ {l : List Int}, (∀ m ∈ l, f m = none) → l.findSome? f = none := fun h => List.findSome?_eq_none_iff.2 h
set_option maxRecDepth 20000 in
set_option maxHeartbeats 4000000 in
theorem behind_v {w : World} {a : Option Addr} {L : Sk} (h : Tv w (.pointer a) L) (id : Int) (n : Nat) (he : endsU L n id = true) :
    Calls Tryd.prog 14 #[.pointer a, .int .i64 id] w fun e w' => e = .returned (.int .i64 (behindS L n id)) ∧ Below w.heap.size w w' := by
  refine (callsIn_wide (n := 9)).1 ?_
  refine callsIn_of_wp_marks Tryd.func14 rfl trivial ?_ rfl
  simp only [Tryd.ntmps14, List.size_toArray, List.length_cons, List.length_nil, Nat.reduceAdd, Nat.reduceSub, Array.replicate_succ, Array.replicate_zero, List.push_toArray, List.append_toArray, List.nil_append, List.cons_append]
  have H := Lib.hid h
  have HE := Lib.hid he
  clear h he
  gi_wp2_with (refine ⟨trivial, ?_⟩; gi_at_call 36; refine (callsIn_wide.2 (up_any a id _)).mono ?_; rintro e w1 ⟨rfl, hz1, hb1, c1, d1⟩)
  obtain ⟨hb0, k1, f1, k2, f2⟩ := two_boxes hb1
  rw [World.size_alloc, World.size_alloc] at hz1 c1 d1
  have b1 : BoxAt w w.heap.size _ w1 := ⟨hb0, k1, f1⟩
  have b2 : BoxAt w (w.heap.size + 1) _ w1 := ⟨hb0, k2, f2⟩
  clear k1 k2 f1 f2 hb1
  refine range_goes (gf := 52) rfl (enters_of Tryd.func52 (by kernel_rfl) rfl)
    (up_goes (w.heap.size + 1 + 1) a id L n HE.out True (fun W => Below w.heap.size w W) (fun W hb => H.out.below hb) w1 hz1 c1 d1) (by omega) (Below.refl _ _) (fun _ => rfl)
    (fun pre row V => row = none ∧ BoxAt w w.heap.size (.pointer a) V ∧ BoxAt w (w.heap.size + 1) (.int .i64 0) V ∧ ∀ m ∈ pre, nxtS L m = none)
    (fun c pre row V => c = .ret ∧ row = none ∧ ∃ k, BoxAt w (w.heap.size + 1) (.int .i64 k) V ∧ pre.findSome? (nxtS L) = some k)
    (fun s row A A' rr h hg hr => ⟨h.1, h.2.1.grown hg (fun r e => (hr r e).1) (by omega) (by omega), h.2.2.1.grown hg (fun r e => (hr r e).1) (by omega) (by omega), h.2.2.2⟩)
    (fun c s row A A' rr h hg hr => ⟨h.1, h.2.1, by obtain ⟨k, h1, h2⟩ := h.2.2; exact ⟨k, h1.grown hg (fun r e => (hr r e).1) (by omega) (by omega), h2⟩⟩) (fun _ _ _ h r e => by rw [h.1] at e; cases e) (fun _ _ _ _ _ => trivial) (fun _ _ _ h => h.2.1.bl)
    none (fun r e => by cases e) ⟨rfl, b1, b2, by simp⟩
    (fun x => { tmps := #[.pointer a, .int .i64 id, .pointer (some ⟨w.heap.size, 0, none⟩), undef, .pointer (some ⟨w.heap.size + 1, 0, none⟩), .int .i64 x, undef, undef, .pointer a, .int .i64 id, .func (.func 52) #[] #[.pointer (some ⟨w.heap.size + 1 + 1 + 1, 0, none⟩), .pointer (some ⟨w.heap.size + 1 + 1, 0, none⟩)], .int .i64 x, undef, undef, undef, undef, undef, undef, undef, undef, undef, undef, undef, undef, undef, undef, undef, undef, undef], defers := [] }) ?assign ?body ?done ?stop
  case assign =>
    intro l x V K hK
    gi_wp2
    exact hK
  case body =>
    rintro l₂ pre x row V hsz ⟨rfl, hb1, hb2, hno⟩ hT
    have hVT := H.out.below hb1.bl
    have cP := fun W (hb : Below V.heap.size V W) => parent_v (hVT.below hb) x
    have cK := fun W (hb : Below V.heap.size V W) => kids_v (hVT.below hb) (upS L x)
    have cI := fun W (hb : Below V.heap.size V W) => index_v (hVT.below hb) x
    have hi0 := indexS_ge L x
    have hkl := hVT.len.2 (upS L x)
    have hnx : nxtS L x = if indexS L x + 1 < ((kidsS L (upS L x)).length : Int) then some ((kidsS L (upS L x))[(indexS L x + 1).toNat]!) else none := rfl
    have hil : indexS L x < 2000 := by
      unfold indexS
      split
      · omega
      · rename_i y hy
        have h1 := (ixZ_ge x y.kids 0).2
        have h2 : kidsS L (upS L x) = y.kids := by unfold kidsS; rw [hy]; rfl
        rw [h2] at hkl
        omega
    obtain ⟨u, hu⟩ : ∃ u, upS L x = u := ⟨_, rfl⟩
    rw [hu] at cP cK hnx hkl
    obtain ⟨ks, hks⟩ : ∃ ks, kidsS L u = ks := ⟨_, rfl⟩
    rw [hks] at cK hnx hkl
    obtain ⟨i, hi⟩ : ∃ i, indexS L x = i := ⟨_, rfl⟩
    rw [hi] at cI hnx hi0 hil
    obtain ⟨j, hj⟩ : ∃ j : Nat, i + 1 = (j : Int) := ⟨(i + 1).toNat, by omega⟩
    obtain rfl : i = (j : Int) - 1 := by omega
    have hw1 : IntKind.i64.wrap ((j : Int) - 1 + 1) = (j : Int) := by rw [hj]; exact IntWalk.i64_in _ (by omega)
    have hnx2 : nxtS L x = if j < ks.length then some (ks[j]!) else none := by
      rw [hnx, hj, Int.toNat_natCast]
      by_cases h : j < ks.length
      · rw [if_pos h, if_pos (by omega)]
      · rw [if_neg h, if_neg (by omega)]
    have c1 := hb1.c
    have HB1 := Lib.hid hb1
    have HB2 := Lib.hid hb2
    have HN := Lib.hid hno
    have HNX := Lib.hid hnx2
    obtain ⟨m, hm⟩ : ∃ m, ks.length = m := ⟨_, rfl⟩
    have HM := Lib.hid hm
    have hkm : m ≤ 2000 := by omega
    have hmx : Tryd.prog.follows .mixedOrders = true := by kernel_rfl
    have CP := Lib.hid cP
    have CK := Lib.hid cK
    have CI := Lib.hid cI
    clear hb1 hb2 hT hno hnx hnx2 hu hks hi hVT cP cK cI hj hm hkl
    have hb : Hid (Below V.heap.size V V.drew) := Lib.hid ((below_draws V 1))
    have c1' : V.drew.cell? ⟨w.heap.size, 0, none⟩ = some (.pointer a) := c1
    by_cases hlt : j < m
    · have hjl : j < ks.length := by rw [HM.out]; exact hlt
      have HX : Hid (nxtS L x = some (ks[j]!)) := Lib.hid (by rw [HNX.out, if_pos hjl])
      have hjI : (j : Int) < (m : Int) := by omega
      have HJL := Lib.hid hjl
      obtain ⟨z, hz⟩ : ∃ z, ks[j]! = z := ⟨_, rfl⟩
      have HZ := Lib.hid hz
      clear hjl hz
      gi_wp2
      gi_region_with_o (first
        | (refine ⟨trivial, ?_⟩; gi_at_call 23; ((with_reducible refine (CallsIn.inRound l₂ (callsIn_wide.2 (CP.out _ hb.out))).mono ?_); rintro e w3 ⟨rfl, rfl⟩))
        | (refine ⟨trivial, ?_⟩; gi_at_call 32; ((with_reducible refine (CallsIn.inRound l₂ (callsIn_wide.2 (CK.out _ hb.out))).mono ?_); rintro e w4 hO; obtain ⟨ka, kc, rfl, hka, _, hb4⟩ := hO.open; replace hb := Lib.hid (hb.out.trans (hb4.mono hb.out.size)); clear hO hb4; rw [HM.out]; have c3 := (HB1.out.later hb.out).c; obtain ⟨b, o, rfl, hkc⟩ := kids_at hka HJL.out; rw [HZ.out] at hkc; have c4 := (HB2.out.later hb.out).c; have f4 := (HB2.out.later hb.out).f; clear hka)))
      all_goals gi_wp2_with (refine ⟨trivial, ?_⟩; gi_at_call 34; ((with_reducible refine (CallsIn.inRound l₂ (callsIn_wide.2 (CI.out _ hb.out))).mono ?_); rintro e w5 ⟨rfl, rfl⟩))
      all_goals exact ⟨none, .inl rfl, (KeptI.below hb.out).trans (.inl rfl) (keptSet _ _ _ (show ¬ w.heap.size + 1 + 1 ≤ w.heap.size + 1 by omega)), rfl, rfl, z, (HB2.out.later hb.out).set (by omega) _, by rw [List.findSome?_append, find_none HN.out, List.findSome?_cons, HX.out, HZ.out]; rfl⟩
    · have hge : ¬ (j : Int) < (m : Int) := by omega
      have HX : Hid (nxtS L x = none) := Lib.hid (by rw [HNX.out, if_neg (by rw [HM.out]; exact hlt)])
      clear hlt
      gi_wp2
      gi_region_with_o (first
        | (refine ⟨trivial, ?_⟩; gi_at_call 23; ((with_reducible refine (CallsIn.inRound l₂ (callsIn_wide.2 (CP.out _ hb.out))).mono ?_); rintro e w3 ⟨rfl, rfl⟩))
        | (refine ⟨trivial, ?_⟩; gi_at_call 32; ((with_reducible refine (CallsIn.inRound l₂ (callsIn_wide.2 (CK.out _ hb.out))).mono ?_); rintro e w4 hO; obtain ⟨ka, kc, rfl, hka, _, hb4⟩ := hO.open; replace hb := Lib.hid (hb.out.trans (hb4.mono hb.out.size)); clear hO hb4; rw [HM.out]; have c3 := (HB1.out.later hb.out).c; clear hka)))
      all_goals gi_wp2_with (refine ⟨trivial, ?_⟩; gi_at_call 34; ((with_reducible refine (CallsIn.inRound l₂ (callsIn_wide.2 (CI.out _ hb.out))).mono ?_); rintro e w5 ⟨rfl, rfl⟩))
      all_goals exact ⟨none, .inl rfl, KeptI.below hb.out, rfl, HB1.out.later hb.out, HB2.out.later hb.out, fun y hy => by
        rcases List.mem_append.1 hy with hy | hy
        · exact HN.out y hy
        · rw [List.mem_singleton.1 hy]; exact HX.out⟩
  case done =>
    rintro D xs row V hD rfl ⟨rfl, hb1, hb2, hno⟩ hrD hK'
    have c2 := hb2.c
    have f2 := hb2.f
    have HB2 := Lib.hid (hb2.set (by omega) (.int .i64 (-1)))
    have HK := Lib.hid ((KeepsOthers.setCell V ⟨w.heap.size + 1, 0, none⟩ (.int .i64 (-1))).same D _ hK' rfl)
    have HN : Hid (behindS L n id = -1) := Lib.hid (by unfold behindS; rw [find_none hno]; rfl)
    clear hb1 hb2 hK' hno
    gi_wp2
    refine ⟨by simp, .inl ⟨_, _, rfl, run_takeDeferred HK.out, ?_⟩⟩
    exact ⟨_, results_one rfl rfl (run_isAgg_plain Tryd.underlying3 rfl) (cell_put HB2.out.c (show w.heap.size + 1 ≠ D by omega)), by rw [HN.out], put_below HB2.out.bl (by omega)⟩
  case stop =>
    rintro D c pre row V hD hSp ⟨rfl, rfl, k, hb2, hk⟩ hrD hK'
    have HB2 := Lib.hid hb2
    have HK := Lib.hid hK'
    have HN : Hid (behindS L n id = k) := Lib.hid (by
      obtain ⟨r, hr⟩ := hSp
      unfold behindS
      rw [← hr, List.findSome?_append, hk]
      rfl)
    clear hb2 hK' hk hSp
    gi_wp2
    refine ⟨by simp, .inl ⟨_, _, rfl, run_takeDeferred HK.out, ?_⟩⟩
    exact ⟨_, results_one rfl rfl (run_isAgg_plain Tryd.underlying3 rfl) (cell_put HB2.out.c (show w.heap.size + 1 ≠ D by omega)), by rw [HN.out], put_below HB2.out.bl (by omega)⟩

end Go.Proofs.YtggjoefhopoggaaDoor
