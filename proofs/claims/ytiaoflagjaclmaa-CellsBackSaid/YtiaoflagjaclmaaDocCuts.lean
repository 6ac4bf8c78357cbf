/-
  The document's Insert, Cut, Part.
-/
import Derived.Test.YtiaoflagjaclmaaCuts
import Derived.Test.YtiaoflagjaclmaaDocFit
import Derived.Deep.RegionLaw
import Derived.Deep.AppendLies
namespace Go.Proofs.Ytiaoflagjaclmaa
open Go.RowKit Go.Lib

/-- append(s, m..) onto a row of one's own, as a step of a region that draws. -/
theorem step_append_rowG {ops : Array Oper} {o : Oper} {a : Act} {K : Act → World → Prop} {Q : Exit → Act → World → Prop} {E : Prop} {w : World} (hw : Region.wanted o (yielded ops a.tmps) = true) (s x : Operand)
    (ho : o.op = .call { callee := .builtin .append, args := #[s, x], argTypes := #[24, 24] })
    (base : Nat) (v : Value) (l : Row) (hs : a.eval s = v) (hown : w.ownsRow base 47 3 v l.length (cellsR l)) (u : Value) (m : Row) (hx : a.eval x = u) (hu : RowAt w u m)
    (hb : l.length + m.length ≤ 1000000) (hbase : base ≤ w.heap.size)
    (h : ∀ v' w', w'.ownsRow base 47 3 v' (l ++ m).length (cellsR (l ++ m)) → w.grownBy w' v.ownBlock → K (a.put o.dst v') w') :
    if Region.wanted o (yielded ops a.tmps) = true then Oper.wp Try.prog o a w K Q else E := by
  rw [if_pos hw]
  obtain ⟨i0, hi, hz0, hz1, hz2⟩ := info_parts infoCell
  rcases hu with ⟨ad, c, rfl, hac, _, rfl⟩ | ⟨b, o1, c, rfl, hlc, hcm, hbb, hcs⟩
  · cases ad with
    | none =>
      obtain rfl := hac rfl
      have hrun := run_append_owned_none (P := Try.prog) (w := w) base 24 o.type 47 i0 3 Try.underlying24 hi v _ _ hown
      have hk := h v w (by simpa using hown) (grownBy_refl _ _)
      unfold Oper.wp
      simp [execOp, ho, resolve, invoke, builtin, hs, hx, hrun, Result.andThen]
      exact hk
    | some ad =>
      refine wp_append_own w s x 24 ho base 47 i0 _ 3 32 Try.underlying24 hi hz0 hz1 hz2 rfl (by decide) v _ _ hs hown ad 0 c [] hx rfl (by simp) (by simp) (by unfold maxLen; omega) (by omega) hbase (fun v' w' h1 h2 _ => h v' w' ?_ h2)
      simpa using h1
  · refine wp_append_own w s x 24 ho base 47 i0 _ 3 32 Try.underlying24 hi hz0 hz1 hz2 rfl (by decide) v _ _ hs hown ⟨b, o1, none⟩ m.length c (cellsR m) hx (cellsR_length m) hcs.addF (cellsR_one m) (by unfold maxLen; omega) (by omega) hbase (fun v' w' h1 h2 _ => h v' w' (own_app h1 rfl rfl) h2)
theorem step_append_row {ops : Array Oper} {o : Oper} {a : Act} {K : Act → World → Prop} {Q : Exit → Act → World → Prop} {E : Prop} {w : World} (hgd : o.guard = none) (s x : Operand)
    (ho : o.op = .call { callee := .builtin .append, args := #[s, x], argTypes := #[24, 24] })
    (base : Nat) (v : Value) (l : Row) (hs : a.eval s = v) (hown : w.ownsRow base 47 3 v l.length (cellsR l)) (u : Value) (m : Row) (hx : a.eval x = u) (hu : RowAt w u m)
    (hb : l.length + m.length ≤ 1000000) (hbase : base ≤ w.heap.size)
    (h : ∀ v' w', w'.ownsRow base 47 3 v' (l ++ m).length (cellsR (l ++ m)) → w.grownBy w' v.ownBlock → K (a.put o.dst v') w') :
    if Region.wanted o (yielded ops a.tmps) = true then Oper.wp Try.prog o a w K Q else E :=
  step_append_rowG (by simp [Region.wanted, hgd]) s x ho base v l hs hown u m hx hu hb hbase h
/-- The same, behind a guard that holds. -/
theorem wpList_append_rowG {ops : Array Oper} {rest : List Oper} {o : Oper} {a : Act} {Q : Exit → Act → World → Prop} {w : World} (hw : Region.wanted o (yielded ops a.tmps) = true) (s x : Operand)
    (ho : o.op = .call { callee := .builtin .append, args := #[s, x], argTypes := #[24, 24] })
    (base : Nat) (v : Value) (l : Row) (hs : a.eval s = v) (hown : w.ownsRow base 47 3 v l.length (cellsR l)) (u : Value) (m : Row) (hx : a.eval x = u) (hu : RowAt w u m)
    (hb : l.length + m.length ≤ 1000000) (hbase : base ≤ w.heap.size)
    (h : ∀ v' w', w'.ownsRow base 47 3 v' (l ++ m).length (cellsR (l ++ m)) → w.grownBy w' v.ownBlock → wpList Try.prog ops Q rest (a.put o.dst v') w') : wpList Try.prog ops Q (o :: rest) a w :=
  wpList_step fun _ hK => step_append_rowG hw s x ho base v l hs hown u m hx hu hb hbase fun v' w' h1 h2 => hK _ _ (h v' w' h1 h2)

set_option maxHeartbeats 2000000 in
theorem rcut_off (v : Value) (l : Row) (f t : Int) (w : World) (hv : RowAt w v l) (h : fitB l.length f t = false) :
    Calls Try.prog 18 #[v, .int .i64 f, .int .i64 t] w fun e w' => e = .returned errV ∧ Below w.heap.size w w' := by
  have hc := rspan_any v l f t w hv
  rw [h] at hc
  unfold errV
  clear hv h
  go_enter Try.func18, Try.ntmps18
  go_wp2_with (go_at_call 34; ((with_reducible refine hc.mono ?_); rintro e w1 ⟨rfl, rfl⟩))
  go_ret2
  exact ⟨rfl, Below.refl _ _⟩
set_option maxHeartbeats 2000000 in
theorem rpart_off (v : Value) (l : Row) (f t : Int) (w : World) (hv : RowAt w v l) (h : fitB l.length f t = false) :
    Calls Try.prog 20 #[v, .int .i64 f, .int .i64 t] w fun e w' => e = .returned errV ∧ Below w.heap.size w w' := by
  have hc := rspan_any v l f t w hv
  rw [h] at hc
  unfold errV
  clear hv h
  go_enter Try.func20, Try.ntmps20
  go_wp2_with (go_at_call 34; ((with_reducible refine hc.mono ?_); rintro e w1 ⟨rfl, rfl⟩))
  go_ret2
  exact ⟨rfl, Below.refl _ _⟩
set_option maxHeartbeats 2000000 in
theorem rinsert_off (v u : Value) (l : Row) (k : Int) (w : World) (hv : RowAt w v l) (h : fitB l.length k k = false) :
    Calls Try.prog 16 #[v, .int .i64 k, u] w fun e w' => e = .returned errV ∧ Below w.heap.size w w' := by
  have hc := rspan_any v l k k w hv
  rw [h] at hc
  unfold errV
  clear hv h
  go_enter Try.func16, Try.ntmps16
  go_wp2_with (go_at_call 34; ((with_reducible refine hc.mono ?_); rintro e w1 ⟨rfl, rfl⟩))
  go_ret2
  exact ⟨rfl, Below.refl _ _⟩

set_option maxHeartbeats 4000000 in
theorem rpart_on (v : Value) (l : Row) (f t : Nat) (w : World) (hv : RowAt w v l) (hl : l.length ≤ 50000) (hft : f ≤ t) (ht : t ≤ l.length) :
    Calls Try.prog 20 #[v, .int .i64 (f : Int), .int .i64 (t : Int)] w (RowPost ((l.drop f).take (t - f)) w) := by
  have hc := rspan_any v l f t w hv
  have hB : fitB l.length f t = true := decide_eq_true (by omega)
  rw [hB] at hc
  obtain ⟨v1, r1, s1⟩ := slice_lh hv f t hft ht
  have hz1 : ((l.drop f).take (t - f)).length ≤ 100000 := by rw [List.length_take, List.length_drop]; omega
  obtain ⟨R, hR⟩ : ∃ R, (l.drop f).take (t - f) = R := ⟨_, rfl⟩
  rw [hR] at r1 hz1 ⊢
  have cO := rown_any v1 R w r1 hz1
  unfold OwnPost at cO
  clear hv hB r1 hl hft ht hR
  go_enter Try.func20, Try.ntmps20
  go_wp2_with (first
    | (go_at_call 34; ((with_reducible refine hc.mono ?_); rintro e w1 ⟨rfl, rfl⟩))
    | (go_at_call 14; ((with_reducible refine cO.mono ?_); rintro e w1 ⟨v', rfl, hown, hb⟩)))
  go_ret2
  exact ⟨_, rfl, hown, hb⟩

set_option maxHeartbeats 4000000 in
theorem rcut_on (v : Value) (l : Row) (f t : Nat) (w : World) (hv : RowAt w v l) (hl : l.length ≤ 50000) (hft : f ≤ t) (ht : t ≤ l.length) :
    Calls Try.prog 18 #[v, .int .i64 (f : Int), .int .i64 (t : Int)] w (RowPost (l.take f ++ l.drop t) w) := by
  have hc := rspan_any v l f t w hv
  have hB : fitB l.length f t = true := decide_eq_true (by omega)
  rw [hB] at hc
  obtain ⟨v1, r1, s1⟩ := slice_h hv f (by omega)
  obtain ⟨v2, r2, s2⟩ := slice_l hv t ht
  have hz1 : (l.take f).length ≤ 50000 := by rw [List.length_take]; omega
  have hz2 : (l.drop t).length ≤ 50000 := by rw [List.length_drop]; omega
  obtain ⟨R1, hR1⟩ : ∃ R, l.take f = R := ⟨_, rfl⟩
  obtain ⟨R2, hR2⟩ : ∃ R, l.drop t = R := ⟨_, rfl⟩
  rw [hR1] at r1 hz1 ⊢
  rw [hR2] at r2 hz2 ⊢
  have q2 := Lib.hid r2
  have cO : ∀ wx, Below w.heap.size w wx → Calls Try.prog 14 #[v1] wx (OwnPost R1 wx) := fun wx hx => rown_any v1 R1 wx (r1.below hx) (by omega)
  unfold OwnPost at cO
  clear hv hB r1 r2 hl hft ht hR1 hR2
  go_enter Try.func18, Try.ntmps18
  go_wp2_with (go_at_call 34; ((with_reducible refine hc.mono ?_); rintro e w1 ⟨rfl, rfl⟩))
  go_region_law (first
    | (refine step_append_row rfl _ _ rfl w.heap.size _ R1 rfl hown _ R2 rfl (q2.out.below hb) (by omega) hb.size ?_; intro v3 w3 own3 grow3)
    | (go_simp; go_at_call 14; refine (cO _ ((Below.refl _ _).drew)).mono ?_; rintro e w2 ⟨v', rfl, hown, hb2⟩; replace hown := hown.mono (Nat.le_refl w.heap.size); have hb : Below w.heap.size w w2 := ((Below.refl _ w).drew).trans hb2))
  go_wp2
  go_ret2
  exact ⟨_, rfl, own3, hb.grown grow3 hb.size (fun k e => (hown.lt k e).1)⟩

set_option maxHeartbeats 4000000 in
theorem rinsert_on (v u : Value) (l m : Row) (k : Nat) (w : World) (hv : RowAt w v l) (hu : RowAt w u m) (hl : l.length ≤ 50000) (hm : m.length ≤ 50000) (hk : k ≤ l.length) :
    Calls Try.prog 16 #[v, .int .i64 (k : Int), u] w (RowPost (l.take k ++ m ++ l.drop k) w) := by
  have hc := rspan_any v l k k w hv
  have hB : fitB l.length k k = true := decide_eq_true (by omega)
  rw [hB] at hc
  obtain ⟨v1, r1, s1⟩ := slice_h hv k hk
  obtain ⟨v2, r2, s2⟩ := slice_l hv k hk
  have hz1 : (l.take k).length ≤ 50000 := by rw [List.length_take]; omega
  have hz2 : (l.drop k).length ≤ 50000 := by rw [List.length_drop]; omega
  obtain ⟨R1, hR1⟩ : ∃ R, l.take k = R := ⟨_, rfl⟩
  obtain ⟨R2, hR2⟩ : ∃ R, l.drop k = R := ⟨_, rfl⟩
  rw [hR1] at r1 hz1 ⊢
  rw [hR2] at r2 hz2 ⊢
  have q2 := Lib.hid r2
  have q3 := Lib.hid hu
  have cO := rown_any v1 R1 w r1 (by omega)
  unfold OwnPost at cO
  clear hv hu hB r1 r2 hl hk hR1 hR2
  go_enter Try.func16, Try.ntmps16
  go_wp2_with (first
    | (go_at_call 34; ((with_reducible refine hc.mono ?_); rintro e w1 ⟨rfl, rfl⟩))
    | (go_at_call 14; ((with_reducible refine cO.mono ?_); rintro e w1 ⟨v', rfl, hown, hb⟩))
    | (at_builtin; refine wpList_append_row rfl _ _ rfl w.heap.size _ R1 rfl hown _ m rfl (q3.out.below hb) (by omega) hb.size ?_; intro v3 w3 own3 grow3; replace hb := hb.grown grow3 hb.size (fun k e => (hown.lt k e).1))
    | (at_builtin; refine wpList_append_row rfl _ _ rfl w.heap.size _ (R1 ++ m) rfl own3 _ R2 rfl (q2.out.below hb) (by rw [List.length_append]; omega) hb.size ?_; intro v4 w4 own4 grow4; replace hb := hb.grown grow4 hb.size (fun k e => (own3.lt k e).1)))
  go_ret2
  exact ⟨_, rfl, own4, hb⟩

end Go.Proofs.Ytiaoflagjaclmaa
