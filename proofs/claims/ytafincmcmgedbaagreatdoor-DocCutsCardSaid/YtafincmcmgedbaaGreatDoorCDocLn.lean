/-
  The document's Own, Frame of lines.
-/
import Derived.Test.YtafincmcmgedbaaGreatDoorCLMay
import Derived.Test.YtafincmcmgedbaaGreatDoorCConcat
import Derived.Deep.RegionHeld3

namespace Go.Proofs.YtafincmcmgedbaaGreatDoor
open Go.RowKit Go.Lib

/-- append(s, m..) onto ints of one's own, as a step of a region that draws. -/
theorem step_append_intsG {ops : Array Oper} {o : Oper} {a : Act} {K : Act → World → Prop} {Q : Exit → Act → World → Prop} {E : Prop} {w : World} (hw : Region.wanted o (yielded ops a.tmps) = true) (s x : Operand)
    (ho : o.op = .call { callee := .builtin .append, args := #[s, x], argTypes := #[44, 44] })
    (base : Nat) (v : Value) (l : IRow) (hs : a.eval s = v) (hown : w.ownsRow base 3 1 v l.length (cellsZ l)) (u : Value) (m : IRow) (hx : a.eval x = u) (hu : IntsAt w u m)
    (hb : l.length + m.length ≤ 1000000) (hbase : base ≤ w.heap.size)
    (h : ∀ v' w', w'.ownsRow base 3 1 v' (l ++ m).length (cellsZ (l ++ m)) → w.grownBy w' v.ownBlock → K (a.put o.dst v') w') :
    if Region.wanted o (yielded ops a.tmps) = true then Oper.wp Tryz.prog o a w K Q else E := by
  rw [if_pos hw]
  obtain ⟨i0, hi, hz0, hz1, hz2⟩ := info_parts infoInt
  rcases hu with ⟨ad, c, rfl, hac, _, rfl⟩ | ⟨b, o1, c, rfl, hlc, hcm, hbb, hcs⟩
  · cases ad with
    | none =>
      obtain rfl := hac rfl
      have hrun := run_append_owned_none (P := Tryz.prog) (w := w) base 44 o.type 3 i0 1 Tryz.underlying44 hi v _ _ hown
      have hk := h v w (by simpa using hown) (grownBy_refl _ _)
      unfold Oper.wp
      simp [execOp, ho, resolve, invoke, builtin, hs, hx, hrun, Result.andThen]
      exact hk
    | some ad =>
      refine wp_append_own w s x 44 ho base 3 i0 _ 1 8 Tryz.underlying44 hi hz0 hz1 hz2 rfl (by decide) v _ _ hs hown ad 0 c [] hx rfl (by simp) (by simp) (by unfold maxLen; omega) (by omega) hbase (fun v' w' h1 h2 _ => h v' w' ?_ h2)
      simpa using h1
  · refine wp_append_own w s x 44 ho base 3 i0 _ 1 8 Tryz.underlying44 hi hz0 hz1 hz2 rfl (by decide) v _ _ hs hown ⟨b, o1, none⟩ m.length c (cellsZ m) hx (by rw [cellsZ_length, Nat.mul_one]) hcs.addF (cellsZ_one m) (by unfold maxLen; omega) (by omega) hbase (fun v' w' h1 h2 _ => h v' w' (own_appZ h1 rfl rfl) h2)

set_option maxRecDepth 20000 in
set_option maxHeartbeats 16000000 in
theorem rlframe_any (q k : Int) (sl sc : Value) (ls : IRow) (cs : Row) (w : World) (h : LnAt w sl sc ls cs) (hls : ls.length ≤ 50000) :
    Calls Tryz.prog 57 #[.agg #[.int .i64 q, sl, .int .i64 k, sc]] w fun e w' => ∃ sl' sc', e = .returned (.agg #[.int .i64 q, sl', .int .i64 k, sc']) ∧ OwnLn w.heap.size w' sl' sc' ls [] ∧ Below w.heap.size w w' := by
  obtain ⟨a1, c1, rfl⟩ := h.z.len
  obtain ⟨a2, c2, rfl⟩ := h.r.len
  have hZ := Lib.hid h.z
  have HX := Lib.hid (box_two w q k 0 0 (.slice a1 ls.length c1) (.slice a2 cs.length c2) (.slice none 0 0) (.slice none 0 0))
  obtain ⟨n1, hn1⟩ : ∃ n, ls.length = n := ⟨_, rfl⟩
  obtain ⟨n2, hn2⟩ : ∃ n, cs.length = n := ⟨_, rfl⟩
  have N1 := Lib.hid hn1
  have N2 := Lib.hid hn2
  rw [hn1] at HX hls hZ ⊢
  rw [hn2] at HX ⊢
  clear h hn1 hn2
  go_enter Tryz.func57, Tryz.ntmps57
  go_wp2
  obtain ⟨W, hW⟩ : ∃ W, ((w.alloc (.cells #[.int .i64 q, .slice a1 n1 c1, .int .i64 k, .slice a2 n2 c2] 46)).alloc (.cells #[.int .i64 0, .slice none 0 0, .int .i64 0, .slice none 0 0] 46)) = W := ⟨_, rfl⟩
  rw [hW] at HX ⊢
  obtain ⟨bW, B0, B1⟩ := HX.out
  have HB0 := Lib.hid B0
  have HB1 := Lib.hid B1
  have l1 := B1.lt
  have bWs := bW.size
  have HbW := Lib.hid bW
  obtain ⟨l0, x0, x1, x2, x3, _, _, _, _⟩ := B0
  have hS : W.cell? ⟨w.heap.size, 0, none⟩ = some (.int .i64 q) ∧ W.cell? ⟨w.heap.size, 1, none⟩ = some (.slice a1 n1 c1) ∧ W.cell? ⟨w.heap.size, 2, none⟩ = some (.int .i64 k) ∧ W.cell? ⟨w.heap.size, 3, none⟩ = some (.slice a2 n2 c2) := ⟨x0, x1, x2, x3⟩
  clear B1 hW HX bW
  go_region_held3 (fun w' => w'.cell? ⟨w.heap.size, 0, none⟩ = some (.int .i64 q) ∧ w'.cell? ⟨w.heap.size, 1, none⟩ = some (.slice a1 n1 c1) ∧ w'.cell? ⟨w.heap.size, 2, none⟩ = some (.int .i64 k) ∧ w'.cell? ⟨w.heap.size, 3, none⟩ = some (.slice a2 n2 c2)) (first | exact hS | (refine ⟨?_, ?_, ?_, ?_⟩ <;> simp [go_sem, World.cell?_alloc_past, *])) (first
    | (refine step_append_intsG (by simp [Region.wanted]) _ _ rfl W.heap.size _ [] rfl ?own _ ls rfl ?at_ ?hb ?hbase ?_; (case own => first | exact World.ownsRow_made W #[] 0 (Nat.le_refl _) (Nat.zero_le _) (by simp) | exact World.ownsRow_made W.drew #[] 0 (Nat.le_refl _) (Nat.zero_le _) (by simp) | exact (World.ownsRow_made W #[] 0 (Nat.le_refl _) (Nat.zero_le _) (by simp)).drew); (case at_ => exact hZ.out.below (HbW.out.trans (Below.mono (show Below W.heap.size W _ by (repeat (first | (with_reducible exact Below.refl _ _) | assumption | (with_reducible refine Below.drew ?_) | (with_reducible refine Below.alloc ?_ ?_ _) | omega | (simp <;> omega)))) bWs))); (case hb => (have := N1.out; simp; omega)); (case hbase => first | omega | (simp <;> omega)); intro v3 w3 own3 grow3; have hb : Below W.heap.size W w3 := (show Below W.heap.size W _ by (repeat (first | (with_reducible exact Below.refl _ _) | assumption | (with_reducible refine Below.drew ?_) | (with_reducible refine Below.alloc ?_ ?_ _) | omega | (simp <;> omega)))).grown grow3 (by first | omega | (simp <;> omega)) (fun k e => by cases e; first | exact Nat.le_refl _ | omega | (simp <;> omega)); have Hb := Lib.hid hb; have P1 := Lib.hid (show w3.ownsRow W.heap.size 3 1 v3 ls.length (cellsZ ls) from own3); obtain ⟨a3, c3, e3⟩ := own_len P1.out; rw [N1.out] at e3; subst e3; have hs3 := hb.size; replace hS := And.intro (HB0.out.below hb).c0 (And.intro (HB0.out.below hb).c1 (And.intro (HB0.out.below hb).c2 (HB0.out.below hb).c3)); obtain ⟨m0, r0, r1, r2, r3, s0, s1, s2, s3⟩ := HB1.out.below hb; clear own3 grow3))
  all_goals go_wp2
  all_goals exact bodyPost_ret (v := .agg #[.int .i64 q, .slice a3 n1 c3, .int .i64 k, .slice none 0 0]) (by simp [results, Tryz.results57, go_sem, *]) rfl ⟨_, _, rfl, (put4_own (D := W.heap.size) ⟨by have h := P1.out; rw [N1.out] at h ⊢; exact h, World.ownsRow_nil _ _ _ _⟩ l1).mono bWs, put4_below (HbW.out.trans (Hb.out.mono bWs)) (by omega)⟩

set_option maxRecDepth 20000 in
set_option maxHeartbeats 16000000 in
theorem rlown_any (q k : Int) (sl sc : Value) (ls : IRow) (cs : Row) (w : World) (h : LnAt w sl sc ls cs) (hls : ls.length ≤ 50000) (hcs : cs.length ≤ 50000) :
    Calls Tryz.prog 55 #[.agg #[.int .i64 q, sl, .int .i64 k, sc]] w fun e w' => ∃ sl' sc', e = .returned (.agg #[.int .i64 q, sl', .int .i64 k, sc']) ∧ OwnLn w.heap.size w' sl' sc' ls cs ∧ Below w.heap.size w w' := by
  obtain ⟨a1, c1, rfl⟩ := h.z.len
  obtain ⟨a2, c2, rfl⟩ := h.r.len
  have hZ := Lib.hid h.z
  have hR := Lib.hid h.r
  have HX := Lib.hid (box_two w q k 0 0 (.slice a1 ls.length c1) (.slice a2 cs.length c2) (.slice none 0 0) (.slice none 0 0))
  obtain ⟨n1, hn1⟩ : ∃ n, ls.length = n := ⟨_, rfl⟩
  obtain ⟨n2, hn2⟩ : ∃ n, cs.length = n := ⟨_, rfl⟩
  have N1 := Lib.hid hn1
  have N2 := Lib.hid hn2
  rw [hn1] at HX hls hZ ⊢
  rw [hn2] at HX hcs hR ⊢
  clear h hn1 hn2
  go_enter Tryz.func55, Tryz.ntmps55
  go_wp2
  obtain ⟨W, hW⟩ : ∃ W, ((w.alloc (.cells #[.int .i64 q, .slice a1 n1 c1, .int .i64 k, .slice a2 n2 c2] 46)).alloc (.cells #[.int .i64 0, .slice none 0 0, .int .i64 0, .slice none 0 0] 46)) = W := ⟨_, rfl⟩
  rw [hW] at HX ⊢
  obtain ⟨bW, B0, B1⟩ := HX.out
  have HB0 := Lib.hid B0
  have HB1 := Lib.hid B1
  have l1 := B1.lt
  have bWs := bW.size
  have HbW := Lib.hid bW
  obtain ⟨l0, x0, x1, x2, x3, _, _, _, _⟩ := B0
  have hS : W.cell? ⟨w.heap.size, 0, none⟩ = some (.int .i64 q) ∧ W.cell? ⟨w.heap.size, 1, none⟩ = some (.slice a1 n1 c1) ∧ W.cell? ⟨w.heap.size, 2, none⟩ = some (.int .i64 k) ∧ W.cell? ⟨w.heap.size, 3, none⟩ = some (.slice a2 n2 c2) := ⟨x0, x1, x2, x3⟩
  clear B1 hW HX bW
  have cO : ∀ w1, Below W.heap.size W w1 → Calls Tryz.prog 35 #[.slice a2 n2 c2] w1 (OwnPost cs w1) := fun w1 h1 => rown_any _ cs w1 (hR.out.below (HbW.out.trans (h1.mono bWs))) (by rw [N2.out]; omega)
  go_region_held3 (fun w' => w'.cell? ⟨w.heap.size, 0, none⟩ = some (.int .i64 q) ∧ w'.cell? ⟨w.heap.size, 1, none⟩ = some (.slice a1 n1 c1) ∧ w'.cell? ⟨w.heap.size, 2, none⟩ = some (.int .i64 k) ∧ w'.cell? ⟨w.heap.size, 3, none⟩ = some (.slice a2 n2 c2)) (first | exact hS | (refine ⟨?_, ?_, ?_, ?_⟩ <;> simp [go_sem, World.cell?_alloc_past, *])) (first
    | (refine step_append_intsG (by simp [Region.wanted]) _ _ rfl W.heap.size _ [] rfl ?own _ ls rfl ?at_ ?hb ?hbase ?_; (case own => first | exact World.ownsRow_made W #[] 0 (Nat.le_refl _) (Nat.zero_le _) (by simp) | exact World.ownsRow_made W.drew #[] 0 (Nat.le_refl _) (Nat.zero_le _) (by simp) | exact (World.ownsRow_made W #[] 0 (Nat.le_refl _) (Nat.zero_le _) (by simp)).drew); (case at_ => exact hZ.out.below (HbW.out.trans (Below.mono (show Below W.heap.size W _ by (repeat (first | (with_reducible exact Below.refl _ _) | assumption | (with_reducible refine Below.drew ?_) | (with_reducible refine Below.alloc ?_ ?_ _) | omega | (simp <;> omega)))) bWs))); (case hb => (have := N1.out; simp; omega)); (case hbase => first | omega | (simp <;> omega)); intro v3 w3 own3 grow3; have hb : Below W.heap.size W w3 := (show Below W.heap.size W _ by (repeat (first | (with_reducible exact Below.refl _ _) | assumption | (with_reducible refine Below.drew ?_) | (with_reducible refine Below.alloc ?_ ?_ _) | omega | (simp <;> omega)))).grown grow3 (by first | omega | (simp <;> omega)) (fun k e => by cases e; first | exact Nat.le_refl _ | omega | (simp <;> omega)); have Hb := Lib.hid hb; have P1 := Lib.hid (show w3.ownsRow W.heap.size 3 1 v3 ls.length (cellsZ ls) from own3); obtain ⟨a3, c3, e3⟩ := own_len P1.out; rw [N1.out] at e3; subst e3; have hs3 := hb.size; replace hS := And.intro (HB0.out.below hb).c0 (And.intro (HB0.out.below hb).c1 (And.intro (HB0.out.below hb).c2 (HB0.out.below hb).c3)); obtain ⟨m0, r0, r1, r2, r3, s0, s1, s2, s3⟩ := HB1.out.below hb; clear own3 grow3)
    | (go_at_call 35; ((with_reducible refine (cO _ Hb.out).mono ?_); rintro e w4 ⟨v4, rfl, own4, hb4⟩; have hb5 : Below W.heap.size W w4 := Hb.out.trans (hb4.mono hs3); have Hb5 := Lib.hid hb5; have P2 := Lib.hid own4; have P3 := Lib.hid (ownsRow_below P1.out hb4); obtain ⟨a4, c4, e4⟩ := own_len own4; rw [N2.out] at e4; subst e4; replace hS := And.intro (HB0.out.below hb5).c0 (And.intro (HB0.out.below hb5).c1 (And.intro (HB0.out.below hb5).c2 (HB0.out.below hb5).c3)); obtain ⟨m5, t0, t1, t2, t3, t4, t5, t6, t7⟩ := HB1.out.below hb5; clear own4 hb4)))
  all_goals go_wp2
  all_goals exact bodyPost_ret (v := .agg #[.int .i64 q, .slice a3 n1 c3, .int .i64 k, .slice a4 n2 c4]) (by simp [results, Tryz.results55, go_sem, *]) rfl ⟨_, _, rfl, (put4_own (D := W.heap.size) ⟨by have h := P3.out; rw [N1.out] at h ⊢; exact h, by have h := P2.out.mono (show W.heap.size ≤ w3.heap.size from hs3); rw [N2.out] at h ⊢; exact h⟩ l1).mono bWs, put4_below (HbW.out.trans (Hb5.out.mono bWs)) (by omega)⟩

end Go.Proofs.YtafincmcmgedbaaGreatDoor
