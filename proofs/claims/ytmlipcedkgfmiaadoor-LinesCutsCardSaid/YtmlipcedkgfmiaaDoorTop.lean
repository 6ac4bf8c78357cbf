/-
  The program's Indent, Outdent, Free, List, Format.
-/
import Derived.Test.YtmlipcedkgfmiaaDoorAsking
namespace Go.Proofs.YtmlipcedkgfmiaaDoor
open Go.RowKit Go.Lib

/-- What is done to a line that may be. -/
def opS (f : Ln → Int × Ln) (L : Ln) : Int × Ln := if mayS L = true then f L else (1, ln0)
def listK (kind : Int) (L : Ln) : Int × Ln := if upB kind 1 = true then listS kind L else (1, ln0)
def formatK (kind : Int) (L : Ln) : Int × Ln := if upB kind 3 = true then formatS kind L else (1, ln0)
theorem indentS_err (L : Ln) : (indentS L).1 ≠ 0 → (indentS L).2 = ln0 := by unfold indentS; split <;> (try split) <;> simp
theorem outdentS_err (L : Ln) : (outdentS L).1 ≠ 0 → (outdentS L).2 = ln0 := by unfold outdentS; split <;> (try split) <;> simp
theorem freeS_err (L : Ln) : (freeS L).1 ≠ 0 → (freeS L).2 = ln0 := by unfold freeS; split <;> first | exact outdentS_err L | simp
theorem listK_err (kind : Int) (L : Ln) : (listK kind L).1 ≠ 0 → (listK kind L).2 = ln0 := by unfold listK listS; split <;> (try split) <;> (try split) <;> simp
theorem formatK_err (kind : Int) (L : Ln) : (formatK kind L).1 ≠ 0 → (formatK kind L).2 = ln0 := by unfold formatK formatS; split <;> (try split) <;> simp
theorem mayS_facts {q k : Int} {ls : IRow} {cs : Row} (h : mayS ⟨q, ls, k, cs⟩ = true) : (0 ≤ q ∧ q ≤ 6) ∧ ls.length ≤ 6 := by
  unfold mayS at h
  simp only [Bool.and_eq_true] at h
  obtain ⟨⟨⟨h1, h2⟩, _⟩, _⟩ := h
  unfold upB at h1
  unfold listsB at h2
  simp only [Bool.and_eq_true, decide_eq_true_eq] at h1 h2
  exact ⟨h1, h2.1⟩

theorem asking_any (F : Fn) (caps : Array Value) (w : World) : Calls Tryd.prog 47 #[.func F #[] caps] w fun e w' => e = .returned (.func (.func 66) #[] #[.pointer (some ⟨w.heap.size, 0, none⟩)]) ∧ w' = w.alloc (.cells #[.func F #[] caps] 56) := by
  go_enter Tryd.func47, Tryd.ntmps47
  go_wp2
  go_ret
  exact ⟨rfl, rfl⟩

theorem box_three (w : World) (q k q' k' x : Int) (sl sc sl' sc' : Value) :
    Below w.heap.size w (((w.alloc (.cells #[.int .i64 q, sl, .int .i64 k, sc] 25)).alloc (.cells #[.int .i64 x] 3)).alloc (.cells #[.int .i64 q', sl', .int .i64 k', sc'] 25)) ∧
    BoxAt (((w.alloc (.cells #[.int .i64 q, sl, .int .i64 k, sc] 25)).alloc (.cells #[.int .i64 x] 3)).alloc (.cells #[.int .i64 q', sl', .int .i64 k', sc'] 25)) w.heap.size q sl k sc ∧
    BoxAt (((w.alloc (.cells #[.int .i64 q, sl, .int .i64 k, sc] 25)).alloc (.cells #[.int .i64 x] 3)).alloc (.cells #[.int .i64 q', sl', .int .i64 k', sc'] 25)) (w.heap.size + 1 + 1) q' sl' k' sc' ∧
    (((w.alloc (.cells #[.int .i64 q, sl, .int .i64 k, sc] 25)).alloc (.cells #[.int .i64 x] 3)).alloc (.cells #[.int .i64 q', sl', .int .i64 k', sc'] 25)).cell? ⟨w.heap.size + 1, 0, none⟩ = some (.int .i64 x) := by
  refine ⟨(((Below.refl _ w).alloc (Nat.le_refl _) _).alloc (by simp) _).alloc (by simp; omega) _, (box_new w q k sl sc).below (((Below.refl _ _).alloc (Nat.le_refl _) _).alloc (by simp) _), ?_, by simp [go_sem]⟩
  have h := box_new ((w.alloc (.cells #[.int .i64 q, sl, .int .i64 k, sc] 25)).alloc (.cells #[.int .i64 x] 3)) q' k' sl' sc'
  rw [show ((w.alloc (.cells #[.int .i64 q, sl, .int .i64 k, sc] 25)).alloc (.cells #[.int .i64 x] 3)).heap.size = w.heap.size + 1 + 1 by simp] at h
  exact h

set_option maxRecDepth 20000 in
set_option maxHeartbeats 8000000 in
theorem Indent_any (q k : Int) (sl sc : Value) (ls : IRow) (cs : Row) (w : World) (h : LnAt w sl sc ls cs) (hls : ls.length ≤ 50000) (hcs : cs.length ≤ 50000) (hf : Fair cs) (hE : Tg.Env w) :
    Calls Tryd.prog 24 #[.agg #[.int .i64 q, sl, .int .i64 k, sc]] w (AskPost (opS (indentS) ⟨q, ls, k, cs⟩) w) := by
  obtain ⟨a1, c1, rfl⟩ := h.z.len
  obtain ⟨a2, c2, rfl⟩ := h.r.len
  have HX := Lib.hid (box_two w q k 0 0 (.slice a1 ls.length c1) (.slice a2 cs.length c2) (.slice none 0 0) (.slice none 0 0))
  have cK : ∀ (w1 : World) (D : Nat), Below w.heap.size w w1 → w1.cell? ⟨D, 0, none⟩ = some (.func (.func 52) #[] #[]) → Calls Tryd.prog 66 #[.agg #[.int .i64 q, .slice a1 ls.length c1, .int .i64 k, .slice a2 cs.length c2], .pointer (some ⟨D, 0, none⟩)] w1 (AskPost (opS (indentS) ⟨q, ls, k, cs⟩) w1) :=
    fun w1 D h1 h2 => ask_indent q k _ _ ls cs D w1 (h.below h1) hls hcs hf (hE.below h1) h2 (indentS ⟨q, ls, k, cs⟩) (indentS_err ⟨q, ls, k, cs⟩) (fun hM w2 b B C sl' sc' h3 h4 h5 h6 h7 h8 => indent_any q k sl' sc' ls cs B C b w2 h4 h5 h6 h7 (mayS_facts hM).1 (mayS_facts hM).2)
  obtain ⟨R, hR⟩ : ∃ R, opS (indentS) ⟨q, ls, k, cs⟩ = R := ⟨_, rfl⟩
  rw [hR] at cK ⊢
  obtain ⟨n1, hn1⟩ : ∃ n, ls.length = n := ⟨_, rfl⟩
  obtain ⟨n2, hn2⟩ : ∃ n, cs.length = n := ⟨_, rfl⟩
  rw [hn1] at cK HX ⊢
  rw [hn2] at cK HX ⊢
  clear h hls hcs hf hE hn1 hn2 hR
  have cA := asking_any
  obtain ⟨code, q', ls', k', cs'⟩ := R
  go_enter Tryd.func24, Tryd.ntmps24
  go_wp2
  obtain ⟨W, hW⟩ : ∃ W, ((w.alloc (.cells #[.int .i64 q, .slice a1 n1 c1, .int .i64 k, .slice a2 n2 c2] 25)).alloc (.cells #[.int .i64 0, .slice none 0 0, .int .i64 0, .slice none 0 0] 25)) = W := ⟨_, rfl⟩
  rw [hW] at HX ⊢
  obtain ⟨bW, B0, B1⟩ := HX.out
  have HB0 := Lib.hid B0
  have HB1 := Lib.hid B1
  have hr0 := B1.lt
  obtain ⟨l0, x0, x1, x2, x3, _, _, _, _⟩ := B0
  have bWs := bW.size
  have HbW := Lib.hid bW
  clear B1 hW HX bW
  go_region_with (first
    | (go_at_call 47; ((with_reducible refine (cA _ _ _).mono ?_); rintro e w1 ⟨rfl, rfl⟩))
    | (go_at_call 66; ((with_reducible refine (cK _ _ ?hb ?hd).mono ?_); (case hb => exact HbW.out.trans (Below.mono (show Below W.heap.size W _ by (repeat (first | (with_reducible exact Below.refl _ _) | assumption | (with_reducible refine Below.drew ?_) | (with_reducible refine Below.alloc ?_ ?_ _) | omega | (simp <;> omega)))) bWs)); (case hd => simp [go_sem]); rintro e w2 ⟨sl3, sc3, rfl, hm, hb2⟩; dsimp only at hm; obtain ⟨a5, c5, e5⟩ := hm.z.here.len; obtain ⟨a6, c6, e6⟩ := hm.r.here.len; subst e5 e6; have hbw := Lib.hid ((show Below W.heap.size W _ by (repeat (first | (with_reducible exact Below.refl _ _) | assumption | (with_reducible refine Below.drew ?_) | (with_reducible refine Below.alloc ?_ ?_ _) | omega | (simp <;> omega)))).trans (hb2.mono (by first | omega | (simp <;> omega)))); have HM := Lib.hid (hm.mono (show W.heap.size ≤ _ by first | omega | (simp <;> omega)) (Nat.le_refl _)); obtain ⟨l1, u0, u1, u2, u3, v0, v1, v2, v3⟩ := HB1.out.below hbw.out; clear hm hb2)))
  all_goals clear cK cA
  all_goals go_wp2
  all_goals exact bodyPost_ret (v := .tuple #[.agg #[.int .i64 q', .slice a5 ls'.length c5, .int .i64 k', .slice a6 cs'.length c6], .int .i64 code]) (by simp [results, Tryd.results24, go_sem, *]) rfl ⟨_, _, rfl, mine_put4 HM.out (Nat.le_refl _) bWs hr0, put4_below (HbW.out.trans (hbw.out.mono bWs)) (by omega)⟩

set_option maxRecDepth 20000 in
set_option maxHeartbeats 8000000 in
theorem Outdent_any (q k : Int) (sl sc : Value) (ls : IRow) (cs : Row) (w : World) (h : LnAt w sl sc ls cs) (hls : ls.length ≤ 50000) (hcs : cs.length ≤ 50000) (hf : Fair cs) (hE : Tg.Env w) :
    Calls Tryd.prog 26 #[.agg #[.int .i64 q, sl, .int .i64 k, sc]] w (AskPost (opS (outdentS) ⟨q, ls, k, cs⟩) w) := by
  obtain ⟨a1, c1, rfl⟩ := h.z.len
  obtain ⟨a2, c2, rfl⟩ := h.r.len
  have HX := Lib.hid (box_two w q k 0 0 (.slice a1 ls.length c1) (.slice a2 cs.length c2) (.slice none 0 0) (.slice none 0 0))
  have cK : ∀ (w1 : World) (D : Nat), Below w.heap.size w w1 → w1.cell? ⟨D, 0, none⟩ = some (.func (.func 53) #[] #[]) → Calls Tryd.prog 66 #[.agg #[.int .i64 q, .slice a1 ls.length c1, .int .i64 k, .slice a2 cs.length c2], .pointer (some ⟨D, 0, none⟩)] w1 (AskPost (opS (outdentS) ⟨q, ls, k, cs⟩) w1) :=
    fun w1 D h1 h2 => ask_outdent q k _ _ ls cs D w1 (h.below h1) hls hcs hf (hE.below h1) h2 (outdentS ⟨q, ls, k, cs⟩) (outdentS_err ⟨q, ls, k, cs⟩) (fun hM w2 b B C sl' sc' h3 h4 h5 h6 h7 h8 => outdent_any q k sl' sc' ls cs B C b w2 h4 h5 h6 h7 (mayS_facts hM).1)
  obtain ⟨R, hR⟩ : ∃ R, opS (outdentS) ⟨q, ls, k, cs⟩ = R := ⟨_, rfl⟩
  rw [hR] at cK ⊢
  obtain ⟨n1, hn1⟩ : ∃ n, ls.length = n := ⟨_, rfl⟩
  obtain ⟨n2, hn2⟩ : ∃ n, cs.length = n := ⟨_, rfl⟩
  rw [hn1] at cK HX ⊢
  rw [hn2] at cK HX ⊢
  clear h hls hcs hf hE hn1 hn2 hR
  have cA := asking_any
  obtain ⟨code, q', ls', k', cs'⟩ := R
  go_enter Tryd.func26, Tryd.ntmps26
  go_wp2
  obtain ⟨W, hW⟩ : ∃ W, ((w.alloc (.cells #[.int .i64 q, .slice a1 n1 c1, .int .i64 k, .slice a2 n2 c2] 25)).alloc (.cells #[.int .i64 0, .slice none 0 0, .int .i64 0, .slice none 0 0] 25)) = W := ⟨_, rfl⟩
  rw [hW] at HX ⊢
  obtain ⟨bW, B0, B1⟩ := HX.out
  have HB0 := Lib.hid B0
  have HB1 := Lib.hid B1
  have hr0 := B1.lt
  obtain ⟨l0, x0, x1, x2, x3, _, _, _, _⟩ := B0
  have bWs := bW.size
  have HbW := Lib.hid bW
  clear B1 hW HX bW
  go_region_with (first
    | (go_at_call 47; ((with_reducible refine (cA _ _ _).mono ?_); rintro e w1 ⟨rfl, rfl⟩))
    | (go_at_call 66; ((with_reducible refine (cK _ _ ?hb ?hd).mono ?_); (case hb => exact HbW.out.trans (Below.mono (show Below W.heap.size W _ by (repeat (first | (with_reducible exact Below.refl _ _) | assumption | (with_reducible refine Below.drew ?_) | (with_reducible refine Below.alloc ?_ ?_ _) | omega | (simp <;> omega)))) bWs)); (case hd => simp [go_sem]); rintro e w2 ⟨sl3, sc3, rfl, hm, hb2⟩; dsimp only at hm; obtain ⟨a5, c5, e5⟩ := hm.z.here.len; obtain ⟨a6, c6, e6⟩ := hm.r.here.len; subst e5 e6; have hbw := Lib.hid ((show Below W.heap.size W _ by (repeat (first | (with_reducible exact Below.refl _ _) | assumption | (with_reducible refine Below.drew ?_) | (with_reducible refine Below.alloc ?_ ?_ _) | omega | (simp <;> omega)))).trans (hb2.mono (by first | omega | (simp <;> omega)))); have HM := Lib.hid (hm.mono (show W.heap.size ≤ _ by first | omega | (simp <;> omega)) (Nat.le_refl _)); obtain ⟨l1, u0, u1, u2, u3, v0, v1, v2, v3⟩ := HB1.out.below hbw.out; clear hm hb2)))
  all_goals clear cK cA
  all_goals go_wp2
  all_goals exact bodyPost_ret (v := .tuple #[.agg #[.int .i64 q', .slice a5 ls'.length c5, .int .i64 k', .slice a6 cs'.length c6], .int .i64 code]) (by simp [results, Tryd.results26, go_sem, *]) rfl ⟨_, _, rfl, mine_put4 HM.out (Nat.le_refl _) bWs hr0, put4_below (HbW.out.trans (hbw.out.mono bWs)) (by omega)⟩

set_option maxRecDepth 20000 in
set_option maxHeartbeats 8000000 in
theorem Free_any (q k : Int) (sl sc : Value) (ls : IRow) (cs : Row) (w : World) (h : LnAt w sl sc ls cs) (hls : ls.length ≤ 50000) (hcs : cs.length ≤ 50000) (hf : Fair cs) (hE : Tg.Env w) :
    Calls Tryd.prog 32 #[.agg #[.int .i64 q, sl, .int .i64 k, sc]] w (AskPost (opS (freeS) ⟨q, ls, k, cs⟩) w) := by
  obtain ⟨a1, c1, rfl⟩ := h.z.len
  obtain ⟨a2, c2, rfl⟩ := h.r.len
  have HX := Lib.hid (box_two w q k 0 0 (.slice a1 ls.length c1) (.slice a2 cs.length c2) (.slice none 0 0) (.slice none 0 0))
  have cK : ∀ (w1 : World) (D : Nat), Below w.heap.size w w1 → w1.cell? ⟨D, 0, none⟩ = some (.func (.func 57) #[] #[]) → Calls Tryd.prog 66 #[.agg #[.int .i64 q, .slice a1 ls.length c1, .int .i64 k, .slice a2 cs.length c2], .pointer (some ⟨D, 0, none⟩)] w1 (AskPost (opS (freeS) ⟨q, ls, k, cs⟩) w1) :=
    fun w1 D h1 h2 => ask_free q k _ _ ls cs D w1 (h.below h1) hls hcs hf (hE.below h1) h2 (freeS ⟨q, ls, k, cs⟩) (freeS_err ⟨q, ls, k, cs⟩) (fun hM w2 b B C sl' sc' h3 h4 h5 h6 h7 h8 => free_any q k sl' sc' ls cs B C b w2 h4 h5 h6 h7 (mayS_facts hM).1)
  obtain ⟨R, hR⟩ : ∃ R, opS (freeS) ⟨q, ls, k, cs⟩ = R := ⟨_, rfl⟩
  rw [hR] at cK ⊢
  obtain ⟨n1, hn1⟩ : ∃ n, ls.length = n := ⟨_, rfl⟩
  obtain ⟨n2, hn2⟩ : ∃ n, cs.length = n := ⟨_, rfl⟩
  rw [hn1] at cK HX ⊢
  rw [hn2] at cK HX ⊢
  clear h hls hcs hf hE hn1 hn2 hR
  have cA := asking_any
  obtain ⟨code, q', ls', k', cs'⟩ := R
  go_enter Tryd.func32, Tryd.ntmps32
  go_wp2
  obtain ⟨W, hW⟩ : ∃ W, ((w.alloc (.cells #[.int .i64 q, .slice a1 n1 c1, .int .i64 k, .slice a2 n2 c2] 25)).alloc (.cells #[.int .i64 0, .slice none 0 0, .int .i64 0, .slice none 0 0] 25)) = W := ⟨_, rfl⟩
  rw [hW] at HX ⊢
  obtain ⟨bW, B0, B1⟩ := HX.out
  have HB0 := Lib.hid B0
  have HB1 := Lib.hid B1
  have hr0 := B1.lt
  obtain ⟨l0, x0, x1, x2, x3, _, _, _, _⟩ := B0
  have bWs := bW.size
  have HbW := Lib.hid bW
  clear B1 hW HX bW
  go_region_with (first
    | (go_at_call 47; ((with_reducible refine (cA _ _ _).mono ?_); rintro e w1 ⟨rfl, rfl⟩))
    | (go_at_call 66; ((with_reducible refine (cK _ _ ?hb ?hd).mono ?_); (case hb => exact HbW.out.trans (Below.mono (show Below W.heap.size W _ by (repeat (first | (with_reducible exact Below.refl _ _) | assumption | (with_reducible refine Below.drew ?_) | (with_reducible refine Below.alloc ?_ ?_ _) | omega | (simp <;> omega)))) bWs)); (case hd => simp [go_sem]); rintro e w2 ⟨sl3, sc3, rfl, hm, hb2⟩; dsimp only at hm; obtain ⟨a5, c5, e5⟩ := hm.z.here.len; obtain ⟨a6, c6, e6⟩ := hm.r.here.len; subst e5 e6; have hbw := Lib.hid ((show Below W.heap.size W _ by (repeat (first | (with_reducible exact Below.refl _ _) | assumption | (with_reducible refine Below.drew ?_) | (with_reducible refine Below.alloc ?_ ?_ _) | omega | (simp <;> omega)))).trans (hb2.mono (by first | omega | (simp <;> omega)))); have HM := Lib.hid (hm.mono (show W.heap.size ≤ _ by first | omega | (simp <;> omega)) (Nat.le_refl _)); obtain ⟨l1, u0, u1, u2, u3, v0, v1, v2, v3⟩ := HB1.out.below hbw.out; clear hm hb2)))
  all_goals clear cK cA
  all_goals go_wp2
  all_goals exact bodyPost_ret (v := .tuple #[.agg #[.int .i64 q', .slice a5 ls'.length c5, .int .i64 k', .slice a6 cs'.length c6], .int .i64 code]) (by simp [results, Tryd.results32, go_sem, *]) rfl ⟨_, _, rfl, mine_put4 HM.out (Nat.le_refl _) bWs hr0, put4_below (HbW.out.trans (hbw.out.mono bWs)) (by omega)⟩

set_option maxRecDepth 20000 in
set_option maxHeartbeats 8000000 in
theorem List_any (q k kind : Int) (sl sc : Value) (ls : IRow) (cs : Row) (w : World) (h : LnAt w sl sc ls cs) (hls : ls.length ≤ 50000) (hcs : cs.length ≤ 50000) (hf : Fair cs) (hE : Tg.Env w) :
    Calls Tryd.prog 28 #[.agg #[.int .i64 q, sl, .int .i64 k, sc], .int .i64 kind] w (AskPost (opS (listK kind) ⟨q, ls, k, cs⟩) w) := by
  obtain ⟨a1, c1, rfl⟩ := h.z.len
  obtain ⟨a2, c2, rfl⟩ := h.r.len
  have HX := Lib.hid (box_three w q k 0 0 kind (.slice a1 ls.length c1) (.slice a2 cs.length c2) (.slice none 0 0) (.slice none 0 0))
  have cK : ∀ (w1 : World) (D : Nat), Below w.heap.size w w1 → w1.cell? ⟨D, 0, none⟩ = some (.func (.func 54) #[] #[.pointer (some ⟨w.heap.size + 1, 0, none⟩)]) → w1.cell? ⟨w.heap.size + 1, 0, none⟩ = some (.int .i64 kind) → Calls Tryd.prog 66 #[.agg #[.int .i64 q, .slice a1 ls.length c1, .int .i64 k, .slice a2 cs.length c2], .pointer (some ⟨D, 0, none⟩)] w1 (AskPost (opS (listK kind) ⟨q, ls, k, cs⟩) w1) :=
    fun w1 D h1 h2 hK => ask_list q k _ _ ls cs D (w.heap.size + 1) w1 (h.below h1) hls hcs hf (hE.below h1) h2 (listK kind ⟨q, ls, k, cs⟩) (listK_err kind ⟨q, ls, k, cs⟩) (fun hM w2 b B C sl' sc' h3 h4 h5 h6 h7 h8 => list_do q k kind sl' sc' ls cs B C b (w.heap.size + 1) w2 h4 h5 h6 h7 (by have := (mayS_facts hM).2; omega) ((h3.cell (p := ⟨w.heap.size + 1, 0, none⟩) (lt_of_cell' hK)).trans hK))
  obtain ⟨R, hR⟩ : ∃ R, opS (listK kind) ⟨q, ls, k, cs⟩ = R := ⟨_, rfl⟩
  rw [hR] at cK ⊢
  obtain ⟨n1, hn1⟩ : ∃ n, ls.length = n := ⟨_, rfl⟩
  obtain ⟨n2, hn2⟩ : ∃ n, cs.length = n := ⟨_, rfl⟩
  rw [hn1] at cK HX ⊢
  rw [hn2] at cK HX ⊢
  clear h hls hcs hf hE hn1 hn2 hR
  have cA := asking_any
  obtain ⟨code, q', ls', k', cs'⟩ := R
  go_enter Tryd.func28, Tryd.ntmps28
  go_wp2
  obtain ⟨W, hW⟩ : ∃ W, (((w.alloc (.cells #[.int .i64 q, .slice a1 n1 c1, .int .i64 k, .slice a2 n2 c2] 25)).alloc (.cells #[.int .i64 kind] 3)).alloc (.cells #[.int .i64 0, .slice none 0 0, .int .i64 0, .slice none 0 0] 25)) = W := ⟨_, rfl⟩
  rw [hW] at HX ⊢
  obtain ⟨bW, B0, B1, hK0⟩ := HX.out
  have HB0 := Lib.hid B0
  have HB1 := Lib.hid B1
  have hr0 := B1.lt
  obtain ⟨l0, x0, x1, x2, x3, _, _, _, _⟩ := B0
  have bWs := bW.size
  have HbW := Lib.hid bW
  clear B1 hW HX bW
  go_region_with (first
    | (go_at_call 47; ((with_reducible refine (cA _ _ _).mono ?_); rintro e w1 ⟨rfl, rfl⟩))
    | (go_at_call 66; ((with_reducible refine (cK _ _ ?hb ?hd ?hk).mono ?_); (case hb => exact HbW.out.trans (Below.mono (show Below W.heap.size W _ by (repeat (first | (with_reducible exact Below.refl _ _) | assumption | (with_reducible refine Below.drew ?_) | (with_reducible refine Below.alloc ?_ ?_ _) | omega | (simp <;> omega)))) bWs)); (case hd => simp [go_sem]); (case hk => exact ((show Below W.heap.size W _ by (repeat (first | (with_reducible exact Below.refl _ _) | assumption | (with_reducible refine Below.drew ?_) | (with_reducible refine Below.alloc ?_ ?_ _) | omega | (simp <;> omega)))).cell (p := ⟨w.heap.size + 1, 0, none⟩) (show w.heap.size + 1 < W.heap.size by omega)).trans hK0); rintro e w2 ⟨sl3, sc3, rfl, hm, hb2⟩; dsimp only at hm; obtain ⟨a5, c5, e5⟩ := hm.z.here.len; obtain ⟨a6, c6, e6⟩ := hm.r.here.len; subst e5 e6; have hbw := Lib.hid ((show Below W.heap.size W _ by (repeat (first | (with_reducible exact Below.refl _ _) | assumption | (with_reducible refine Below.drew ?_) | (with_reducible refine Below.alloc ?_ ?_ _) | omega | (simp <;> omega)))).trans (hb2.mono (by first | omega | (simp <;> omega)))); have HM := Lib.hid (hm.mono (show W.heap.size ≤ _ by first | omega | (simp <;> omega)) (Nat.le_refl _)); obtain ⟨l1, u0, u1, u2, u3, v0, v1, v2, v3⟩ := HB1.out.below hbw.out; clear hm hb2)))
  all_goals clear cK cA
  all_goals go_wp2
  all_goals exact bodyPost_ret (v := .tuple #[.agg #[.int .i64 q', .slice a5 ls'.length c5, .int .i64 k', .slice a6 cs'.length c6], .int .i64 code]) (by simp [results, Tryd.results28, go_sem, *]) rfl ⟨_, _, rfl, mine_put4 HM.out (Nat.le_refl _) bWs hr0, put4_below (HbW.out.trans (hbw.out.mono bWs)) (by omega)⟩

set_option maxRecDepth 20000 in
set_option maxHeartbeats 8000000 in
theorem Format_any (q k kind : Int) (sl sc : Value) (ls : IRow) (cs : Row) (w : World) (h : LnAt w sl sc ls cs) (hls : ls.length ≤ 50000) (hcs : cs.length ≤ 50000) (hf : Fair cs) (hE : Tg.Env w) :
    Calls Tryd.prog 30 #[.agg #[.int .i64 q, sl, .int .i64 k, sc], .int .i64 kind] w (AskPost (opS (formatK kind) ⟨q, ls, k, cs⟩) w) := by
  obtain ⟨a1, c1, rfl⟩ := h.z.len
  obtain ⟨a2, c2, rfl⟩ := h.r.len
  have HX := Lib.hid (box_three w q k 0 0 kind (.slice a1 ls.length c1) (.slice a2 cs.length c2) (.slice none 0 0) (.slice none 0 0))
  have cK : ∀ (w1 : World) (D : Nat), Below w.heap.size w w1 → w1.cell? ⟨D, 0, none⟩ = some (.func (.func 56) #[] #[.pointer (some ⟨w.heap.size + 1, 0, none⟩)]) → w1.cell? ⟨w.heap.size + 1, 0, none⟩ = some (.int .i64 kind) → Calls Tryd.prog 66 #[.agg #[.int .i64 q, .slice a1 ls.length c1, .int .i64 k, .slice a2 cs.length c2], .pointer (some ⟨D, 0, none⟩)] w1 (AskPost (opS (formatK kind) ⟨q, ls, k, cs⟩) w1) :=
    fun w1 D h1 h2 hK => ask_format q k _ _ ls cs D (w.heap.size + 1) w1 (h.below h1) hls hcs hf (hE.below h1) h2 (formatK kind ⟨q, ls, k, cs⟩) (formatK_err kind ⟨q, ls, k, cs⟩) (fun hM w2 b B C sl' sc' h3 h4 h5 h6 h7 h8 => format_do q k kind sl' sc' ls cs B C b (w.heap.size + 1) w2 h4 h5 h6 h7 ((h3.cell (p := ⟨w.heap.size + 1, 0, none⟩) (lt_of_cell' hK)).trans hK))
  obtain ⟨R, hR⟩ : ∃ R, opS (formatK kind) ⟨q, ls, k, cs⟩ = R := ⟨_, rfl⟩
  rw [hR] at cK ⊢
  obtain ⟨n1, hn1⟩ : ∃ n, ls.length = n := ⟨_, rfl⟩
  obtain ⟨n2, hn2⟩ : ∃ n, cs.length = n := ⟨_, rfl⟩
  rw [hn1] at cK HX ⊢
  rw [hn2] at cK HX ⊢
  clear h hls hcs hf hE hn1 hn2 hR
  have cA := asking_any
  obtain ⟨code, q', ls', k', cs'⟩ := R
  go_enter Tryd.func30, Tryd.ntmps30
  go_wp2
  obtain ⟨W, hW⟩ : ∃ W, (((w.alloc (.cells #[.int .i64 q, .slice a1 n1 c1, .int .i64 k, .slice a2 n2 c2] 25)).alloc (.cells #[.int .i64 kind] 3)).alloc (.cells #[.int .i64 0, .slice none 0 0, .int .i64 0, .slice none 0 0] 25)) = W := ⟨_, rfl⟩
  rw [hW] at HX ⊢
  obtain ⟨bW, B0, B1, hK0⟩ := HX.out
  have HB0 := Lib.hid B0
  have HB1 := Lib.hid B1
  have hr0 := B1.lt
  obtain ⟨l0, x0, x1, x2, x3, _, _, _, _⟩ := B0
  have bWs := bW.size
  have HbW := Lib.hid bW
  clear B1 hW HX bW
  go_region_with (first
    | (go_at_call 47; ((with_reducible refine (cA _ _ _).mono ?_); rintro e w1 ⟨rfl, rfl⟩))
    | (go_at_call 66; ((with_reducible refine (cK _ _ ?hb ?hd ?hk).mono ?_); (case hb => exact HbW.out.trans (Below.mono (show Below W.heap.size W _ by (repeat (first | (with_reducible exact Below.refl _ _) | assumption | (with_reducible refine Below.drew ?_) | (with_reducible refine Below.alloc ?_ ?_ _) | omega | (simp <;> omega)))) bWs)); (case hd => simp [go_sem]); (case hk => exact ((show Below W.heap.size W _ by (repeat (first | (with_reducible exact Below.refl _ _) | assumption | (with_reducible refine Below.drew ?_) | (with_reducible refine Below.alloc ?_ ?_ _) | omega | (simp <;> omega)))).cell (p := ⟨w.heap.size + 1, 0, none⟩) (show w.heap.size + 1 < W.heap.size by omega)).trans hK0); rintro e w2 ⟨sl3, sc3, rfl, hm, hb2⟩; dsimp only at hm; obtain ⟨a5, c5, e5⟩ := hm.z.here.len; obtain ⟨a6, c6, e6⟩ := hm.r.here.len; subst e5 e6; have hbw := Lib.hid ((show Below W.heap.size W _ by (repeat (first | (with_reducible exact Below.refl _ _) | assumption | (with_reducible refine Below.drew ?_) | (with_reducible refine Below.alloc ?_ ?_ _) | omega | (simp <;> omega)))).trans (hb2.mono (by first | omega | (simp <;> omega)))); have HM := Lib.hid (hm.mono (show W.heap.size ≤ _ by first | omega | (simp <;> omega)) (Nat.le_refl _)); obtain ⟨l1, u0, u1, u2, u3, v0, v1, v2, v3⟩ := HB1.out.below hbw.out; clear hm hb2)))
  all_goals clear cK cA
  all_goals go_wp2
  all_goals exact bodyPost_ret (v := .tuple #[.agg #[.int .i64 q', .slice a5 ls'.length c5, .int .i64 k', .slice a6 cs'.length c6], .int .i64 code]) (by simp [results, Tryd.results30, go_sem, *]) rfl ⟨_, _, rfl, mine_put4 HM.out (Nat.le_refl _) bWs hr0, put4_below (HbW.out.trans (hbw.out.mono bWs)) (by omega)⟩

end Go.Proofs.YtmlipcedkgfmiaaDoor
