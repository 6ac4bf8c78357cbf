/-
  The chapter's examples that every statement of the layer asks for.
-/
import Derived.Test.YtmlipcedkgfmiaaDoorSplitTop
namespace Go.Proofs.YtmlipcedkgfmiaaDoor
open Go.RowKit Go.Lib

def rowAB : Row := [(97, 0, ⟨#[]⟩), (98, 0, ⟨#[]⟩)]
theorem splitA : splitS 2 ⟨0, [], 2, rowAB⟩ = (0, ⟨0, [], 2, rowAB⟩, ⟨0, [], 0, []⟩) := by kernel_rfl
theorem indentA : opS indentS ⟨0, [0, 1], 0, []⟩ = (0, ⟨0, [0, 1, 1], 0, []⟩) := by kernel_rfl
theorem outdentA : opS outdentS ⟨0, [], 0, []⟩ = (7, ln0) := by kernel_rfl
theorem listA : opS (listK 1) ⟨0, [], 2, rowAB⟩ = (0, ⟨0, [1], 0, rowAB⟩) := by kernel_rfl
theorem mayA : mayS ⟨0, [0], 1, []⟩ = false := by kernel_rfl
theorem fairAB : Fair rowAB := fun k hk => by
  match k, hk with
  | 0, _ => decide
  | 1, _ => decide
theorem fair_nil : Fair [] := fun k hk => absurd hk (by simp)
theorem nilZ (w : World) : IntsAt w (.slice none 0 0) [] := .inl ⟨none, 0, rfl, fun _ => rfl, by decide, rfl⟩
theorem nilR (w : World) : RowAt w (.slice none 0 0) [] := .inl ⟨none, 0, rfl, fun _ => rfl, by decide, rfl⟩
theorem lit_row (w : World) (l : Row) (cs : Array Value) (n : Nat) (hcs : cs.toList = cellsR l) (hn : l.length = n) (hl : n ≤ 1000) (t : TypeId) : RowAt (w.alloc (.cells cs t)) (.slice (some ⟨w.heap.size, 0, none⟩) n n) l := by
  subst hn
  refine .inr ⟨w.heap.size, 0, l.length, rfl, Nat.le_refl _, by unfold maxLen; omega, by simp, Cells.of_flat (fun j u hu => ?_)⟩
  rw [Nat.zero_add]
  exact cell_blkZ (World.alloc_heap_new w _) j u (by rw [← Array.getElem?_toList, hcs]; exact hu)
theorem lit_ints (w : World) (l : IRow) (cs : Array Value) (n : Nat) (hcs : cs.toList = cellsZ l) (hn : l.length = n) (hl : n ≤ 1000) (t : TypeId) : IntsAt (w.alloc (.cells cs t)) (.slice (some ⟨w.heap.size, 0, none⟩) n n) l := by
  subst hn
  refine .inr ⟨w.heap.size, 0, l.length, rfl, Nat.le_refl _, by unfold maxLen; omega, by simp, Ints.of_flat (fun j u hu => ?_)⟩
  rw [Nat.zero_add]
  exact cell_blkZ (World.alloc_heap_new w _) j u (by rw [← Array.getElem?_toList, hcs]; exact hu)

theorem lit_intsA (w : World) (l : IRow) (cs : Array Value) (n g : Nat) (hg : g = w.heap.size) (hcs : cs.toList = cellsZ l) (hn : l.length = n) (hl : n ≤ 1000) (t : TypeId) : IntsAt (w.alloc (.cells cs t)) (.slice (some ⟨g, 0, none⟩) n n) l := by
  subst hg; exact lit_ints w l cs n hcs hn hl t
theorem bcell2 {W w1 : World} (hb : Below W.heap.size W w1) : (∀ b o, b < W.heap.size → w1.cell? ⟨b, o, none⟩ = W.cell? ⟨b, o, none⟩) ∧ (∀ b o, b < W.heap.size → w1.frozen? ⟨b, o, none⟩ = W.frozen? ⟨b, o, none⟩) :=
  ⟨fun b o h => hb.cell (p := ⟨b, o, none⟩) h, fun b o h => hb.frozen (p := ⟨b, o, none⟩) h⟩
theorem split_known (v : Value) (w : World) (hE : Tg.Env w) (h : RowAt w v rowAB) : Calls Tryd.prog 20 #[.agg #[.int .i64 0, .slice none 0 0, .int .i64 2, v], .int .i64 2] w fun e w' =>
    ∃ a1 c1 a2 c2 a3 c3 a4 c4, e = .returned (.tuple #[.agg #[.int .i64 0, .slice a1 0 c1, .int .i64 2, .slice a2 2 c2], .agg #[.int .i64 0, .slice a3 0 c3, .int .i64 0, .slice a4 0 c4], .int .i64 0]) ∧ Below w.heap.size w w' := by
  have hc := Split_any 0 2 2 _ v [] rowAB w ⟨nilZ w, h⟩ (by decide) (by decide) fairAB hE
  rw [splitA] at hc
  refine hc.mono ?_
  rintro e w' ⟨D, sl, sc, sl2, sc2, rfl, m1, m2, hb, _⟩
  obtain ⟨a1, c1, rfl⟩ := m1.z.here.len
  obtain ⟨a2, c2, rfl⟩ := m1.r.here.len
  obtain ⟨a3, c3, rfl⟩ := m2.z.here.len
  obtain ⟨a4, c4, rfl⟩ := m2.r.here.len
  exact ⟨a1, c1, a2, c2, a3, c3, a4, c4, rfl, hb⟩
theorem indent_known (v : Value) (w : World) (hE : Tg.Env w) (h : IntsAt w v [0, 1]) : Calls Tryd.prog 24 #[.agg #[.int .i64 0, v, .int .i64 0, .slice none 0 0]] w fun e w' =>
    ∃ g o c a2 c2, e = .returned (.tuple #[.agg #[.int .i64 0, .slice (some ⟨g, o, none⟩) 3 c, .int .i64 0, .slice a2 0 c2], .int .i64 0]) ∧ w'.cell? ⟨g, o + 2, none⟩ = some (.int .i64 1) ∧ g < w'.heap.size ∧ 3 ≤ c ∧ c ≤ 2 ^ 63 - 1 ∧ Below w.heap.size w w' := by
  have hc := Indent_any 0 0 v _ [0, 1] [] w ⟨h, nilR w⟩ (by decide) (by decide) fair_nil hE
  rw [indentA] at hc
  refine hc.mono ?_
  rintro e w' ⟨sl, sc, rfl, m1, hb⟩
  obtain ⟨g, o, c, rfl, h1, h2, h3, h4⟩ := m1.z.here.lies (by decide)
  obtain ⟨a2, c2, rfl⟩ := m1.r.here.len
  exact ⟨g, o, c, a2, c2, rfl, h4 2 (by decide), h3, h1, h2, hb⟩
theorem outdent_known (w : World) (hE : Tg.Env w) : Calls Tryd.prog 26 #[.agg #[.int .i64 0, .slice none 0 0, .int .i64 0, .slice none 0 0]] w fun e w' =>
    ∃ a1 c1 a2 c2, e = .returned (.tuple #[.agg #[.int .i64 0, .slice a1 0 c1, .int .i64 0, .slice a2 0 c2], .int .i64 7]) ∧ Below w.heap.size w w' := by
  have hc := Outdent_any 0 0 _ _ [] [] w ⟨nilZ w, nilR w⟩ (by decide) (by decide) fair_nil hE
  rw [outdentA] at hc
  refine hc.mono ?_
  rintro e w' ⟨sl, sc, rfl, m1, hb⟩
  obtain ⟨a1, c1, rfl⟩ := m1.z.here.len
  obtain ⟨a2, c2, rfl⟩ := m1.r.here.len
  exact ⟨a1, c1, a2, c2, rfl, hb⟩
theorem list_known (v : Value) (w : World) (hE : Tg.Env w) (h : RowAt w v rowAB) : Calls Tryd.prog 28 #[.agg #[.int .i64 0, .slice none 0 0, .int .i64 2, v], .int .i64 1] w fun e w' =>
    ∃ a1 c1 a2 c2, e = .returned (.tuple #[.agg #[.int .i64 0, .slice a1 1 c1, .int .i64 0, .slice a2 2 c2], .int .i64 0]) ∧ Below w.heap.size w w' := by
  have hc := List_any 0 2 1 _ v [] rowAB w ⟨nilZ w, h⟩ (by decide) (by decide) fairAB hE
  rw [listA] at hc
  refine hc.mono ?_
  rintro e w' ⟨sl, sc, rfl, m1, hb⟩
  obtain ⟨a1, c1, rfl⟩ := m1.z.here.len
  obtain ⟨a2, c2, rfl⟩ := m1.r.here.len
  exact ⟨a1, c1, a2, c2, rfl, hb⟩
theorem may_known (v : Value) (w : World) (hE : Tg.Env w) (h : IntsAt w v [0]) : Calls Tryd.prog 12 #[.agg #[.int .i64 0, v, .int .i64 1, .slice none 0 0]] w fun e w' => e = .returned (.bool false) ∧ Below w.heap.size w w' := by
  have hc := lmay_any 0 1 v _ [0] [] w ⟨h, nilR w⟩ (by decide) (by decide) fair_nil hE
  rw [mayA] at hc
  exact hc

set_option maxRecDepth 20000 in
set_option maxHeartbeats 16000000 in
theorem awake_any (w : World) (hE : Tg.Env w) : Calls Tryd.prog 10 #[] w fun e w' => e = .returned (.bool true) ∧ Below w.heap.size w w' := by
  have cS := split_known
  have cI := indent_known
  have cO := outdent_known
  have cL := list_known
  have cM := may_known
  have HE := Lib.hid hE
  have HR : Hid (RowAt ((w.alloc (.cells #[.int .i32 97, .int .i64 0, .string ⟨#[]⟩, .int .i32 98, .int .i64 0, .string ⟨#[]⟩] 44)).alloc (.cells #[.int .i64 0, .slice none 0 0, .int .i64 2, .slice (some ⟨w.heap.size, 0, none⟩) 2 2] 25)) (.slice (some ⟨w.heap.size, 0, none⟩) 2 2) rowAB) :=
    Lib.hid ((lit_row w rowAB _ 2 rfl rfl (by decide) _).below ((Below.refl _ _).alloc (Nat.le_refl _) _))
  have HB : Hid (BoxAt ((w.alloc (.cells #[.int .i32 97, .int .i64 0, .string ⟨#[]⟩, .int .i32 98, .int .i64 0, .string ⟨#[]⟩] 44)).alloc (.cells #[.int .i64 0, .slice none 0 0, .int .i64 2, .slice (some ⟨w.heap.size, 0, none⟩) 2 2] 25)) (w.heap.size + 1) 0 (.slice none 0 0) 2 (.slice (some ⟨w.heap.size, 0, none⟩) 2 2)) := Lib.hid (by
    have h := box_new (w.alloc (.cells #[.int .i32 97, .int .i64 0, .string ⟨#[]⟩, .int .i32 98, .int .i64 0, .string ⟨#[]⟩] 44)) 0 2 (.slice none 0 0) (.slice (some ⟨w.heap.size, 0, none⟩) 2 2)
    rw [show (w.alloc (.cells #[.int .i32 97, .int .i64 0, .string ⟨#[]⟩, .int .i32 98, .int .i64 0, .string ⟨#[]⟩] 44)).heap.size = w.heap.size + 1 by simp] at h
    exact h)
  clear hE
  go_enter Tryd.func10, Tryd.ntmps10
  go_wp2_with (first
    | (go_at_call 20; ((with_reducible refine (cS _ _ ?he HR.out).mono ?_); (case he => exact HE.out.below (((Below.refl _ _).alloc (Nat.le_refl _) _).alloc (by simp) _)); rintro e w1 ⟨a1, c1, a2, c2, a3, c3, a4, c4, rfl, hb⟩; have bW := Lib.hid ((((Below.refl _ w).alloc (Nat.le_refl _) _).alloc (by simp) _).trans (hb.mono (by simp; omega))); have HB1 := Lib.hid (HB.out.below hb); have HR1 := Lib.hid (HR.out.below hb); have HE1 := Lib.hid (HE.out.below bW.out); have hs1 := HB1.out.lt; obtain ⟨_, x0, x1, x2, x3, _, _, _, _⟩ := HB1.out; clear hb HR HB))
    | (go_at_call 24; ((with_reducible refine (cI _ _ ?he ?hz).mono ?_); (case he => exact HE1.out.below (by (repeat (first | (with_reducible exact Below.refl _ _) | assumption | (with_reducible refine Below.drew ?_) | (with_reducible refine Below.alloc ?_ ?_ _) | omega | (simp <;> omega))))); (case hz => exact lit_intsA _ [0, 1] _ 2 _ (by simp) rfl rfl (by decide) _); rintro e w2 ⟨g, o, c, a5, c5, rfl, p1, p2, p3, p4, hb⟩; have bX := Lib.hid ((show Below w1.heap.size w1 _ by (repeat (first | (with_reducible exact Below.refl _ _) | assumption | (with_reducible refine Below.drew ?_) | (with_reducible refine Below.alloc ?_ ?_ _) | omega | (simp <;> omega)))).trans (hb.mono (by simp; omega))); have hs2 := bX.out.size; have HR2 := Lib.hid (HR1.out.below bX.out); have HE2 := Lib.hid (HE1.out.below bX.out); obtain ⟨hc2, hf2⟩ := bcell2 hb; have HB2 := Lib.hid (HB1.out.below bX.out); have P1 := Lib.hid p1; have k1 : w1.heap.size + 1 < w2.heap.size := (by have h := hb.size; simp at h; omega); have k2 : w1.heap.size < w2.heap.size := (by omega); have k3 : w.heap.size + 1 < w2.heap.size := (by omega); clear hb p1))
    | (go_at_call 26; ((with_reducible refine (cO _ ?he).mono ?_); (case he => exact HE2.out.below (by (repeat (first | (with_reducible exact Below.refl _ _) | assumption | (with_reducible refine Below.drew ?_) | (with_reducible refine Below.alloc ?_ ?_ _) | omega | (simp <;> omega))))); rintro e w3 ⟨a6, c6, a7, c7, rfl, hb⟩; have bY := Lib.hid ((show Below w2.heap.size w2 _ by (repeat (first | (with_reducible exact Below.refl _ _) | assumption | (with_reducible refine Below.drew ?_) | (with_reducible refine Below.alloc ?_ ?_ _) | omega | (simp <;> omega)))).trans (hb.mono (by simp))); have hs3 := bY.out.size; have HR3 := Lib.hid (HR2.out.below bY.out); have HE3 := Lib.hid (HE2.out.below bY.out); obtain ⟨hc3, hf3⟩ := bcell2 hb; have HB3 := Lib.hid (HB2.out.below bY.out); have m0 : w2.heap.size < w3.heap.size := (by have h := hb.size; simp at h; omega); have m1 : w1.heap.size + 1 < w3.heap.size := (by omega); have m2 : w1.heap.size < w3.heap.size := (by omega); have m3 : w.heap.size + 1 < w3.heap.size := (by omega); obtain ⟨_, z0, z1, z2, z3, _, _, _, _⟩ := HB3.out; clear hb))
    | (go_at_call 28; ((with_reducible refine (cL _ _ ?he ?hr).mono ?_); (case he => exact HE3.out.below (by (repeat (first | (with_reducible exact Below.refl _ _) | assumption | (with_reducible refine Below.drew ?_) | (with_reducible refine Below.alloc ?_ ?_ _) | omega | (simp <;> omega))))); (case hr => exact HR3.out.below (by (repeat (first | (with_reducible exact Below.refl _ _) | assumption | (with_reducible refine Below.drew ?_) | (with_reducible refine Below.alloc ?_ ?_ _) | omega | (simp <;> omega))))); rintro e w4 ⟨a8, c8, a9, c9, rfl, hb⟩; have bZ := Lib.hid ((show Below w3.heap.size w3 _ by (repeat (first | (with_reducible exact Below.refl _ _) | assumption | (with_reducible refine Below.drew ?_) | (with_reducible refine Below.alloc ?_ ?_ _) | omega | (simp <;> omega)))).trans (hb.mono (by simp))); have hs4 := bZ.out.size; have HE4 := Lib.hid (HE3.out.below bZ.out); obtain ⟨hc4, hf4⟩ := bcell2 hb; have n0 : w3.heap.size < w4.heap.size := (by have h := hb.size; simp at h; omega); have n1 : w2.heap.size < w4.heap.size := (by omega); have n2 : w1.heap.size + 1 < w4.heap.size := (by omega); have n3 : w1.heap.size < w4.heap.size := (by omega); have p1 : w4.cell? ⟨g, o + 2, none⟩ = some (.int .i64 1) := ((bY.out.trans (bZ.out.mono (by omega))).cell (p := ⟨g, o + 2, none⟩) p2).trans P1.out; have g4 : g < w4.heap.size := (by omega); clear hb))
    | (go_at_call 12; ((with_reducible refine (cM _ _ ?he ?hz).mono ?_); (case he => exact HE4.out.below (by (repeat (first | (with_reducible exact Below.refl _ _) | assumption | (with_reducible refine Below.drew ?_) | (with_reducible refine Below.alloc ?_ ?_ _) | omega | (simp <;> omega))))); (case hz => exact lit_intsA _ [0] _ 1 _ (by simp) rfl rfl (by decide) _); rintro e w5 ⟨rfl, hb⟩; have bU := Lib.hid ((show Below w4.heap.size w4 _ by (repeat (first | (with_reducible exact Below.refl _ _) | assumption | (with_reducible refine Below.drew ?_) | (with_reducible refine Below.alloc ?_ ?_ _) | omega | (simp <;> omega)))).trans (hb.mono (by simp; omega))); clear hb)))
  all_goals go_ret
  all_goals exact ⟨rfl, bW.out.trans ((bX.out.trans ((bY.out.trans ((bZ.out.trans (bU.out.mono (by omega))).mono (by omega))).mono (by omega))).mono (by omega))⟩

end Go.Proofs.YtmlipcedkgfmiaaDoor
