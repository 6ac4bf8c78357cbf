/-
  The chapter's examples that every statement of the layer asks for.
  Has a document more than the laws go through?
-/
import Derived.Test.YtafincmcmgedbaaGreatDoorCDocN
import Derived.Laws.StructEq
import Derived.Test.YtafincmcmgedbaaGreatDoorCDocD

namespace Go.Proofs.YtafincmcmgedbaaGreatDoor
open Go.RowKit Go.Lib

def rowAB : Row := [(97, 0, ⟨#[]⟩), (98, 0, ⟨#[]⟩)]
def rowC : Row := [(99, 0, ⟨#[]⟩)]
def exD : Doc := [⟨0, [], 0, rowAB⟩, ⟨0, [], 1, rowC⟩]
theorem exOff : offsetD exD (1, 0) = (3, 0) := by kernel_rfl
theorem exAt : atD exD 2 = ((0, 2), 0) := by kernel_rfl
theorem exStep : stepD exD (0, 1) (-3) = ((0, 0), false) := by kernel_rfl
theorem exDel : delP exD (0, 1) (1, 0) = ([⟨0, [], 0, [(97, 0, ⟨#[]⟩), (99, 0, ⟨#[]⟩)]⟩], 0) := by kernel_rfl
theorem exSplit : splitP exD (1, 1) = ([⟨0, [], 0, rowAB⟩, ⟨0, [], 1, rowC⟩, ⟨0, [], 0, []⟩], (2, 0), 0) := by kernel_rfl
theorem exSet : chD exD (0, 2) (1, 0) (setU 1 0) = ([], 7) := by kernel_rfl
theorem fairAB : Fair rowAB := fun k hk => by
  match k, hk with
  | 0, _ => decide
  | 1, _ => decide
theorem fairC : Fair rowC := fun k hk => by
  match k, hk with
  | 0, _ => decide
theorem exFine : Fine exD := ⟨by decide, fun x hx => by
  rcases List.mem_cons.1 hx with rfl | hx
  · exact ⟨by decide, by decide, fairAB⟩
  · obtain rfl := List.mem_singleton.1 hx
    exact ⟨by decide, by decide, fairC⟩, by decide⟩
theorem nilZ (w : World) : IntsAt w (.slice none 0 0) [] := .inl ⟨none, 0, rfl, fun _ => rfl, by decide, rfl⟩
theorem lit_row (w : World) (l : Row) (cs : Array Value) (n : Nat) (hcs : cs.toList = cellsR l) (hn : l.length = n) (hl : n ≤ 1000) (t : TypeId) : RowAt (w.alloc (.cells cs t)) (.slice (some ⟨w.heap.size, 0, none⟩) n n) l := by
  subst hn
  refine .inr ⟨w.heap.size, 0, l.length, rfl, Nat.le_refl _, by unfold maxLen; omega, by simp, Cells.of_flat (fun j u hu => ?_)⟩
  rw [Nat.zero_add]
  exact cell_blkZ (World.alloc_heap_new w _) j u (by rw [← Array.getElem?_toList, hcs]; exact hu)
def exL (b : Nat) : List Lw := [⟨none, 0, some ⟨b, 0, none⟩, 2, ⟨0, [], 0, rowAB⟩⟩, ⟨none, 0, some ⟨b + 1, 0, none⟩, 1, ⟨0, [], 1, rowC⟩⟩]
theorem ex_doc (w : World) : DocAt (((w.alloc (.cells #[.int .i32 97, .int .i64 0, .string ⟨#[]⟩, .int .i32 98, .int .i64 0, .string ⟨#[]⟩] 66)).alloc (.cells #[.int .i32 99, .int .i64 0, .string ⟨#[]⟩] 66)).alloc (.cells #[.int .i64 0, .slice none 0 0, .int .i64 0, .slice (some ⟨w.heap.size, 0, none⟩) 2 2, .int .i64 0, .slice none 0 0, .int .i64 1, .slice (some ⟨w.heap.size + 1, 0, none⟩) 1 1] 46)) (.slice (some ⟨w.heap.size + 2, 0, none⟩) 2 2) (exL w.heap.size) := by
  have h2 := two_line ((w.alloc (.cells #[.int .i32 97, .int .i64 0, .string ⟨#[]⟩, .int .i32 98, .int .i64 0, .string ⟨#[]⟩] 66)).alloc (.cells #[.int .i32 99, .int .i64 0, .string ⟨#[]⟩] 66)) ⟨none, 0, some ⟨w.heap.size, 0, none⟩, 2, ⟨0, [], 0, rowAB⟩⟩ ⟨none, 0, some ⟨w.heap.size + 1, 0, none⟩, 1, ⟨0, [], 1, rowC⟩⟩
  rw [show ((w.alloc (.cells #[.int .i32 97, .int .i64 0, .string ⟨#[]⟩, .int .i32 98, .int .i64 0, .string ⟨#[]⟩] 66)).alloc (.cells #[.int .i32 99, .int .i64 0, .string ⟨#[]⟩] 66)).heap.size = w.heap.size + 2 by simp] at h2
  refine ⟨h2, fun x hx => ?_⟩
  have r1 := lit_row w rowAB _ 2 rfl rfl (by decide) 66
  have r2 := lit_row (w.alloc (.cells #[.int .i32 97, .int .i64 0, .string ⟨#[]⟩, .int .i32 98, .int .i64 0, .string ⟨#[]⟩] 66)) rowC _ 1 rfl rfl (by decide) 66
  rw [show (w.alloc (.cells #[.int .i32 97, .int .i64 0, .string ⟨#[]⟩, .int .i32 98, .int .i64 0, .string ⟨#[]⟩] 66)).heap.size = w.heap.size + 1 by simp] at r2
  rcases List.mem_cons.1 hx with rfl | hx
  · exact ⟨nilZ _, (r1.below (below_alloc1 _ (.cells #[.int .i32 99, .int .i64 0, .string ⟨#[]⟩] 66))).below (below_alloc1 _ (.cells #[.int .i64 0, .slice none 0 0, .int .i64 0, .slice (some ⟨w.heap.size, 0, none⟩) 2 2, .int .i64 0, .slice none 0 0, .int .i64 1, .slice (some ⟨w.heap.size + 1, 0, none⟩) 1 1] 46))⟩
  · obtain rfl := List.mem_singleton.1 hx
    exact ⟨nilZ _, r2.below (below_alloc1 _ (.cells #[.int .i64 0, .slice none 0 0, .int .i64 0, .slice (some ⟨w.heap.size, 0, none⟩) 2 2, .int .i64 0, .slice none 0 0, .int .i64 1, .slice (some ⟨w.heap.size + 1, 0, none⟩) 1 1] 46))⟩
theorem del_known (v : Value) (l : List Lw) (w : World) (h : DocAt w v l) (hl : pl l = exD) (hE : Tg.Env w) : Calls Tryz.prog 38 #[v, psV (0, 1), psV (1, 0)] w fun e w' =>
    ∃ b o c ra rc, e = .returned (.tuple #[.slice (some ⟨b, o, none⟩) 1 c, .int .i64 0]) ∧ w'.cell? ⟨b, o + 3, none⟩ = some (.slice ra 2 rc) ∧ b < w'.heap.size ∧ (1 ≤ c ∧ c ≤ 2 ^ 63 - 1) ∧ Below w.heap.size w w' := by
  have hc := ddelete_any v l 0 1 1 0 w h (by rw [hl]; exact exFine) hE
  rw [hl, exDel] at hc
  refine hc.mono ?_
  rintro e w' ⟨v', r, rfl, ho, hp, hb⟩
  have hr : r.length = 1 := by rw [← pl_length, hp]; rfl
  obtain ⟨b, o, c, rfl, h1, h2, h3, h4⟩ := ho.at.s.lies (by omega)
  have h0 := h4 0 (by omega)
  have hx : (r[0]!).ln = ⟨0, [], 0, [(97, 0, ⟨#[]⟩), (99, 0, ⟨#[]⟩)]⟩ := by rw [← pl_get r 0 (by omega), hp]; rfl
  have h03 := h0.2.2.2
  unfold Lw.sc at h03
  rw [hx] at h03
  rw [hr] at h1 ⊢
  exact ⟨b, o, c, _, _, rfl, h03, h3, ⟨h1, h2⟩, hb⟩
theorem split_known (v : Value) (l : List Lw) (w : World) (h : DocAt w v l) (hl : pl l = exD) (hE : Tg.Env w) : Calls Tryz.prog 42 #[v, psV (1, 1)] w fun e w' =>
    ∃ b o c, e = .returned (.tuple #[.slice (some ⟨b, o, none⟩) 3 c, psV (2, 0), .int .i64 0]) ∧ w'.cell? ⟨b, o + 10, none⟩ = some (.int .i64 0) ∧ b < w'.heap.size ∧ 3 ≤ c ∧ c ≤ 2 ^ 63 - 1 ∧ Below w.heap.size w w' := by
  have hc := dsplit_any v l 1 1 w h (by rw [hl]; exact exFine) hE
  rw [hl, exSplit] at hc
  refine hc.mono ?_
  rintro e w' ⟨v', r, rfl, ho, hp, hb⟩
  have hr : r.length = 3 := by rw [← pl_length, hp]; rfl
  obtain ⟨b, o, c, rfl, h1, h2, h3, h4⟩ := ho.at.s.lies (by omega)
  have h0 := (h4 2 (by omega)).2.2.1
  have hx : (r[2]!).ln = ⟨0, [], 0, []⟩ := by rw [← pl_get r 2 (by omega), hp]; rfl
  rw [hx] at h0
  rw [hr] at h1 ⊢
  exact ⟨b, o, c, rfl, h0, h3, h1, h2, hb⟩
theorem set_known (v : Value) (l : List Lw) (w : World) (h : DocAt w v l) (hl : pl l = exD) (hE : Tg.Env w) : Calls Tryz.prog 45 #[v, psV (0, 2), psV (1, 0), .int .i64 1, .int .i64 0] w fun e w' =>
    ∃ v', e = .returned (.tuple #[v', .int .i64 7]) ∧ Below w.heap.size w w' := by
  have hc := dset_any v l 0 2 1 0 1 0 w h (by rw [hl]; exact exFine) hE
  rw [hl, exSet] at hc
  refine hc.mono ?_
  rintro e w' ⟨v', r, rfl, ho, hp, hb⟩
  exact ⟨v', rfl, hb⟩

set_option maxRecDepth 40000 in
set_option maxHeartbeats 32000000 in
theorem awake_any (w : World) (hE : Tg.Env w) : Calls Tryz.prog 11 #[] w fun e w' => e = .returned (.bool true) ∧ Below w.heap.size w w' := by
  have hS : Tryz.prog.underlying 24 = some (.struct (Tryz.prog.fieldsOf 24)) := by kernel_rfl
  have hp : Tryz.prog.stoodInHeld 24 = false := by kernel_rfl
  have hq : ∀ (a b c d : Int) (W : World), (binOp .eql 24 (.agg #[.int .i64 a, .int .i64 b]) (.agg #[.int .i64 c, .int .i64 d])).run Tryz.prog W = .ok (.bool (decide (a = c) && decide (b = d))) W := fun a b c d W => by
    rw [run_eql_struct, show (10000 : Nat) = 9999 + 1 from rfl, run_equalIn_agg W 9999 24 _ _ hS hp]
    simp only [Program.fieldsOf, Tryz.underlying24]
    go_simp
    by_cases k1 : a = c <;> by_cases k2 : b = d <;> simp_all
  have hm : Tryz.prog.eqGuardType Tryz.prog.depth 24 = false := by kernel_rfl
  have hD := ex_doc w
  have hB3 : Below w.heap.size w (((w.alloc (.cells #[.int .i32 97, .int .i64 0, .string ⟨#[]⟩, .int .i32 98, .int .i64 0, .string ⟨#[]⟩] 66)).alloc (.cells #[.int .i32 99, .int .i64 0, .string ⟨#[]⟩] 66)).alloc (.cells #[.int .i64 0, .slice none 0 0, .int .i64 0, .slice (some ⟨w.heap.size, 0, none⟩) 2 2, .int .i64 0, .slice none 0 0, .int .i64 1, .slice (some ⟨w.heap.size + 1, 0, none⟩) 1 1] 46)) := (((Below.refl _ w).alloc (Nat.le_refl _) _).alloc (by simp) _).alloc (by simp; omega) _
  have hE3 := hE.below hB3
  have hpl : pl (exL w.heap.size) = exD := rfl
  obtain ⟨W3, hW3⟩ : ∃ W3, (((w.alloc (.cells #[.int .i32 97, .int .i64 0, .string ⟨#[]⟩, .int .i32 98, .int .i64 0, .string ⟨#[]⟩] 66)).alloc (.cells #[.int .i32 99, .int .i64 0, .string ⟨#[]⟩] 66)).alloc (.cells #[.int .i64 0, .slice none 0 0, .int .i64 0, .slice (some ⟨w.heap.size, 0, none⟩) 2 2, .int .i64 0, .slice none 0 0, .int .i64 1, .slice (some ⟨w.heap.size + 1, 0, none⟩) 1 1] 46)) = W3 := ⟨_, rfl⟩
  rw [hW3] at hD hB3 hE3
  have cO : ∀ w1, Below W3.heap.size W3 w1 → _ := fun w1 h1 => doffset_any _ (exL w.heap.size) 1 0 w1 (hD.s.below h1) (by simp [exL]) (by rw [hpl]; decide)
  have cA : ∀ w1, Below W3.heap.size W3 w1 → _ := fun w1 h1 => dat_any _ (exL w.heap.size) 2 w1 (hD.s.below h1) (by simp [exL]) (by rw [hpl]; exact fun k hk => Fine.cnt (l := exL w.heap.size) (by rw [hpl]; exact exFine) k hk) (by decide)
  have cS : ∀ w1, Below W3.heap.size W3 w1 → _ := fun w1 h1 => dstep_any _ (exL w.heap.size) 0 1 (-3) w1 (hD.s.below h1) (by rw [hpl]; exact exFine) (by decide) (by decide)
  have cD : ∀ w1, Below W3.heap.size W3 w1 → _ := fun w1 h1 => del_known _ (exL w.heap.size) w1 (hD.below h1) hpl (hE3.below h1)
  have cP : ∀ w1, Below W3.heap.size W3 w1 → _ := fun w1 h1 => split_known _ (exL w.heap.size) w1 (hD.below h1) hpl (hE3.below h1)
  have cT : ∀ w1, Below W3.heap.size W3 w1 → _ := fun w1 h1 => set_known _ (exL w.heap.size) w1 (hD.below h1) hpl (hE3.below h1)
  rw [hpl] at cO cA cS
  rw [exOff] at cO
  rw [exAt] at cA
  rw [exStep] at cS
  unfold errZ at cA
  unfold psV at cO cA cS cD cP cT
  dsimp only at cO cA cS cD cP cT
  have HW := Lib.hid hW3
  have HB := Lib.hid hB3
  have hb := Lib.hid (Below.refl W3.heap.size W3)
  clear hE hS hp hD hE3 hpl hW3 hB3
  go_enter Tryz.func11, Tryz.ntmps11
  go_upto_region 2 with fail
  rw [HW.out]
  go_wp2_with (first
    | (go_at_call 25; ((with_reducible refine (cO _ ?hb).mono ?_); (case hb => (repeat (first | (with_reducible exact hb.out) | (with_reducible exact Below.refl _ _) | (with_reducible refine Below.drew ?_) | (with_reducible refine Below.alloc ?_ ?_ _) | omega | (simp <;> omega)))); rintro e w1 ⟨rfl, hk⟩; have hd := Lib.hid ((show Below W3.heap.size W3 _ by (repeat (first | (with_reducible exact hb.out) | (with_reducible exact Below.refl _ _) | (with_reducible refine Below.drew ?_) | (with_reducible refine Below.alloc ?_ ?_ _) | omega | (simp <;> omega)))).trans (hk.mono (by (first | omega | (simp; done) | (simp; omega))))); skip; clear hb; have hb := hd; have hsw1 := hb.out.size; clear hd hk))
    | (go_at_call 27; ((with_reducible refine (cA _ ?hb).mono ?_); (case hb => (repeat (first | (with_reducible exact hb.out) | (with_reducible exact Below.refl _ _) | (with_reducible refine Below.drew ?_) | (with_reducible refine Below.alloc ?_ ?_ _) | omega | (simp <;> omega)))); rintro e w2 ⟨rfl, hk⟩; have hd := Lib.hid ((show Below W3.heap.size W3 _ by (repeat (first | (with_reducible exact hb.out) | (with_reducible exact Below.refl _ _) | (with_reducible refine Below.drew ?_) | (with_reducible refine Below.alloc ?_ ?_ _) | omega | (simp <;> omega)))).trans (hk.mono (by (first | omega | (simp; done) | (simp; omega))))); skip; clear hb; have hb := hd; have hsw2 := hb.out.size; clear hd hk))
    | (go_at_call 29; ((with_reducible refine (cS _ ?hb).mono ?_); (case hb => (repeat (first | (with_reducible exact hb.out) | (with_reducible exact Below.refl _ _) | (with_reducible refine Below.drew ?_) | (with_reducible refine Below.alloc ?_ ?_ _) | omega | (simp <;> omega)))); rintro e w3 ⟨rfl, hk⟩; have hd := Lib.hid ((show Below W3.heap.size W3 _ by (repeat (first | (with_reducible exact hb.out) | (with_reducible exact Below.refl _ _) | (with_reducible refine Below.drew ?_) | (with_reducible refine Below.alloc ?_ ?_ _) | omega | (simp <;> omega)))).trans (hk.mono (by (first | omega | (simp; done) | (simp; omega))))); have P1 := Lib.hid ((ps_new w2 0 2).below hk); clear hb; have hb := hd; have hsw3 := hb.out.size; clear hd hk))
    | (go_at_call 38; ((with_reducible refine (cD _ ?hb).mono ?_); (case hb => (repeat (first | (with_reducible exact hb.out) | (with_reducible exact Below.refl _ _) | (with_reducible refine Below.drew ?_) | (with_reducible refine Below.alloc ?_ ?_ _) | omega | (simp <;> omega)))); rintro e w4 ⟨b4, o4, c4, ra, rc, rfl, d3, hb4, hc4, hk⟩; have hd := Lib.hid ((show Below W3.heap.size W3 _ by (repeat (first | (with_reducible exact hb.out) | (with_reducible exact Below.refl _ _) | (with_reducible refine Below.drew ?_) | (with_reducible refine Below.alloc ?_ ?_ _) | omega | (simp <;> omega)))).trans (hk.mono (by (first | omega | (simp; done) | (simp; omega))))); have P2 := Lib.hid ((ps_new w3 0 0).below hk); have Q1 := Lib.hid (P1.out.below ((below_alloc1 w3 _).trans (hk.mono (by simp)))); have D3 := Lib.hid d3; clear d3 P1; clear hb; have hb := hd; have hsw4 := hb.out.size; clear hd hk))
    | (go_at_call 42; ((with_reducible refine (cP _ ?hb).mono ?_); (case hb => (repeat (first | (with_reducible exact hb.out) | (with_reducible exact Below.refl _ _) | (with_reducible refine Below.drew ?_) | (with_reducible refine Below.alloc ?_ ?_ _) | omega | (simp <;> omega)))); rintro e w5 ⟨b5, o5, c5, rfl, s2, hb5, hc5, hc5b, hk⟩; have hd := Lib.hid ((show Below W3.heap.size W3 _ by (repeat (first | (with_reducible exact hb.out) | (with_reducible exact Below.refl _ _) | (with_reducible refine Below.drew ?_) | (with_reducible refine Below.alloc ?_ ?_ _) | omega | (simp <;> omega)))).trans (hk.mono (by (first | omega | (simp; done) | (simp; omega))))); have R1 := Lib.hid (Q1.out.below hk); have R2 := Lib.hid (P2.out.below hk); have D4 := Lib.hid ((hk.cell (p := ⟨b4, o4 + 3, none⟩) hb4).trans D3.out); have S2 := Lib.hid s2; have hb4' := Nat.lt_of_lt_of_le hb4 hk.size; clear s2 D3 P2 Q1; clear hb; have hb := hd; have hsw5 := hb.out.size; clear hd hk))
    | (go_at_call 45; ((with_reducible refine (cT _ ?hb).mono ?_); (case hb => (repeat (first | (with_reducible exact hb.out) | (with_reducible exact Below.refl _ _) | (with_reducible refine Below.drew ?_) | (with_reducible refine Below.alloc ?_ ?_ _) | omega | (simp <;> omega)))); rintro e w6 ⟨v6, rfl, hk⟩; have hd := Lib.hid ((show Below W3.heap.size W3 _ by (repeat (first | (with_reducible exact hb.out) | (with_reducible exact Below.refl _ _) | (with_reducible refine Below.drew ?_) | (with_reducible refine Below.alloc ?_ ?_ _) | omega | (simp <;> omega)))).trans (hk.mono (by (first | omega | (simp; done) | (simp; omega))))); have hj := ((below_alloc1 w5 _).trans (hk.mono (by simp))); have T3 := (ps_new w5 2 0).below hk; have T1 := R1.out.below hj; have T2 := R2.out.below hj; have D5 := (hj.cell (p := ⟨b4, o4 + 3, none⟩) hb4').trans D4.out; have S3 := (hj.cell (p := ⟨b5, o5 + 10, none⟩) hb5).trans S2.out; obtain ⟨_, x0, x1, _, _⟩ := T1; obtain ⟨_, y0, y1, _, _⟩ := T2; obtain ⟨_, z0, z1, _, _⟩ := T3; clear hj R1 R2 D4 S2; clear hb; have hb := hd; have hsw6 := hb.out.size; clear hd hk)))
  all_goals go_ret
  all_goals exact ⟨rfl, HB.out.trans (hb.out.mono HB.out.size)⟩

end Go.Proofs.YtafincmcmgedbaaGreatDoor

namespace Go.Proofs.YtafincmcmgedbaaGreatDoor
open Go.RowKit Go.Lib

theorem llong_any (v : Value) (l : List Lw) (w : World) (h : DocAt w v l) (hs : SizedD l) :
    Calls Tryz.prog 10 #[v] w fun e w' => e = .returned (.bool (longD (pl l))) ∧ Below w.heap.size w w' := by
  obtain ⟨a, c, rfl⟩ := h.s.len
  have cL := dlong_any _ l w h hs
  clear h hs
  go_enter Tryz.func10, Tryz.ntmps10
  go_wp2_with (go_at_call 59; ((with_reducible refine cL.mono ?_); rintro e w1 ⟨rfl, z, rfl⟩))
  go_ret
  exact ⟨rfl, below_draws w z⟩

end Go.Proofs.YtafincmcmgedbaaGreatDoor
