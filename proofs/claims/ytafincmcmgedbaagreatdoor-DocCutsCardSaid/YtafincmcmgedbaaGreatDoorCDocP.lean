/-
  The chapter's examples that every statement of the layer asks for.
  Has a document more than the laws go through?
  Lines of one's own, put behind lines of one's own; the document's Own, of no lines too.
  The document's Delete.
-/
import Derived.Test.YtafincmcmgedbaaGreatDoorCDocN
import Derived.Laws.StructEq
import Derived.Test.YtafincmcmgedbaaGreatDoorCDocD
import Derived.Laws.OwnMore
import Derived.Deep.AppendLies
import Derived.Deep.RegionHeld3

namespace Go.Proofs.YtafincmcmgedbaaGreatDoor
open Go.RowKit Go.Lib

def rowAB : Row := [(97, 0, ⟨#[]⟩), (98, 0, ⟨#[]⟩)]
def rowC : Row := [(99, 0, ⟨#[]⟩)]
def exD : Doc := [⟨0, [], 0, rowAB⟩, ⟨0, [], 1, rowC⟩]
theorem exOff : offsetD exD (1, 0) = (3, 0) := by kernel_rfl
theorem exAt : atD exD 2 = ((0, 2), 0) := by kernel_rfl
theorem exStep : stepD exD (0, 1) (-3) = ((0, 0), false) := by kernel_rfl
theorem exDel : delP exD (0, 1) (1, 0) = ([⟨0, [], 0, [(97, 0, ⟨#[]⟩), (99, 0, ⟨#[]⟩)]⟩], 0) := by kernel_rfl
theorem exSplit : splitP exD (1, 1) = ([⟨0, [], 0, rowAB⟩, ⟨0, [], 1, rowC⟩, ⟨0, [], 0, []⟩], (2, 0), 0) := by kernel_rfl
theorem exSet : chD exD (0, 2) (1, 0) (setU 1 0) = ([], 7) := by kernel_rfl
theorem fairAB : Fair rowAB := fun k hk => by
  match k, hk with
  | 0, _ => decide
  | 1, _ => decide
theorem fairC : Fair rowC := fun k hk => by
  match k, hk with
  | 0, _ => decide
theorem exFine : Fine exD := ⟨by decide, fun x hx => by
  rcases List.mem_cons.1 hx with rfl | hx
  · exact ⟨by decide, by decide, fairAB⟩
  · obtain rfl := List.mem_singleton.1 hx
    exact ⟨by decide, by decide, fairC⟩, by decide⟩
theorem nilZ (w : World) : IntsAt w (.slice none 0 0) [] := .inl ⟨none, 0, rfl, fun _ => rfl, by decide, rfl⟩
theorem lit_row (w : World) (l : Row) (cs : Array Value) (n : Nat) (hcs : cs.toList = cellsR l) (hn : l.length = n) (hl : n ≤ 1000) (t : TypeId) : RowAt (w.alloc (.cells cs t)) (.slice (some ⟨w.heap.size, 0, none⟩) n n) l := by
  subst hn
  refine .inr ⟨w.heap.size, 0, l.length, rfl, Nat.le_refl _, by unfold maxLen; omega, by simp, Cells.of_flat (fun j u hu => ?_)⟩
  rw [Nat.zero_add]
  exact cell_blkZ (World.alloc_heap_new w _) j u (by rw [← Array.getElem?_toList, hcs]; exact hu)
def exL (b : Nat) : List Lw := [⟨none, 0, some ⟨b, 0, none⟩, 2, ⟨0, [], 0, rowAB⟩⟩, ⟨none, 0, some ⟨b + 1, 0, none⟩, 1, ⟨0, [], 1, rowC⟩⟩]
theorem ex_doc (w : World) : DocAt (((w.alloc (.cells #[.int .i32 97, .int .i64 0, .string ⟨#[]⟩, .int .i32 98, .int .i64 0, .string ⟨#[]⟩] 66)).alloc (.cells #[.int .i32 99, .int .i64 0, .string ⟨#[]⟩] 66)).alloc (.cells #[.int .i64 0, .slice none 0 0, .int .i64 0, .slice (some ⟨w.heap.size, 0, none⟩) 2 2, .int .i64 0, .slice none 0 0, .int .i64 1, .slice (some ⟨w.heap.size + 1, 0, none⟩) 1 1] 46)) (.slice (some ⟨w.heap.size + 2, 0, none⟩) 2 2) (exL w.heap.size) := by
  have h2 := two_line ((w.alloc (.cells #[.int .i32 97, .int .i64 0, .string ⟨#[]⟩, .int .i32 98, .int .i64 0, .string ⟨#[]⟩] 66)).alloc (.cells #[.int .i32 99, .int .i64 0, .string ⟨#[]⟩] 66)) ⟨none, 0, some ⟨w.heap.size, 0, none⟩, 2, ⟨0, [], 0, rowAB⟩⟩ ⟨none, 0, some ⟨w.heap.size + 1, 0, none⟩, 1, ⟨0, [], 1, rowC⟩⟩
  rw [show ((w.alloc (.cells #[.int .i32 97, .int .i64 0, .string ⟨#[]⟩, .int .i32 98, .int .i64 0, .string ⟨#[]⟩] 66)).alloc (.cells #[.int .i32 99, .int .i64 0, .string ⟨#[]⟩] 66)).heap.size = w.heap.size + 2 by simp] at h2
  refine ⟨h2, fun x hx => ?_⟩
  have r1 := lit_row w rowAB _ 2 rfl rfl (by decide) 66
  have r2 := lit_row (w.alloc (.cells #[.int .i32 97, .int .i64 0, .string ⟨#[]⟩, .int .i32 98, .int .i64 0, .string ⟨#[]⟩] 66)) rowC _ 1 rfl rfl (by decide) 66
  rw [show (w.alloc (.cells #[.int .i32 97, .int .i64 0, .string ⟨#[]⟩, .int .i32 98, .int .i64 0, .string ⟨#[]⟩] 66)).heap.size = w.heap.size + 1 by simp] at r2
  rcases List.mem_cons.1 hx with rfl | hx
  · exact ⟨nilZ _, (r1.below (below_alloc1 _ (.cells #[.int .i32 99, .int .i64 0, .string ⟨#[]⟩] 66))).below (below_alloc1 _ (.cells #[.int .i64 0, .slice none 0 0, .int .i64 0, .slice (some ⟨w.heap.size, 0, none⟩) 2 2, .int .i64 0, .slice none 0 0, .int .i64 1, .slice (some ⟨w.heap.size + 1, 0, none⟩) 1 1] 46))⟩
  · obtain rfl := List.mem_singleton.1 hx
    exact ⟨nilZ _, r2.below (below_alloc1 _ (.cells #[.int .i64 0, .slice none 0 0, .int .i64 0, .slice (some ⟨w.heap.size, 0, none⟩) 2 2, .int .i64 0, .slice none 0 0, .int .i64 1, .slice (some ⟨w.heap.size + 1, 0, none⟩) 1 1] 46))⟩
theorem del_known (v : Value) (l : List Lw) (w : World) (h : DocAt w v l) (hl : pl l = exD) (hE : Tg.Env w) : Calls Tryz.prog 38 #[v, psV (0, 1), psV (1, 0)] w fun e w' =>
    ∃ b o c ra rc, e = .returned (.tuple #[.slice (some ⟨b, o, none⟩) 1 c, .int .i64 0]) ∧ w'.cell? ⟨b, o + 3, none⟩ = some (.slice ra 2 rc) ∧ b < w'.heap.size ∧ (1 ≤ c ∧ c ≤ 2 ^ 63 - 1) ∧ Below w.heap.size w w' := by
  have hc := ddelete_any v l 0 1 1 0 w h (by rw [hl]; exact exFine) hE
  rw [hl, exDel] at hc
  refine hc.mono ?_
  rintro e w' ⟨v', r, rfl, ho, hp, hb⟩
  have hr : r.length = 1 := by rw [← pl_length, hp]; rfl
  obtain ⟨b, o, c, rfl, h1, h2, h3, h4⟩ := ho.at.s.lies (by omega)
  have h0 := h4 0 (by omega)
  have hx : (r[0]!).ln = ⟨0, [], 0, [(97, 0, ⟨#[]⟩), (99, 0, ⟨#[]⟩)]⟩ := by rw [← pl_get r 0 (by omega), hp]; rfl
  have h03 := h0.2.2.2
  unfold Lw.sc at h03
  rw [hx] at h03
  rw [hr] at h1 ⊢
  exact ⟨b, o, c, _, _, rfl, h03, h3, ⟨h1, h2⟩, hb⟩
theorem split_known (v : Value) (l : List Lw) (w : World) (h : DocAt w v l) (hl : pl l = exD) (hE : Tg.Env w) : Calls Tryz.prog 42 #[v, psV (1, 1)] w fun e w' =>
    ∃ b o c, e = .returned (.tuple #[.slice (some ⟨b, o, none⟩) 3 c, psV (2, 0), .int .i64 0]) ∧ w'.cell? ⟨b, o + 10, none⟩ = some (.int .i64 0) ∧ b < w'.heap.size ∧ 3 ≤ c ∧ c ≤ 2 ^ 63 - 1 ∧ Below w.heap.size w w' := by
  have hc := dsplit_any v l 1 1 w h (by rw [hl]; exact exFine) hE
  rw [hl, exSplit] at hc
  refine hc.mono ?_
  rintro e w' ⟨v', r, rfl, ho, hp, hb⟩
  have hr : r.length = 3 := by rw [← pl_length, hp]; rfl
  obtain ⟨b, o, c, rfl, h1, h2, h3, h4⟩ := ho.at.s.lies (by omega)
  have h0 := (h4 2 (by omega)).2.2.1
  have hx : (r[2]!).ln = ⟨0, [], 0, []⟩ := by rw [← pl_get r 2 (by omega), hp]; rfl
  rw [hx] at h0
  rw [hr] at h1 ⊢
  exact ⟨b, o, c, rfl, h0, h3, h1, h2, hb⟩
theorem set_known (v : Value) (l : List Lw) (w : World) (h : DocAt w v l) (hl : pl l = exD) (hE : Tg.Env w) : Calls Tryz.prog 45 #[v, psV (0, 2), psV (1, 0), .int .i64 1, .int .i64 0] w fun e w' =>
    ∃ v', e = .returned (.tuple #[v', .int .i64 7]) ∧ Below w.heap.size w w' := by
  have hc := dset_any v l 0 2 1 0 1 0 w h (by rw [hl]; exact exFine) hE
  rw [hl, exSet] at hc
  refine hc.mono ?_
  rintro e w' ⟨v', r, rfl, ho, hp, hb⟩
  exact ⟨v', rfl, hb⟩

set_option maxRecDepth 40000 in
set_option maxHeartbeats 32000000 in
theorem awake_any (w : World) (hE : Tg.Env w) : Calls Tryz.prog 11 #[] w fun e w' => e = .returned (.bool true) ∧ Below w.heap.size w w' := by
  have hS : Tryz.prog.underlying 24 = some (.struct (Tryz.prog.fieldsOf 24)) := by kernel_rfl
  have hp : Tryz.prog.stoodInHeld 24 = false := by kernel_rfl
  have hq : ∀ (a b c d : Int) (W : World), (binOp .eql 24 (.agg #[.int .i64 a, .int .i64 b]) (.agg #[.int .i64 c, .int .i64 d])).run Tryz.prog W = .ok (.bool (decide (a = c) && decide (b = d))) W := fun a b c d W => by
    rw [run_eql_struct, show (10000 : Nat) = 9999 + 1 from rfl, run_equalIn_agg W 9999 24 _ _ hS hp]
    simp only [Program.fieldsOf, Tryz.underlying24]
    go_simp
    by_cases k1 : a = c <;> by_cases k2 : b = d <;> simp_all
  have hm : Tryz.prog.eqGuardType Tryz.prog.depth 24 = false := by kernel_rfl
  have hD := ex_doc w
  have hB3 : Below w.heap.size w (((w.alloc (.cells #[.int .i32 97, .int .i64 0, .string ⟨#[]⟩, .int .i32 98, .int .i64 0, .string ⟨#[]⟩] 66)).alloc (.cells #[.int .i32 99, .int .i64 0, .string ⟨#[]⟩] 66)).alloc (.cells #[.int .i64 0, .slice none 0 0, .int .i64 0, .slice (some ⟨w.heap.size, 0, none⟩) 2 2, .int .i64 0, .slice none 0 0, .int .i64 1, .slice (some ⟨w.heap.size + 1, 0, none⟩) 1 1] 46)) := (((Below.refl _ w).alloc (Nat.le_refl _) _).alloc (by simp) _).alloc (by simp; omega) _
  have hE3 := hE.below hB3
  have hpl : pl (exL w.heap.size) = exD := rfl
  obtain ⟨W3, hW3⟩ : ∃ W3, (((w.alloc (.cells #[.int .i32 97, .int .i64 0, .string ⟨#[]⟩, .int .i32 98, .int .i64 0, .string ⟨#[]⟩] 66)).alloc (.cells #[.int .i32 99, .int .i64 0, .string ⟨#[]⟩] 66)).alloc (.cells #[.int .i64 0, .slice none 0 0, .int .i64 0, .slice (some ⟨w.heap.size, 0, none⟩) 2 2, .int .i64 0, .slice none 0 0, .int .i64 1, .slice (some ⟨w.heap.size + 1, 0, none⟩) 1 1] 46)) = W3 := ⟨_, rfl⟩
  rw [hW3] at hD hB3 hE3
  have cO : ∀ w1, Below W3.heap.size W3 w1 → _ := fun w1 h1 => doffset_any _ (exL w.heap.size) 1 0 w1 (hD.s.below h1) (by simp [exL]) (by rw [hpl]; decide)
  have cA : ∀ w1, Below W3.heap.size W3 w1 → _ := fun w1 h1 => dat_any _ (exL w.heap.size) 2 w1 (hD.s.below h1) (by simp [exL]) (by rw [hpl]; exact fun k hk => Fine.cnt (l := exL w.heap.size) (by rw [hpl]; exact exFine) k hk) (by decide)
  have cS : ∀ w1, Below W3.heap.size W3 w1 → _ := fun w1 h1 => dstep_any _ (exL w.heap.size) 0 1 (-3) w1 (hD.s.below h1) (by rw [hpl]; exact exFine) (by decide) (by decide)
  have cD : ∀ w1, Below W3.heap.size W3 w1 → _ := fun w1 h1 => del_known _ (exL w.heap.size) w1 (hD.below h1) hpl (hE3.below h1)
  have cP : ∀ w1, Below W3.heap.size W3 w1 → _ := fun w1 h1 => split_known _ (exL w.heap.size) w1 (hD.below h1) hpl (hE3.below h1)
  have cT : ∀ w1, Below W3.heap.size W3 w1 → _ := fun w1 h1 => set_known _ (exL w.heap.size) w1 (hD.below h1) hpl (hE3.below h1)
  rw [hpl] at cO cA cS
  rw [exOff] at cO
  rw [exAt] at cA
  rw [exStep] at cS
  unfold errZ at cA
  unfold psV at cO cA cS cD cP cT
  dsimp only at cO cA cS cD cP cT
  have HW := Lib.hid hW3
  have HB := Lib.hid hB3
  have hb := Lib.hid (Below.refl W3.heap.size W3)
  clear hE hS hp hD hE3 hpl hW3 hB3
  go_enter Tryz.func11, Tryz.ntmps11
  go_upto_region 2 with fail
  rw [HW.out]
  go_wp2_with (first
    | (go_at_call 25; ((with_reducible refine (cO _ ?hb).mono ?_); (case hb => (repeat (first | (with_reducible exact hb.out) | (with_reducible exact Below.refl _ _) | (with_reducible refine Below.drew ?_) | (with_reducible refine Below.alloc ?_ ?_ _) | omega | (simp <;> omega)))); rintro e w1 ⟨rfl, hk⟩; have hd := Lib.hid ((show Below W3.heap.size W3 _ by (repeat (first | (with_reducible exact hb.out) | (with_reducible exact Below.refl _ _) | (with_reducible refine Below.drew ?_) | (with_reducible refine Below.alloc ?_ ?_ _) | omega | (simp <;> omega)))).trans (hk.mono (by (first | omega | (simp; done) | (simp; omega))))); skip; clear hb; have hb := hd; have hsw1 := hb.out.size; clear hd hk))
    | (go_at_call 27; ((with_reducible refine (cA _ ?hb).mono ?_); (case hb => (repeat (first | (with_reducible exact hb.out) | (with_reducible exact Below.refl _ _) | (with_reducible refine Below.drew ?_) | (with_reducible refine Below.alloc ?_ ?_ _) | omega | (simp <;> omega)))); rintro e w2 ⟨rfl, hk⟩; have hd := Lib.hid ((show Below W3.heap.size W3 _ by (repeat (first | (with_reducible exact hb.out) | (with_reducible exact Below.refl _ _) | (with_reducible refine Below.drew ?_) | (with_reducible refine Below.alloc ?_ ?_ _) | omega | (simp <;> omega)))).trans (hk.mono (by (first | omega | (simp; done) | (simp; omega))))); skip; clear hb; have hb := hd; have hsw2 := hb.out.size; clear hd hk))
    | (go_at_call 29; ((with_reducible refine (cS _ ?hb).mono ?_); (case hb => (repeat (first | (with_reducible exact hb.out) | (with_reducible exact Below.refl _ _) | (with_reducible refine Below.drew ?_) | (with_reducible refine Below.alloc ?_ ?_ _) | omega | (simp <;> omega)))); rintro e w3 ⟨rfl, hk⟩; have hd := Lib.hid ((show Below W3.heap.size W3 _ by (repeat (first | (with_reducible exact hb.out) | (with_reducible exact Below.refl _ _) | (with_reducible refine Below.drew ?_) | (with_reducible refine Below.alloc ?_ ?_ _) | omega | (simp <;> omega)))).trans (hk.mono (by (first | omega | (simp; done) | (simp; omega))))); have P1 := Lib.hid ((ps_new w2 0 2).below hk); clear hb; have hb := hd; have hsw3 := hb.out.size; clear hd hk))
    | (go_at_call 38; ((with_reducible refine (cD _ ?hb).mono ?_); (case hb => (repeat (first | (with_reducible exact hb.out) | (with_reducible exact Below.refl _ _) | (with_reducible refine Below.drew ?_) | (with_reducible refine Below.alloc ?_ ?_ _) | omega | (simp <;> omega)))); rintro e w4 ⟨b4, o4, c4, ra, rc, rfl, d3, hb4, hc4, hk⟩; have hd := Lib.hid ((show Below W3.heap.size W3 _ by (repeat (first | (with_reducible exact hb.out) | (with_reducible exact Below.refl _ _) | (with_reducible refine Below.drew ?_) | (with_reducible refine Below.alloc ?_ ?_ _) | omega | (simp <;> omega)))).trans (hk.mono (by (first | omega | (simp; done) | (simp; omega))))); have P2 := Lib.hid ((ps_new w3 0 0).below hk); have Q1 := Lib.hid (P1.out.below ((below_alloc1 w3 _).trans (hk.mono (by simp)))); have D3 := Lib.hid d3; clear d3 P1; clear hb; have hb := hd; have hsw4 := hb.out.size; clear hd hk))
    | (go_at_call 42; ((with_reducible refine (cP _ ?hb).mono ?_); (case hb => (repeat (first | (with_reducible exact hb.out) | (with_reducible exact Below.refl _ _) | (with_reducible refine Below.drew ?_) | (with_reducible refine Below.alloc ?_ ?_ _) | omega | (simp <;> omega)))); rintro e w5 ⟨b5, o5, c5, rfl, s2, hb5, hc5, hc5b, hk⟩; have hd := Lib.hid ((show Below W3.heap.size W3 _ by (repeat (first | (with_reducible exact hb.out) | (with_reducible exact Below.refl _ _) | (with_reducible refine Below.drew ?_) | (with_reducible refine Below.alloc ?_ ?_ _) | omega | (simp <;> omega)))).trans (hk.mono (by (first | omega | (simp; done) | (simp; omega))))); have R1 := Lib.hid (Q1.out.below hk); have R2 := Lib.hid (P2.out.below hk); have D4 := Lib.hid ((hk.cell (p := ⟨b4, o4 + 3, none⟩) hb4).trans D3.out); have S2 := Lib.hid s2; have hb4' := Nat.lt_of_lt_of_le hb4 hk.size; clear s2 D3 P2 Q1; clear hb; have hb := hd; have hsw5 := hb.out.size; clear hd hk))
    | (go_at_call 45; ((with_reducible refine (cT _ ?hb).mono ?_); (case hb => (repeat (first | (with_reducible exact hb.out) | (with_reducible exact Below.refl _ _) | (with_reducible refine Below.drew ?_) | (with_reducible refine Below.alloc ?_ ?_ _) | omega | (simp <;> omega)))); rintro e w6 ⟨v6, rfl, hk⟩; have hd := Lib.hid ((show Below W3.heap.size W3 _ by (repeat (first | (with_reducible exact hb.out) | (with_reducible exact Below.refl _ _) | (with_reducible refine Below.drew ?_) | (with_reducible refine Below.alloc ?_ ?_ _) | omega | (simp <;> omega)))).trans (hk.mono (by (first | omega | (simp; done) | (simp; omega))))); have hj := ((below_alloc1 w5 _).trans (hk.mono (by simp))); have T3 := (ps_new w5 2 0).below hk; have T1 := R1.out.below hj; have T2 := R2.out.below hj; have D5 := (hj.cell (p := ⟨b4, o4 + 3, none⟩) hb4').trans D4.out; have S3 := (hj.cell (p := ⟨b5, o5 + 10, none⟩) hb5).trans S2.out; obtain ⟨_, x0, x1, _, _⟩ := T1; obtain ⟨_, y0, y1, _, _⟩ := T2; obtain ⟨_, z0, z1, _, _⟩ := T3; clear hj R1 R2 D4 S2; clear hb; have hb := hd; have hsw6 := hb.out.size; clear hd hk)))
  all_goals go_ret
  all_goals exact ⟨rfl, HB.out.trans (hb.out.mono HB.out.size)⟩

end Go.Proofs.YtafincmcmgedbaaGreatDoor

namespace Go.Proofs.YtafincmcmgedbaaGreatDoor
open Go.RowKit Go.Lib

theorem llong_any (v : Value) (l : List Lw) (w : World) (h : DocAt w v l) (hs : SizedD l) :
    Calls Tryz.prog 10 #[v] w fun e w' => e = .returned (.bool (longD (pl l))) ∧ Below w.heap.size w w' := by
  obtain ⟨a, c, rfl⟩ := h.s.len
  have cL := dlong_any _ l w h hs
  clear h hs
  go_enter Tryz.func10, Tryz.ntmps10
  go_wp2_with (go_at_call 59; ((with_reducible refine cL.mono ?_); rintro e w1 ⟨rfl, z, rfl⟩))
  go_ret
  exact ⟨rfl, below_draws w z⟩

end Go.Proofs.YtafincmcmgedbaaGreatDoor

namespace Go.Proofs.YtafincmcmgedbaaGreatDoor
open Go.RowKit Go.Lib

theorem ownD_app {B B2 : Nat} {w w3 : World} {v v' : Value} {m r : List Lw} (h : OwnD B w v m) (hr : ∀ x ∈ r, MineLw B2 w x) (hB : B ≤ B2) (hoff : ∀ x ∈ r, ∀ g, v.ownBlock = some g → OffB g x)
    (hown : w3.ownsRow B 46 4 v' (m ++ r).length (cellsD (m ++ r))) (hg : w.grownBy w3 v.ownBlock) (hat : v'.ownBlock = v.ownBlock ∨ ∀ g, v'.ownBlock = some g → w.heap.size ≤ g) : OwnD B w3 v' (m ++ r) := by
  have hm2 : ∀ x ∈ m ++ r, MineLw B w x := fun x hx => by
    rcases List.mem_append.1 hx with hx | hx
    · exact h.n x hx
    · exact (hr x hx).mono hB
  have hap : ∀ x ∈ m ++ r, ∀ g, v.ownBlock = some g → OffB g x := fun x hx g hg' => by
    rcases List.mem_append.1 hx with hx | hx
    · exact h.ap x hx g hg'
    · exact hoff x hx g hg'
  refine ⟨hown, fun x hx => (hm2 x hx).grown hg (fun g e => hap x hx g e), fun x hx g e => ?_⟩
  rcases hat with h1 | h1
  · exact hap x hx g (h1 ▸ e)
  · exact offB_hi (hm2 x hx).at (h1 g e)

/-- append(s, r..): both one's own; r is nil where it has no lines. -/
theorem step_append_docG {ops : Array Oper} {o : Oper} {a : Act} {K : Act → World → Prop} {Q : Exit → Act → World → Prop} {E : Prop} {w : World} (hw : Region.wanted o (yielded ops a.tmps) = true) (s x : Operand)
    (ho : o.op = .call { callee := .builtin .append, args := #[s, x], argTypes := #[22, 22] })
    (B B2 : Nat) (v : Value) (m : List Lw) (hs : a.eval s = v) (hO : OwnD B w v m) (u : Value) (r : List Lw) (hx : a.eval x = u) (hu : SliceAt w u r) (hn : ∀ y ∈ r, MineLw B2 w y) (h0 : r = [] → u = .slice none 0 0)
    (hBB : B ≤ B2) (hoff : ∀ x ∈ r, ∀ g, v.ownBlock = some g → OffB g x) (hb : m.length + r.length ≤ 100000) (hbase : B ≤ w.heap.size)
    (h : ∀ v' w', OwnD B w' v' (m ++ r) → w.grownBy w' v.ownBlock → K (a.put o.dst v') w') :
    if Region.wanted o (yielded ops a.tmps) = true then Oper.wp Tryz.prog o a w K Q else E := by
  rw [if_pos hw]
  obtain ⟨i0, hi, hz0, hz1, hz2⟩ := info_parts infoLine
  by_cases hr : r = []
  · subst hr
    rw [h0 rfl] at hx
    have hrun := run_append_owned_none (P := Tryz.prog) (w := w) B 22 o.type 46 i0 4 Tryz.underlying22 hi v _ _ hO.own
    have hk := h v w (by simpa using hO) (grownBy_refl _ _)
    unfold Oper.wp
    simp [execOp, ho, resolve, invoke, builtin, hs, hx, hrun, Result.andThen]
    exact hk
  · have hl : 0 < r.length := List.length_pos_iff.2 hr
    obtain ⟨b, o1, c, rfl, _, _, hbb, hcs⟩ := hu.lies hl
    obtain ⟨g, cap, w', hrun, h2, h3, h4, _⟩ := run_append_lies (P := Tryz.prog) (w := w) 22 o.type B 46 i0 _ 4 64 Tryz.underlying22 hi hz0 hz1 hz2 rfl (by decide) v m.length (cellsD m) hO.own ⟨b, o1, none⟩ r.length c (cellsD r) (cellsD_length r) hcs.addF (cellsD_one r) hl (by unfold maxLen; omega) (by omega) hbase w.heap.size rfl
    have hD := ownD_app hO hn hBB hoff (own_appD h2 rfl rfl) h3 (by
      rcases h4 with h4 | h4
      · exact .inl h4.symm
      · refine .inr (fun g' e => ?_)
        have e2 : g = g' := by simpa [Value.ownBlock] using e
        omega)
    unfold Oper.wp
    simp [execOp, ho, resolve, invoke, builtin, hs, hx, hrun, Result.andThen]
    exact h _ _ hD h3
theorem wpList_append_docO {ops : Array Oper} {rest : List Oper} {o : Oper} {a : Act} {Q : Exit → Act → World → Prop} {w : World} (hgd : o.guard = none) (s x : Operand)
    (ho : o.op = .call { callee := .builtin .append, args := #[s, x], argTypes := #[22, 22] })
    (B B2 : Nat) (v : Value) (m : List Lw) (hs : a.eval s = v) (hO : OwnD B w v m) (u : Value) (r : List Lw) (hx : a.eval x = u) (hu : SliceAt w u r) (hn : ∀ y ∈ r, MineLw B2 w y) (h0 : r = [] → u = .slice none 0 0)
    (hBB : B ≤ B2) (hoff : ∀ x ∈ r, ∀ g, v.ownBlock = some g → OffB g x) (hb : m.length + r.length ≤ 100000) (hbase : B ≤ w.heap.size)
    (h : ∀ v' w', OwnD B w' v' (m ++ r) → w.grownBy w' v.ownBlock → wpList Tryz.prog ops Q rest (a.put o.dst v') w') : wpList Tryz.prog ops Q (o :: rest) a w :=
  wpList_step fun _ hK => step_append_docG (by simp [Region.wanted, hgd]) s x ho B B2 v m hs hO u r hx hu hn h0 hBB hoff hb hbase fun v' w' h1 h2 => hK _ _ (h v' w' h1 h2)

set_option maxRecDepth 20000 in
theorem rdown_nil (v : Value) (w : World) (h : SliceAt w v []) :
    Calls Tryz.prog 12 #[v] w fun e w' => e = .returned (.slice none 0 0) ∧ Below w.heap.size w w' := by
  obtain ⟨a, c, rfl⟩ := h.len
  have hl : ([] : List Lw).length = 0 := rfl
  rw [hl]
  clear h hl
  go_enter Tryz.func12, Tryz.ntmps12
  go_wp2
  go_loop [3, 4] (fun s i => s = .slice none 0 0 ∧ i = .int .i64 0) (fun _ _ => 0)
  case atStart => exact ⟨rfl, rfl⟩
  case round =>
    obtain ⟨rfl, rfl⟩ := hrel
    go_wp2
    go_ret
    exact ⟨rfl, Below.refl _ _⟩
/-- What Own answers, with what it is where there are no lines. -/
def DocPostN (d : Doc) (w : World) (e : Ending) (w' : World) : Prop := ∃ v l, e = .returned v ∧ OwnD w.heap.size w' v l ∧ pl l = d ∧ Below w.heap.size w w' ∧ (l = [] → v = .slice none 0 0)
theorem rdownN_any (v : Value) (l : List Lw) (w : World) (h : DocAt w v l) (hf : Fine (pl l)) :
    Calls Tryz.prog 12 #[v] w (DocPostN (pl l) w) := by
  by_cases hl : l = []
  · subst hl
    refine (rdown_nil v w h.s).mono ?_
    rintro e w' ⟨rfl, hb⟩
    exact ⟨_, [], rfl, ownD_nil _ _, rfl, hb, fun _ => rfl⟩
  · refine (rdown_any v l w h hf).mono ?_
    rintro e w' ⟨v', r, rfl, ho, hp, hb⟩
    refine ⟨v', r, rfl, ho, hp, hb, fun hr => ?_⟩
    subst hr
    have h2 := congrArg List.length hp
    rw [pl_length, pl_length] at h2
    exact absurd (List.eq_nil_of_length_eq_zero h2.symm) hl

end Go.Proofs.YtafincmcmgedbaaGreatDoor

namespace Go.Proofs.YtafincmcmgedbaaGreatDoor
open Go.RowKit Go.Lib

set_option maxRecDepth 20000 in
set_option maxHeartbeats 8000000 in
theorem rddelete_off (v : Value) (l : List Lw) (p1 p2 q1 q2 : Int) (w : World) (h : DocAt w v l) (hf : Fine (pl l)) (hA : askedD (pl l) (p1, p2) (q1, q2) = false) :
    Calls Tryz.prog 39 #[v, psV (p1, p2), psV (q1, q2)] w (DocE [] 1 w) := by
  refine Calls.mono ?_ (fun e w' h => docE_err h)
  obtain ⟨a, c, rfl⟩ := h.s.len
  have cA : ∀ w1, Below w.heap.size w w1 → _ := fun w1 h1 => rdspan_any _ l p1 p2 q1 q2 w1 (h.below h1) hf
  rw [hA] at cA
  obtain ⟨n, hn⟩ : ∃ n, l.length = n := ⟨_, rfl⟩
  rw [hn] at cA ⊢
  clear h hf hA hn
  unfold psV at *
  dsimp only at *
  have hX := Lib.hid (two_allocs w (.cells #[.int .i64 p1, .int .i64 p2] 24) (.cells #[.int .i64 q1, .int .i64 q2] 24))
  go_enter Tryz.func39, Tryz.ntmps39
  go_wp2_with (go_at_call 73; ((with_reducible refine (cA _ hX.out).mono ?_); rintro e w2 ⟨rfl, hk⟩; have hb := hX.out.trans (hk.mono hX.out.size)))
  go_ret2
  exact ⟨rfl, hb⟩

set_option maxRecDepth 40000 in
set_option maxHeartbeats 32000000 in
theorem rddelete_ok (v : Value) (l : List Lw) (al aa bl ba : Nat) (w : World) (h : DocAt w v l) (hf : Fine (pl l)) (hsp : Span (pl l) al aa bl ba) (hmay : mayD (pl l) = true) :
    Calls Tryz.prog 39 #[v, psV ((al : Int), (aa : Int)), psV ((bl : Int), (ba : Int))] w (DocE (deleteD (pl l) al aa bl ba) 0 w) := by
  obtain ⟨a, cc, rfl⟩ := h.s.len
  have cA : ∀ w1, Below w.heap.size w w1 → _ := fun w1 h1 => rdspan_any (.slice a l.length cc) l (al : Int) (aa : Int) (bl : Int) (ba : Int) w1 (h.below h1) hf
  rw [askedD_mk hsp hmay] at cA
  have hbl : bl < l.length := by have := hsp.hb; rwa [pl_length] at this
  have hab := hsp.hab
  have hal : al < l.length := by omega
  have hka := hsp.hka
  have hkb := hsp.hkb
  rw [cnt_pl hal] at hka
  rw [cnt_pl hbl] at hkb
  obtain ⟨u1, t1, i1⟩ := cut_h h.s al (by omega)
  obtain ⟨u2, t2, i2⟩ := cut_l h.s (bl + 1) (by omega)
  have cO1 : ∀ w1, Below w.heap.size w w1 → _ := fun w1 h1 => rdownN_any u1 (l.take al) w1 ((h.take t1).below h1) (by rw [pl_take]; exact hf.take _)
  have cO2 : ∀ w1, Below w.heap.size w w1 → _ := fun w1 h1 => rdownN_any u2 (l.drop (bl + 1)) w1 ((h.drop t2).below h1) (by rw [pl_drop]; exact hf.drop _)
  obtain ⟨f1, g1, e1⟩ := t1.len
  obtain ⟨f2, g2, e2⟩ := t2.len
  subst e1 e2
  rw [pl_take] at cO1
  rw [pl_drop] at cO2
  rw [show ((bl + 1 : Nat) : Int) = (bl : Int) + 1 by omega] at i2
  obtain ⟨b, o, q, za, n1, zc, kk, ra, n2, rc, rfl, _, hlc, hcm, hbs, x0, x1, x2, x3, hag, hlw, hr, hz1, hz2, hz3, hpg⟩ := lines_at h hf hal
  obtain ⟨b', o', q', za', n1', zc', kk', ra', n2', rc', eb, _, _, _, _, x0', x1', x2', x3', _, _, hr', _, hz2', _, hpg'⟩ := lines_at h hf hbl
  simp only [Option.some.injEq, Addr.mk.injEq, and_true] at eb
  obtain ⟨rfl, rfl⟩ := eb
  unfold maxLen at hcm
  obtain ⟨x, hx⟩ : ∃ x, l[al]! = x := ⟨_, rfl⟩
  obtain ⟨x', hx'⟩ : ∃ x, l[bl]! = x := ⟨_, rfl⟩
  rw [hx] at hag hlw hr hz1 hz2 hz3 hpg hka
  rw [hx'] at hr' hz2' hpg' hkb
  obtain ⟨v1, s1, r1⟩ := slice_h hr aa hka
  obtain ⟨v2, s2, r2⟩ := slice_l hr' ba hkb
  obtain ⟨a1, c1, e1⟩ := s1.len
  obtain ⟨a2, c2, e2⟩ := s2.len
  subst e1 e2
  have cF : ∀ w1, Below w.heap.size w w1 → _ := fun w1 h1 => rlframeA x w1 (hlw.below h1) hz1
  rw [hag] at cF
  have cW : ∀ w1, Below w.heap.size w w1 → _ := fun w1 h1 => rown_any _ (x.ln.cs.take aa) w1 (s1.below h1) (by rw [List.length_take]; omega)
  unfold OwnPost at cW
  have hT1 : (x.ln.cs.take aa).length ≤ 50000 := by rw [List.length_take]; omega
  have hT2 : (x'.ln.cs.drop ba).length ≤ 50000 := by rw [List.length_drop]; omega
  obtain ⟨R1, hR1⟩ : ∃ R0, x.ln.cs.take aa = R0 := ⟨_, rfl⟩
  obtain ⟨R2, hR2⟩ : ∃ R0, x'.ln.cs.drop ba = R0 := ⟨_, rfl⟩
  obtain ⟨R0, hR0⟩ : ∃ R0, R1 ++ R2 = R0 := ⟨_, rfl⟩
  rw [hR1] at cW r1 s1 hT1
  rw [hR2] at r2 s2 hT2
  have hdel : ∀ (m0 m2 : List Lw) (y : Lw), pl m0 = (pl l).take al → pl m2 = (pl l).drop (bl + 1) → y.ln = lnWith x.ln R0 → pl (m0 ++ [y] ++ m2) = deleteD (pl l) al aa bl ba := fun m0 m2 y h0 h2 hy => by
    rw [pl_append, pl_append, h0, h2]
    unfold deleteD replaceD
    rw [hpg, hpg', hR1, hR2, hR0, ← hy]
    rfl
  obtain ⟨m1, hm1⟩ : ∃ m, R1.length = m := ⟨_, rfl⟩
  obtain ⟨m2, hm2⟩ : ∃ m, R2.length = m := ⟨_, rfl⟩
  rw [hm1] at cW r1 s1
  rw [hm2] at r2 s2
  have HK : Hid (∀ V', Below w.heap.size w V' → V'.cell? ⟨b, o + al * 4, none⟩ = some (.int .i64 q) ∧ V'.cell? ⟨b, o + al * 4 + 1, none⟩ = some (.slice za n1 zc) ∧ V'.cell? ⟨b, o + al * 4 + 2, none⟩ = some (.int .i64 kk) ∧ V'.cell? ⟨b, o + al * 4 + 3, none⟩ = some (.slice ra n2 rc) ∧ V'.cell? ⟨b, o + bl * 4 + 3, none⟩ = some (.slice ra' n2' rc')) := Lib.hid (fun V' hV' =>
    ⟨(hV'.cell (lt_of_cell' x0)).trans x0, (hV'.cell (lt_of_cell' x1)).trans x1, (hV'.cell (lt_of_cell' x2)).trans x2, (hV'.cell (lt_of_cell' x3)).trans x3, (hV'.cell (lt_of_cell' x3')).trans x3'⟩)
  have HD := Lib.hid hdel
  have HR := Lib.hid (And.intro hR0 (And.intro hm1 (And.intro hm2 (And.intro hT1 hT2))))
  have HS2 := Lib.hid s2
  have hll := hf.len
  have htk : (l.take al).length ≤ 1000 := by rw [List.length_take]; omega
  have hdr : (l.drop (bl + 1)).length ≤ 1000 := by rw [List.length_drop]; omega
  have HL0 : Hid (∀ m0 : List Lw, pl m0 = (pl l).take al → m0.length ≤ 1000) := Lib.hid (fun m0 h0 => by rw [← pl_length, h0, ← pl_take, pl_length]; exact htk)
  have HL2 : Hid (∀ m0 : List Lw, pl m0 = (pl l).drop (bl + 1) → m0.length ≤ 1000) := Lib.hid (fun m0 h0 => by rw [← pl_length, h0, ← pl_drop, pl_length]; exact hdr)
  have A0 := Lib.hid ((ps_new w (al : Int) (aa : Int)).below (below_alloc1 _ (.cells #[.int .i64 (bl : Int), .int .i64 (ba : Int)] 24)))
  have A1 := Lib.hid (ps_new (w.alloc (.cells #[.int .i64 (al : Int), .int .i64 (aa : Int)] 24)) (bl : Int) (ba : Int))
  rw [show (w.alloc (.cells #[.int .i64 (al : Int), .int .i64 (aa : Int)] 24)).heap.size = w.heap.size + 1 by simp] at A1
  have HX := Lib.hid (two_allocs w (.cells #[.int .i64 (al : Int), .int .i64 (aa : Int)] 24) (.cells #[.int .i64 (bl : Int), .int .i64 (ba : Int)] 24))
  unfold psV at *
  dsimp only at *
  obtain ⟨n, hn⟩ : ∃ n, l.length = n := ⟨_, rfl⟩
  obtain ⟨k1, hk1⟩ : ∃ n, (l.take al).length = n := ⟨_, rfl⟩
  obtain ⟨k2, hk2⟩ : ∃ n, (l.drop (bl + 1)).length = n := ⟨_, rfl⟩
  rw [hn] at cA hlc hal hbl i1 i2 hll ⊢
  rw [hk1] at cO1 i1
  rw [hk2] at cO2 i2
  have halI : (al : Int) < (n : Int) := by omega
  have hblI : (bl : Int) < (n : Int) := by omega
  have hwk : IntKind.i64.wrap ((bl : Int) + 1) = (bl : Int) + 1 := IntWalk.i64_in _ (by omega)
  clear h hf hsp hmay hx hx' hag hlw hr hz1 hz2 hz3 hpg hr' hz2' hpg' s1 s2 hdel x0 x1 x2 x3 x0' x1' x2' x3' hn hR0 hm1 hm2 hka hkb hR1 hR2 t1 t2 hk1 hk2 hT1 hT2 htk hdr
  go_enter Tryz.func39, Tryz.ntmps39
  go_upto_region 4 with (first
    | (go_at_call 73; ((with_reducible refine (cA _ HX.out).mono ?_); rintro e w1 ⟨rfl, hk⟩; have KW := Lib.hid hk; have hb := Lib.hid (HX.out.trans (hk.mono HX.out.size)); obtain ⟨_, y0, y1, _, _⟩ := A0.out.below hk; obtain ⟨_, z0, z1, _, _⟩ := A1.out.below hk; clear hk))
    | (go_at_call 12; ((with_reducible refine (cO1 _ hb.out).mono ?_); rintro e w2 ⟨vo, m0, rfl, hown, hpo, hk, _⟩; have OW := Lib.hid hown; have PO := Lib.hid hpo; obtain ⟨ua, uc, eu⟩ := own_len hown.own; subst eu; have K2 := Lib.hid hk; clear hown hpo hk y0 y1 z0 z1)))
  have Q0 := Lib.hid (A0.out.below KW.out)
  have Q1 := Lib.hid (A1.out.below KW.out)
  have hb2 := Lib.hid (hb.out.trans (K2.out.mono hb.out.size))
  obtain ⟨_, y0, y1, _, _⟩ := Q0.out.below K2.out
  obtain ⟨x0, x1, x2, x3, x4⟩ := HK.out _ hb2.out
  have hbs2 : b < w2.heap.size := Nat.lt_of_lt_of_le hbs hb2.out.size
  clear A0 A1 KW cA cO1
  go_upto_region 5 with (go_at_call 57; ((with_reducible refine (cF _ hb2.out).mono ?_); rintro e w3 ⟨yl, rfl, hyl, hy, h3⟩; have HY := Lib.hid (And.intro hyl hy); have K3 := Lib.hid h3; unfold aggL Lw.sl Lw.sc; clear h3 hyl hy x0 x1 x2 x3 x4 y0 y1))
  obtain ⟨W3, hW3⟩ : ∃ W3, w3.alloc (.cells #[.int .i64 yl.ln.q, .slice yl.za yl.ln.ls.length yl.zc, .int .i64 yl.ln.k, .slice yl.ra yl.ln.cs.length yl.rc] 46) = W3 := ⟨_, rfl⟩
  have hb3 := below_alloc1 w3 (.cells #[.int .i64 yl.ln.q, .slice yl.za yl.ln.ls.length yl.zc, .int .i64 yl.ln.k, .slice yl.ra yl.ln.cs.length yl.rc] 46)
  have hbx := box_new w3 yl.ln.q yl.ln.k (.slice yl.za yl.ln.ls.length yl.zc) (.slice yl.ra yl.ln.cs.length yl.rc)
  have hsW : W3.heap.size = w3.heap.size + 1 := by rw [← hW3, World.size_alloc]
  rw [hW3] at hb3 hbx ⊢
  have HW3 := Lib.hid hW3
  have hk23 : Below w2.heap.size w2 W3 := K3.out.trans (hb3.mono K3.out.size)
  have hk13 : Below w1.heap.size w1 W3 := K2.out.trans (hk23.mono K2.out.size)
  have hbW : Below w.heap.size w W3 := hb.out.trans (hk13.mono hb.out.size)
  have KS : Hid (∀ w', Below W3.heap.size W3 w' → (w'.cell? ⟨w.heap.size, 0, none⟩ = some (.int .i64 (al : Int)) ∧ w'.cell? ⟨w.heap.size, 1, none⟩ = some (.int .i64 (aa : Int)) ∧ w'.cell? ⟨w.heap.size + 1, 0, none⟩ = some (.int .i64 (bl : Int)) ∧ w'.cell? ⟨w.heap.size + 1, 1, none⟩ = some (.int .i64 (ba : Int)) ∧ w'.cell? ⟨b, o + al * 4 + 3, none⟩ = some (.slice ra n2 rc) ∧ w'.cell? ⟨b, o + bl * 4 + 3, none⟩ = some (.slice ra' n2' rc'))) := Lib.hid (fun w' h => by
    obtain ⟨_, a0, a1, _, _⟩ := Q0.out.below (hk13.trans (h.mono hk13.size))
    obtain ⟨_, b0, b1, _, _⟩ := Q1.out.below (hk13.trans (h.mono hk13.size))
    obtain ⟨_, _, _, d3, d4⟩ := HK.out _ (hbW.trans (h.mono hbW.size))
    exact ⟨a0, a1, b0, b1, d3, d4⟩)
  have KS3 : Hid (∀ w' u, Below W3.heap.size W3 w' → ((w'.setCell ⟨w3.heap.size, 3, none⟩ u).cell? ⟨w.heap.size, 0, none⟩ = some (.int .i64 (al : Int)) ∧ (w'.setCell ⟨w3.heap.size, 3, none⟩ u).cell? ⟨w.heap.size, 1, none⟩ = some (.int .i64 (aa : Int)) ∧ (w'.setCell ⟨w3.heap.size, 3, none⟩ u).cell? ⟨w.heap.size + 1, 0, none⟩ = some (.int .i64 (bl : Int)) ∧ (w'.setCell ⟨w3.heap.size, 3, none⟩ u).cell? ⟨w.heap.size + 1, 1, none⟩ = some (.int .i64 (ba : Int)) ∧ (w'.setCell ⟨w3.heap.size, 3, none⟩ u).cell? ⟨b, o + al * 4 + 3, none⟩ = some (.slice ra n2 rc) ∧ (w'.setCell ⟨w3.heap.size, 3, none⟩ u).cell? ⟨b, o + bl * 4 + 3, none⟩ = some (.slice ra' n2' rc'))) := Lib.hid (fun w' u h0 => by
    have h := (hb3.trans (h0.mono hb3.size)).setCell (p := ⟨w3.heap.size, 3, none⟩) (Nat.le_refl _) u
    have k3 := K3.out.trans (h.mono K3.out.size)
    have k1 := K2.out.trans (k3.mono K2.out.size)
    obtain ⟨_, a0, a1, _, _⟩ := Q0.out.below k1
    obtain ⟨_, b0, b1, _, _⟩ := Q1.out.below k1
    obtain ⟨_, _, _, d3, d4⟩ := HK.out _ (hb.out.trans (k1.mono hb.out.size))
    exact ⟨a0, a1, b0, b1, d3, d4⟩)
  have HBX : Hid (∀ w', Below W3.heap.size W3 w' → w'.cell? ⟨w3.heap.size, 3, none⟩ = some (.slice yl.ra yl.ln.cs.length yl.rc) ∧ w'.frozen? ⟨w3.heap.size, 3, none⟩ = false) := Lib.hid (fun w' h => by
    obtain ⟨_, _, _, _, l3, _, _, _, g3⟩ := hbx.below h
    exact ⟨l3, g3⟩)
  have hwb : Hid (∀ V', Below W3.heap.size W3 V' → Below w.heap.size w V') := Lib.hid (fun V' h => hbW.trans (h.mono hbW.size))
  have hv : Hid (Below W3.heap.size W3 W3) := Lib.hid (Below.refl _ _)
  have hsv : W3.heap.size ≤ W3.heap.size := Nat.le_refl _
  have hS : (W3.cell? ⟨w.heap.size, 0, none⟩ = some (.int .i64 (al : Int)) ∧ W3.cell? ⟨w.heap.size, 1, none⟩ = some (.int .i64 (aa : Int)) ∧ W3.cell? ⟨w.heap.size + 1, 0, none⟩ = some (.int .i64 (bl : Int)) ∧ W3.cell? ⟨w.heap.size + 1, 1, none⟩ = some (.int .i64 (ba : Int)) ∧ W3.cell? ⟨b, o + al * 4 + 3, none⟩ = some (.slice ra n2 rc) ∧ W3.cell? ⟨b, o + bl * 4 + 3, none⟩ = some (.slice ra' n2' rc')) := KS.out _ hv.out
  obtain ⟨l3, g3⟩ := HBX.out _ hv.out
  have hbs3 : b < W3.heap.size := Nat.lt_of_lt_of_le hbs hbW.size
  have hlt3 : w3.heap.size < W3.heap.size := by omega
  have HK13 := Lib.hid hk13
  have HK23 := Lib.hid hk23
  clear hb3 hbx hW3 hk23 hk13 hbW cF
  go_region_held3 (fun w' => (w'.cell? ⟨w.heap.size, 0, none⟩ = some (.int .i64 (al : Int)) ∧ w'.cell? ⟨w.heap.size, 1, none⟩ = some (.int .i64 (aa : Int)) ∧ w'.cell? ⟨w.heap.size + 1, 0, none⟩ = some (.int .i64 (bl : Int)) ∧ w'.cell? ⟨w.heap.size + 1, 1, none⟩ = some (.int .i64 (ba : Int)) ∧ w'.cell? ⟨b, o + al * 4 + 3, none⟩ = some (.slice ra n2 rc) ∧ w'.cell? ⟨b, o + bl * 4 + 3, none⟩ = some (.slice ra' n2' rc'))) (first | (with_reducible exact hS) | (refine KS.out _ ?_; (repeat (first | (with_reducible exact hv.out) | (with_reducible exact Below.refl _ _) | (with_reducible refine Below.drew ?_) | (with_reducible refine Below.alloc ?_ ?_ _) | (with_reducible refine Below.setCell ?_ ?_ _) | omega | (simp <;> omega))); done) | exact KS3.out _ _ hv.out) (first
    | (go_at_call 35; ((with_reducible refine (cW _ (hwb.out _ ?hb)).mono ?_); (case hb => (repeat (first | (with_reducible exact hv.out) | (with_reducible exact Below.refl _ _) | (with_reducible refine Below.drew ?_) | (with_reducible refine Below.alloc ?_ ?_ _) | (with_reducible refine Below.setCell ?_ ?_ _) | omega | (simp <;> omega)))); rintro e w5 ⟨vr, rfl, own, hk⟩; have hd := Lib.hid ((show Below W3.heap.size W3 _ by (repeat (first | (with_reducible exact hv.out) | (with_reducible exact Below.refl _ _) | (with_reducible refine Below.drew ?_) | (with_reducible refine Below.alloc ?_ ?_ _) | (with_reducible refine Below.setCell ?_ ?_ _) | omega | (simp <;> omega)))).trans (hk.mono (by first | exact hsv | omega | (simp; done) | (simp; omega)))); have OWN := Lib.hid (own.mono (show W3.heap.size ≤ _ by first | exact hsv | omega | (simp; done) | (simp; omega))); replace hS := KS.out _ hd.out; clear l3 g3; obtain ⟨l3, g3⟩ := HBX.out _ hd.out; clear hv own hk hsv; have hv := hd; have hsv := hv.out.size; clear hd))
    | (refine step_append_row rfl _ _ rfl W3.heap.size _ R1 rfl ?own _ R2 rfl ?at_ ?hb ?hbase ?_; (case own => (rw [HR.out.2.1]; exact OWN.out)); (case at_ => exact HS2.out.below (hwb.out _ hv.out)); (case hb => (have := HR.out.2.2.2; omega)); (case hbase => exact hsv); intro v6 w6 own6 grow6; rw [HR.out.1] at own6; obtain ⟨rA, rC, e6⟩ := own_len own6; subst e6; have hd := Lib.hid (hv.out.grown grow6 hsv (fun k e => (OWN.out.lt k e).1)); have O6 := Lib.hid own6; replace hS := KS.out _ hd.out; clear l3 g3; obtain ⟨l3, g3⟩ := HBX.out _ hd.out; clear hv hsv own6 grow6; have hv := hd; have hsv := hv.out.size; clear hd))
  have HYL : Hid (MineLw w2.heap.size w3 yl) := Lib.hid HY.out.2
  obtain ⟨hbx, h36, hm6⟩ := left_laid (W4 := W3) (R0 := R0) (rA := rA) (rC := rC) HYL.out (by rw [HW3.out]; exact hv.out) O6.out (by omega) K3.out.size
  obtain ⟨WR, hWR⟩ : ∃ W, w6.setCell ⟨w3.heap.size, 3, none⟩ (.slice rA R0.length rC) = W := ⟨_, rfl⟩
  rw [hWR] at hbx h36 hm6 ⊢
  have k2R := K3.out.trans (h36.mono K3.out.size)
  have k1R := K2.out.trans (k2R.mono K2.out.size)
  have HM6 : Hid (MineLw w2.heap.size WR ⟨yl.za, yl.zc, rA, rC, ⟨yl.ln.q, yl.ln.ls, yl.ln.k, R0⟩⟩) := Lib.hid hm6
  have HL6 : Hid ((⟨yl.za, yl.zc, rA, rC, ⟨yl.ln.q, yl.ln.ls, yl.ln.k, R0⟩⟩ : Lw).ln = lnWith x.ln R0) := Lib.hid (by show (⟨yl.ln.q, yl.ln.ls, yl.ln.k, R0⟩ : Ln) = _; rw [HY.out.1]; rfl)
  have H1 := one_line WR ⟨yl.za, yl.zc, rA, rC, ⟨yl.ln.q, yl.ln.ls, yl.ln.k, R0⟩⟩
  dsimp only [Lw.sl, Lw.sc] at H1
  have H1 := Lib.hid H1
  have K2R := Lib.hid k2R
  have K1R := Lib.hid k1R
  have hm0 := HL0.out _ PO.out
  have h12 := K2.out.size
  have h2R := k2R.size
  obtain ⟨_, c0, c1, c2, c3, _, _, _, _⟩ := hbx
  obtain ⟨_, z0, z1, _, _⟩ := Q1.out.below k1R
  clear hm6 h36 k1R k2R hWR hv hsv hS l3 g3 KS KS3 HBX cW HS2 hwb HK13 HK23 OWN O6 HYL HW3 r1 r2
  go_upto_region 7 with (at_builtin; refine wpList_append_line rfl _ _ rfl w1.heap.size (.slice ua m0.length uc) m0 rfl (ownsRow_below OW.out.own (K2R.out.alloc K2R.out.size _)) WR.heap.size ⟨yl.za, yl.zc, rA, rC, ⟨yl.ln.q, yl.ln.ls, yl.ln.k, R0⟩⟩ rfl H1.out (by omega) (by rw [World.size_alloc]; omega) (WR.heap.size + 1) (by rw [World.size_alloc]) ?_; intro g cap' w8 hown hgrow hat; have HG := Lib.hid (And.intro hown (And.intro hgrow hat)); clear hown hgrow hat c0 c1 c2 c3 z0 z1)
  obtain ⟨hown, hgrow, hat⟩ := HG.out
  have hkA : Below w2.heap.size w2 (WR.alloc (.cells #[.int .i64 yl.ln.q, .slice yl.za yl.ln.ls.length yl.zc, .int .i64 yl.ln.k, .slice rA R0.length rC] 46)) := K2R.out.alloc K2R.out.size _
  have hkB : Below w1.heap.size w1 (WR.alloc (.cells #[.int .i64 yl.ln.q, .slice yl.za yl.ln.ls.length yl.zc, .int .i64 yl.ln.k, .slice rA R0.length rC] 46)) := K1R.out.alloc K1R.out.size _
  have OD8 := Lib.hid (ownD_put OW.out hkA h12 (HM6.out.below (below_alloc1 WR (.cells #[.int .i64 yl.ln.q, .slice yl.za yl.ln.ls.length yl.zc, .int .i64 yl.ln.k, .slice rA R0.length rC] 46))) hown hgrow (by
    rcases hat with h | h
    · exact .inl h.symm
    · refine .inr (fun g' e => ?_)
      have e2 : g = g' := by simpa [Value.ownBlock] using e
      rw [← e2, h, World.size_alloc]
      exact Nat.le_refl _))
  have K8 := Lib.hid (hkB.grown hgrow hkB.size (fun r e => (ownBlk OW.out.own e).1))
  have hb8 := Lib.hid (hb.out.trans (K8.out.mono hb.out.size))
  obtain ⟨_, z0, z1, _, _⟩ := Q1.out.below K8.out
  have h18 := K8.out.size
  clear hkA hkB hown hgrow hat HG K2R K1R H1 HM6 HK
  go_wp2_with (first
    | (go_at_call 12; ((with_reducible refine (cO2 _ hb8.out).mono ?_); rintro e w9 ⟨vo2, r0, rfl, hown2, hpo2, hk, hnil⟩; obtain ⟨ub, ubc, eub⟩ := own_len hown2.own; subst eub; have O9 := Lib.hid (And.intro hown2.at.s (And.intro hown2.n (And.intro hnil (show ∀ x ∈ r0, ∀ g', (Value.slice (some ⟨g, 0, none⟩) (m0.length + 1) cap').ownBlock = some g' → OffB g' x from fun x hx g' e => offB_lo (hown2.n x hx) (ownBlk OD8.out.own e).2)))); have O8a := Lib.hid (OD8.out.below hk); have P9 := Lib.hid hpo2; have K9 := Lib.hid (K8.out.trans (hk.mono h18)); have hr0 := HL2.out _ hpo2; have hlen : (m0 ++ [(⟨yl.za, yl.zc, rA, rC, ⟨yl.ln.q, yl.ln.ls, yl.ln.k, R0⟩⟩ : Lw)]).length + r0.length ≤ 100000 := (by rw [List.length_append, List.length_singleton]; omega); have hsz9 : w1.heap.size ≤ w9.heap.size := Nat.le_trans h18 hk.size; clear hown2 hpo2 hk hnil z0 z1))
    | (at_builtin; refine wpList_append_docO rfl _ _ rfl w1.heap.size w8.heap.size (.slice (some ⟨g, 0, none⟩) (m0.length + 1) cap') (m0 ++ [⟨yl.za, yl.zc, rA, rC, ⟨yl.ln.q, yl.ln.ls, yl.ln.k, R0⟩⟩]) rfl O8a.out (.slice ub r0.length ubc) r0 rfl O9.out.1 O9.out.2.1 O9.out.2.2.1 h18 O9.out.2.2.2 hlen hsz9 ?_; intro v10 w10 hD10 grow10; have OD10 := Lib.hid (And.intro hD10 grow10); obtain ⟨ux, cx, ex⟩ := own_len hD10.own; rw [show (m0 ++ [(⟨yl.za, yl.zc, rA, rC, ⟨yl.ln.q, yl.ln.ls, yl.ln.k, R0⟩⟩ : Lw)] ++ r0).length = m0.length + (r0.length + 1) by (rw [List.length_append, List.length_append, List.length_singleton]; omega)] at ex; subst ex; clear hD10 grow10))
  go_ret2
  exact ⟨.slice ux (m0.length + (r0.length + 1)) cx, m0 ++ [(⟨yl.za, yl.zc, rA, rC, ⟨yl.ln.q, yl.ln.ls, yl.ln.k, R0⟩⟩ : Lw)] ++ r0, rfl, OD10.out.1.mono hb.out.size, HD.out m0 r0 _ PO.out P9.out HL6.out, hb.out.trans ((K9.out.grown OD10.out.2 hsz9 (fun r e => (ownBlk OD8.out.own e).1)).mono hb.out.size)⟩
theorem rddelete_any (v : Value) (l : List Lw) (p1 p2 q1 q2 : Int) (w : World) (h : DocAt w v l) (hf : Fine (pl l)) :
    Calls Tryz.prog 39 #[v, psV (p1, p2), psV (q1, q2)] w (DocE (delP (pl l) (p1, p2) (q1, q2)).1 (delP (pl l) (p1, p2) (q1, q2)).2 w) := by
  unfold delP
  cases hA : askedD (pl l) (p1, p2) (q1, q2) with
  | false => exact rddelete_off v l p1 p2 q1 q2 w h hf hA
  | true =>
    obtain ⟨al, aa, bl, ba, hp, hq, hsp, hmay⟩ := askedD_span hA
    simp only [Prod.mk.injEq] at hp hq
    obtain ⟨rfl, rfl⟩ := hp
    obtain ⟨rfl, rfl⟩ := hq
    exact rddelete_ok v l al aa bl ba w h hf hsp hmay

end Go.Proofs.YtafincmcmgedbaaGreatDoor
