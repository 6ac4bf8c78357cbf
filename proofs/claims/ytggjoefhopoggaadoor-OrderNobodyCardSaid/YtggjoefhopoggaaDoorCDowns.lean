/-
  What goes down: Next, All.
-/
import Derived.Test.YtggjoefhopoggaaDoorCPath
import Derived.Test.YtggjoefhopoggaaDoorCDown

namespace Go.Proofs.YtggjoefhopoggaaDoor
open Go.RowKit Go.Lib Go.Shelf
attribute [local go_sem] Oper.semAt_some

def nextS (L : Sk) (n m : Nat) (id : Int) : Int := ((downS L n id).find? (fun x => decide (x ≠ id))).getD (behindS L m id)
set_option maxRecDepth 20000 in
set_option maxHeartbeats 4000000 in
theorem next_v {w : World} {a : Option Addr} {L : Sk} (h : Tv w (.pointer a) L) (id : Int) (n : Nat) (he : endsK L n id) (m : Nat) (hu : endsU L m id = true) :
    Calls Tryd.prog 12 #[.pointer a, .int .i64 id] w fun e w' => e = .returned (.int .i64 (nextS L n m id)) ∧ Below w.heap.size w w' := by
  refine (callsIn_wide (n := 9)).1 ?_
  refine callsIn_of_wp_marks Tryd.func12 rfl trivial ?_ rfl
  simp only [Tryd.ntmps12, List.size_toArray, List.length_cons, List.length_nil, Nat.reduceAdd, Nat.reduceSub, Array.replicate_succ, Array.replicate_zero, List.push_toArray, List.append_toArray, List.nil_append, List.cons_append]
  have H := Lib.hid h
  have HE := Lib.hid he
  clear h he
  gi_wp2_with (refine ⟨trivial, ?_⟩; gi_at_call 33; refine (callsIn_wide.2 (down_any a id _)).mono ?_; rintro e w1 ⟨rfl, hz1, hb1, c1, d1⟩)
  obtain ⟨hb0, k1, f1, k2, f2⟩ := two_boxes hb1
  rw [World.size_alloc, World.size_alloc] at hz1 c1 d1
  have b1 : BoxAt w w.heap.size _ w1 := ⟨hb0, k1, f1⟩
  have b2 : BoxAt w (w.heap.size + 1) _ w1 := ⟨hb0, k2, f2⟩
  clear k1 k2 f1 f2 hb1
  have cB := fun W (hb : Below w.heap.size w W) => behind_v (H.out.below hb) id m hu
  have CB := Lib.hid cB
  clear hu cB
  refine range_goes (gf := 50) rfl (enters_of Tryd.func50 (by kernel_rfl) rfl)
    (down_goes a L True (fun W => Below w.heap.size w W) (fun W hb => H.out.below hb) n id HE.out (w.heap.size + 1 + 1) w1 hz1 c1 d1) (by omega) (Below.refl _ _) (fun _ => rfl)
    (fun pre row V => row = none ∧ BoxAt w w.heap.size (.int .i64 id) V ∧ BoxAt w (w.heap.size + 1) (.int .i64 0) V ∧ ∀ y ∈ pre, y = id)
    (fun c pre row V => c = .ret ∧ row = none ∧ ∃ k, BoxAt w (w.heap.size + 1) (.int .i64 k) V ∧ pre.find? (fun x => decide (x ≠ id)) = some k)
    (fun s row A A' rr h hg hr => ⟨h.1, h.2.1.grown hg (fun r e => (hr r e).1) (by omega) (by omega), h.2.2.1.grown hg (fun r e => (hr r e).1) (by omega) (by omega), h.2.2.2⟩)
    (fun c s row A A' rr h hg hr => ⟨h.1, h.2.1, by obtain ⟨k, h1, h2⟩ := h.2.2; exact ⟨k, h1.grown hg (fun r e => (hr r e).1) (by omega) (by omega), h2⟩⟩) (fun _ _ _ h r e => by rw [h.1] at e; cases e) (fun _ _ _ _ _ => trivial) (fun _ _ _ h => h.2.1.bl)
    none (fun r e => by cases e) ⟨rfl, b1, b2, by simp⟩
    (fun x => { tmps := #[.pointer a, .int .i64 id, undef, .pointer (some ⟨w.heap.size, 0, none⟩), .pointer (some ⟨w.heap.size + 1, 0, none⟩), .int .i64 x, .pointer a, .int .i64 id, .func (.func 50) #[] #[.pointer (some ⟨w.heap.size + 1 + 1, 0, none⟩), .pointer (some ⟨w.heap.size + 1 + 1 + 1, 0, none⟩)], .int .i64 x, undef, undef, undef, undef, undef, undef, undef], defers := [] }) ?assign ?body ?done ?stop
  case assign =>
    intro l x V K hK
    gi_wp2
    exact hK
  case body =>
    rintro l₂ pre x row V hsz ⟨rfl, hb1, hb2, hno⟩ hT
    have c1 := hb1.c
    have c2 := hb2.c
    have f2 := hb2.f
    have HB1 := Lib.hid hb1
    have HB2 := Lib.hid hb2
    have HN := Lib.hid hno
    clear hb1 hb2 hT hno
    by_cases hx : x = id
    · subst hx
      gi_wp2
      exact ⟨none, .inl rfl, KeptI.refl _ _ _, rfl, HB1.out, HB2.out, fun y hy => by
        rcases List.mem_append.1 hy with hy | hy
        · exact HN.out y hy
        · exact List.mem_singleton.1 hy⟩
    · have hxb : (x == id) = false := by simpa using hx
      have HX := Lib.hid hx
      clear hx
      gi_wp2
      refine ⟨none, .inl rfl, keptSet V _ _ (show ¬ w.heap.size + 1 + 1 ≤ w.heap.size + 1 by omega), rfl, rfl, x, HB2.out.set (by omega) _, ?_⟩
      have e0 : pre.find? (fun x => decide (x ≠ id)) = none := List.find?_eq_none.2 (fun y hy => by simp [HN.out y hy])
      rw [List.find?_append, e0, List.find?_cons, decide_eq_true HX.out]
      rfl
  case done =>
    rintro D xs row V hD rfl ⟨rfl, hb1, hb2, hno⟩ hrD hK'
    have cBV := CB.out V hb1.bl
    have c1 := hb1.c
    have HB2 := Lib.hid hb2
    have HB1 := Lib.hid hb1
    have HK := Lib.hid hK'
    have HN : Hid (nextS L n m id = behindS L m id) := Lib.hid (by
      unfold nextS
      rw [List.find?_eq_none.2 (fun y hy => by simp [hno y hy])]
      rfl)
    obtain ⟨z, hz⟩ : ∃ z, behindS L m id = z := ⟨_, rfl⟩
    rw [hz] at cBV
    have HZ := Lib.hid hz
    clear hb1 hb2 hK' hno hz
    gi_wp2_with (refine ⟨trivial, ?_⟩; gi_at_call 14; ((with_reducible refine (callsIn_wide.2 cBV).mono ?_); rintro e w5 ⟨rfl, hb5⟩; have c2 := (HB2.out.later hb5).c; have f2 := (HB2.out.later hb5).f))
    have HX := (HB2.out.later hb5).set (by omega) (.int .i64 z)
    have hK5 : w5.heap[D]? = some (.deferred (some [])) := (hb5.block D (Array.getElem?_eq_some_iff.1 HK.out).1).trans HK.out
    have hKD := (KeepsOthers.setCell w5 ⟨w.heap.size + 1, 0, none⟩ (.int .i64 z)).same D _ hK5 rfl
    refine ⟨by simp, .inl ⟨_, _, rfl, run_takeDeferred hKD, ?_⟩⟩
    exact ⟨_, results_one rfl rfl (run_isAgg_plain Tryd.underlying3 rfl) (cell_put HX.c (show w.heap.size + 1 ≠ D by omega)), by rw [HN.out, HZ.out], put_below HX.bl (by omega)⟩
  case stop =>
    rintro D c pre row V hD hSp ⟨rfl, rfl, k, hb2, hk⟩ hrD hK'
    have HB2 := Lib.hid hb2
    have HK := Lib.hid hK'
    have HN : Hid (nextS L n m id = k) := Lib.hid (by
      obtain ⟨r, hr⟩ := hSp
      unfold nextS
      rw [← hr, List.find?_append, hk]
      rfl)
    clear hb2 hK' hk hSp
    gi_wp2
    refine ⟨by simp, .inl ⟨_, _, rfl, run_takeDeferred HK.out, ?_⟩⟩
    exact ⟨_, results_one rfl rfl (run_isAgg_plain Tryd.underlying3 rfl) (cell_put HB2.out.c (show w.heap.size + 1 ≠ D by omega)), by rw [HN.out], put_below HB2.out.bl (by omega)⟩

set_option maxRecDepth 20000 in
set_option maxHeartbeats 4000000 in
theorem all_v {w : World} {a : Option Addr} {L : Sk} (h : Tv w (.pointer a) L) (id : Int) (n : Nat) (he : endsK L n id) (hlen : (downS L n id).length ≤ 100000) :
    Calls Tryd.prog 15 #[.pointer a, .int .i64 id] w (OwnZ (downS L n id) w) := by
  obtain ⟨i0, hi, ze, zs, zb⟩ := info_parts infoIntD
  refine (callsIn_wide (n := 9)).1 ?_
  refine callsIn_of_wp_marks Tryd.func15 rfl trivial ?_ rfl
  simp only [Tryd.ntmps15, List.size_toArray, List.length_cons, List.length_nil, Nat.reduceAdd, Nat.reduceSub, Array.replicate_succ, Array.replicate_zero, List.push_toArray, List.append_toArray, List.nil_append, List.cons_append]
  have H := Lib.hid h
  have HE := Lib.hid he
  clear h he
  gi_wp2_with (refine ⟨trivial, ?_⟩; gi_at_call 33; refine (callsIn_wide.2 (down_any a id _)).mono ?_; rintro e w1 ⟨rfl, hz1, hb1, c1, d1⟩)
  rw [World.size_alloc] at hz1 hb1 c1 d1
  have ba := (Below.refl w.heap.size w).alloc (Nat.le_refl _) (.cells #[.slice none 0 0] 24)
  obtain ⟨t1, t2⟩ := new_cell w (.slice none 0 0) 24
  have bx : BoxAt w w.heap.size (.slice none 0 0) w1 := ⟨ba.trans (hb1.mono (by omega)), (hb1.cell (p := ⟨w.heap.size, 0, none⟩) (show w.heap.size < w.heap.size + 1 by omega)).trans t1, (hb1.frozen (p := ⟨w.heap.size, 0, none⟩) (show w.heap.size < w.heap.size + 1 by omega)).trans t2⟩
  clear t1 t2 ba hb1
  have HLEN := Lib.hid hlen
  clear hlen
  refine range_goes (gf := 50) rfl (enters_of Tryd.func50 (by kernel_rfl) rfl)
    (down_goes a L False (fun W => Below w.heap.size w W) (fun W hb => H.out.below hb) n id HE.out (w.heap.size + 1) w1 hz1 c1 d1) (by omega) (Below.refl _ _) (fun _ => rfl)
    (fun pre row V => ∃ v, GotZ w w.heap.size (w.heap.size + 3) pre row V v)
    (fun _ _ _ _ => False)
    (fun s row A A' rr h hg hr => by obtain ⟨v, h2⟩ := h; exact ⟨v, h2.grown hg hr (by omega) (by omega)⟩)
    (fun _ _ _ _ _ _ h _ _ => h) (fun _ _ _ h r e => by obtain ⟨v, h2⟩ := h; rw [← h2.row] at e; exact (own_lt h2.own r e).2) (fun _ _ _ _ h => h) (fun _ _ _ h => by obtain ⟨v, h2⟩ := h; exact h2.box.bl)
    none (fun r e => by cases e) ⟨.slice none 0 0, bx, World.ownsRow_nil _ _ _ _, rfl⟩
    (fun x => { tmps := #[.pointer a, .int .i64 id, undef, undef, .slice none 0 0, .pointer (some ⟨w.heap.size, 0, none⟩), .int .i64 x, .pointer a, .int .i64 id, .func (.func 50) #[] #[.pointer (some ⟨w.heap.size + 1, 0, none⟩), .pointer (some ⟨w.heap.size + 1 + 1, 0, none⟩)], .int .i64 x, undef, undef, undef, undef, undef], defers := [] }) ?assign ?body ?done ?stop
  case assign =>
    intro l x V K hK
    gi_wp2
    exact hK
  case body =>
    rintro l₂ pre x row V hsz ⟨v, hg⟩ hT
    have hlen : pre.length ≤ 100000 := by
      have h2 := hT.length_le
      have := HLEN.out
      rw [List.length_append] at h2
      omega
    have HG := Lib.hid hg
    obtain ⟨m, hm⟩ : ∃ m, pre.length = m := ⟨_, rfl⟩
    have HM := Lib.hid hm
    rw [hm] at hlen
    have c2 := hg.box.c
    have f2 := hg.box.f
    have own := hg.own
    rw [hm] at own
    have hAA : w.heap.size < (V.alloc (.cells #[.int .i64 x] 3)).heap.size := by rw [World.size_alloc]; omega
    have hfar : some w.heap.size ≠ v.ownBlock := fun e => by have := own_lt own _ e.symm; omega
    have HOW := Lib.hid own
    have HSZ := Lib.hid hsz
    have HF := Lib.hid hfar
    have bB := HG.out.box.later ((Below.refl _ V).alloc (Nat.le_refl _) (.cells #[.int .i64 x] 3))
    have HBB := Lib.hid bB
    clear hg hT hm own hfar bB hsz
    gi_wp2_with (gi_at_builtin; refine wpListIn_append_lies _ rfl _ _ 24 rfl (w.heap.size + 3) 3 i0 _ 1 8 Tryd.underlying24 hi ze zs zb rfl (by decide) v _ _ rfl (HOW.out.alloc _) ⟨V.heap.size, 0, none⟩ 1 1 [.int .i64 x] rfl rfl (int_new V _ _) (by simp [Value.oneCell']) (by decide) (by unfold maxLen; omega) (by omega) (by have := HSZ.out; simp; omega) (V.heap.size + 1) (by simp) ?_; intro g cap w2 hown hgrow hat hlt; have k1 := (hgrow.cell_far ⟨w.heap.size, 0, none⟩ hAA HF.out).trans HBB.out.c; have k2 := (hgrow.frozen_far ⟨w.heap.size, 0, none⟩ hAA HF.out).trans HBB.out.f)
    have hrow : v.ownBlock = row := HG.out.row
    have hVS : w.heap.size + 3 ≤ V.heap.size := by have := HSZ.out; omega
    have hb3 : BoxAt w w.heap.size v w2 := ⟨HBB.out.bl.grown hgrow HBB.out.bl.size (fun r e => by have := own_lt HOW.out r e; omega), k1, k2⟩
    refine ⟨some g, ?_, ?_, .slice (some ⟨g, 0, none⟩) (m + 1) cap, hb3.set (by omega) _, ?_, rfl⟩
    · rcases hat with h | h
      · exact .inl (by rw [← hrow, h])
      · exact .inr ⟨g, rfl, by omega⟩
    · refine ((KeptI.below ((Below.refl _ V).alloc (Nat.le_refl _) _)).trans (.inl rfl) (KeptI.grown hgrow (fun r e _ => hrow ▸ e))).trans (.inl rfl) (keptSet _ _ _ (show ¬ w.heap.size + 1 ≤ w.heap.size by omega))
    · rw [List.length_append, List.length_singleton, HM.out, cellsZ_snoc]
      exact own_other hown (fun k hk _ => Below.heap_setCell _ _ _ _ (show k ≠ w.heap.size by omega))
  case done =>
    rintro D xs row V hD rfl ⟨v, hg⟩ hrD hK'
    have own := hg.own
    have hrow := hg.row
    have c2 := hg.box.c
    have HB := Lib.hid hg.box
    have HK := Lib.hid hK'
    have HO := Lib.hid own
    have HR : Hid (v.ownBlock ≠ some D) := Lib.hid (by rw [hrow]; exact hrD)
    clear hK' own hg hrow
    gi_wp2
    refine ⟨by simp, .inl ⟨_, _, rfl, run_takeDeferred HK.out, ?_⟩⟩
    exact ⟨_, results_tmp rfl _ _ _, v, rfl, (HO.out.kept (grownBy_putObj' V D (.deferred none)) (.inr HR.out)).mono (by omega), put_below HB.out.bl (by omega)⟩
  case stop =>
    rintro D c pre row V _ _ h _ _
    exact h.elim

end Go.Proofs.YtggjoefhopoggaaDoor
