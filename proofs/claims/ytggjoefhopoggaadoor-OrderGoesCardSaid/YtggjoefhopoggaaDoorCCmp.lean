/-
  Cmp. Written by gen_cmp.py.
-/
import Derived.Test.YtggjoefhopoggaaDoorCWay
import Derived.Deep.RegionWith
import Derived.Test.YtggjoefhopoggaaDoorCIter

namespace Go.Proofs.YtggjoefhopoggaaDoor
open Go.RowKit Go.Lib Go.Shelf
attribute [local go_sem] Oper.semAt_some

def cmpS (L : Sk) (n : Nat) (a b : Int × Int) : Int × Bool := if mayS L a.1 a.2 = true ∧ mayS L b.1 b.2 = true ∧ rootS L n a.1 = rootS L n b.1 then (lexZ (wayS L n a) (wayS L n b), true) else (0, false)
theorem way_open {w : World} {a : Option Addr} {L : Sk} (h : Tv w (.pointer a) L) (p q : Int) (n : Nat) (hn : n ≤ 1000) (he : endsU L n p = true) :
    Calls Tryd.prog 31 #[.pointer a, .agg #[.int .i64 p, .int .i64 q]] w fun e w' => ∃ ka kc, e = .returned (.slice ka (wayS L n (p, q)).length kc) ∧ KidsAt w' ka (wayS L n (p, q)) ∧ Below w.heap.size w w' :=
  (way_v h p q n hn he).mono (fun e w' hO => by obtain ⟨ka, kc, h1, h2, _, h4⟩ := hO.open; exact ⟨ka, kc, h1, h2, h4⟩)

set_option maxRecDepth 20000 in
set_option maxHeartbeats 8000000 in
theorem cmp_v {w : World} {a : Option Addr} {L : Sk} (h : Tv w (.pointer a) L) (hS : ShortS L) (p q r s : Int) (n : Nat) (hn : n ≤ 1000) (he : ∀ id, endsU L n id = true) :
    Calls Tryd.prog 8 #[.pointer a, .agg #[.int .i64 p, .int .i64 q], .agg #[.int .i64 r, .int .i64 s]] w fun e w' => e = .returned (.tuple #[.int .i64 (cmpS L n (p, q) (r, s)).1, .bool (cmpS L n (p, q) (r, s)).2]) ∧ Below w.heap.size w w' := by
  obtain ⟨W, hW⟩ : ∃ W, (w.alloc (.cells #[.int .i64 p, .int .i64 q] 23)).alloc (.cells #[.int .i64 r, .int .i64 s] 23) = W := ⟨_, rfl⟩
  have hb1 : Below w.heap.size w W := by rw [← hW]; exact ((Below.refl _ _).alloc (Nat.le_refl _) _).alloc (by simp) _
  have hsz : W.heap.size = w.heap.size + 1 + 1 := by rw [← hW]; simp
  have x0 : W.cell? ⟨w.heap.size, 0, none⟩ = some (.int .i64 p) := by rw [← hW]; simp [go_sem]
  have x1 : W.cell? ⟨w.heap.size, 1, none⟩ = some (.int .i64 q) := by rw [← hW]; simp [go_sem]
  have x2 : W.cell? ⟨w.heap.size + 1, 0, none⟩ = some (.int .i64 r) := by rw [← hW]; simp [go_sem]
  have x3 : W.cell? ⟨w.heap.size + 1, 1, none⟩ = some (.int .i64 s) := by rw [← hW]; simp [go_sem]
  have KS : Hid (∀ w', Below W.heap.size W w' → (w'.cell? ⟨w.heap.size, 0, none⟩ = some (.int .i64 p) ∧ w'.cell? ⟨w.heap.size, 1, none⟩ = some (.int .i64 q) ∧ w'.cell? ⟨w.heap.size + 1, 0, none⟩ = some (.int .i64 r) ∧ w'.cell? ⟨w.heap.size + 1, 1, none⟩ = some (.int .i64 s))) := Lib.hid (fun w' h => ⟨(h.cell (lt_of_cell' x0)).trans x0, (h.cell (lt_of_cell' x1)).trans x1, (h.cell (lt_of_cell' x2)).trans x2, (h.cell (lt_of_cell' x3)).trans x3⟩)
  have HB1 := Lib.hid hb1
  have HSZ := Lib.hid hsz
  have hT := h.below hb1
  have cM1 := fun W' (hb : Below W.heap.size W W') => omay_v (hT.below hb) hS p q
  have cM2 := fun W' (hb : Below W.heap.size W W') => omay_v (hT.below hb) hS r s
  have cR1 := fun W' (hb : Below W.heap.size W W') => rootOf_v (hT.below hb) p n (he p)
  have cR2 := fun W' (hb : Below W.heap.size W W') => rootOf_v (hT.below hb) r n (he r)
  have cW1 := fun W' (hb : Below W.heap.size W W') => way_open (hT.below hb) p q n hn (he p)
  have cW2 := fun W' (hb : Below W.heap.size W W') => way_open (hT.below hb) r s n hn (he r)
  have hl1 : (wayS L n (p, q)).length ≤ 2000 := by have := pathS_len L n p; unfold wayS; simp; omega
  have hl2 : (wayS L n (r, s)).length ≤ 2000 := by have := pathS_len L n r; unfold wayS; simp; omega
  have hC : cmpS L n (p, q) (r, s) = if mayS L p q = true ∧ mayS L r s = true ∧ rootS L n p = rootS L n r then (lexZ (wayS L n (p, q)) (wayS L n (r, s)), true) else (0, false) := rfl
  rw [hC]
  obtain ⟨y1, hy1⟩ : ∃ y, rootS L n p = y := ⟨_, rfl⟩
  obtain ⟨y2, hy2⟩ : ∃ y, rootS L n r = y := ⟨_, rfl⟩
  obtain ⟨z1, hz1⟩ : ∃ y, wayS L n (p, q) = y := ⟨_, rfl⟩
  obtain ⟨z2, hz2⟩ : ∃ y, wayS L n (r, s) = y := ⟨_, rfl⟩
  rw [hy1] at cR1 ⊢
  rw [hy2] at cR2 ⊢
  rw [hz1] at cW1 hl1 ⊢
  rw [hz2] at cW2 hl2 ⊢
  have cL := fun W' a1 a2 k1 k2 h1 h2 => lexZ_any W' z1 z2 a1 a2 k1 k2 h1 h2 (by omega) (by omega)
  obtain ⟨m1, hm1⟩ : ∃ m, z1.length = m := ⟨_, rfl⟩
  obtain ⟨m2, hm2⟩ : ∃ m, z2.length = m := ⟨_, rfl⟩
  rw [hm1] at cW1 cL
  rw [hm2] at cW2 cL
  have hb := Lib.hid (Below.refl W.heap.size W)
  obtain ⟨c1, c2, c3, c4⟩ := KS.out W (Below.refl _ _)
  clear h hS hT he hb1 x0 x1 x2 x3 hsz hC hy1 hy2 hz1 hz2 hm1 hm2 hl1 hl2
  cases hA : mayS L p q with
  | false =>
    rw [hA] at cM1
    rw [if_neg (by simp)]
    clear hA cM2 cR1 cR2 cW1 cW2 cL
    go_enter Tryd.func8, Tryd.ntmps8
    go_upto_region 1 with (fail)
    try rw [hW]
    clear hW
    refine wp_region_any (by kernel_rfl) ?_
    try (change wpAny _ _ _ _ _ _ _ (World.drew _))
    refine wpAny_take (i := 0) (v := ?v0) rfl (by kernel_rfl) (by kernel_rfl) (by kernel_rfl) (fun _ _ _ h => h) (Or.inl ⟨by rfl, ?y0⟩) ?r0
    case y0 => (intro w; go_simp; try with_reducible rfl)
    go_simp
    refine wpAny_ready (rs := [1]) (by kernel_rfl) (by simp) ?_
    refine AllReady.cons rfl (fun K hK => ?_) AllReady.nil
    go_simp
    first | (refine hK _ _ ?_; clear hK K) | skip
    refine wpAny_ready (rs := [2]) (by kernel_rfl) (by simp) ?_
    refine AllReady.cons rfl (fun K hK => ?_) AllReady.nil
    go_simp
    go_wp2_with (go_at_call 17; ((with_reducible refine (cM1 _ (show Below W.heap.size W _ by (repeat (first | (with_reducible exact hb.out) | (with_reducible exact Below.refl _ _) | (with_reducible refine Below.drew ?_) | (with_reducible refine Below.alloc ?_ ?_ _) | (with_reducible refine Below.setCell ?_ ?_ _) | omega | (simp <;> omega))))).mono ?_); rintro e w5 ⟨rfl, hb5⟩; have hd2 := Lib.hid ((show Below W.heap.size W _ by (repeat (first | (with_reducible exact hb.out) | (with_reducible exact Below.refl _ _) | (with_reducible refine Below.drew ?_) | (with_reducible refine Below.alloc ?_ ?_ _) | (with_reducible refine Below.setCell ?_ ?_ _) | omega | (simp <;> omega)))).trans (hb5.mono (by first | exact hb.out.size | (simp; exact hb.out.size) | (simp; omega)))); clear hb hb5; have hb := hd2; clear hd2; obtain ⟨c1, c2, c3, c4⟩ := KS.out _ hb.out))
    first | (refine hK _ _ ?_; clear hK K) | skip
    refine wpAny_take (i := 3) (v := ?v3) rfl (by kernel_rfl) (by kernel_rfl) (by kernel_rfl) (fun _ _ _ h => h) (Or.inl ⟨by rfl, ?y3⟩) ?r3
    case y3 => (intro w; go_simp; try with_reducible rfl)
    go_simp
    refine wpAny_take (i := 4) (v := ?v4) rfl (by kernel_rfl) (by kernel_rfl) (by kernel_rfl) (fun _ _ _ h => h) (Or.inl ⟨by rfl, ?y4⟩) ?r4
    case y4 => (intro w; go_simp; try with_reducible rfl)
    go_simp
    refine wpAny_take (i := 5) (v := undef) rfl (by kernel_rfl) (by kernel_rfl) (by kernel_rfl) (fun _ _ _ h => h) (Or.inr ⟨by rfl, rfl⟩) ?_
    go_simp
    refine wpAny_take (i := 6) (v := undef) rfl (by kernel_rfl) (by kernel_rfl) (by kernel_rfl) (fun _ _ _ h => h) (Or.inr ⟨by rfl, rfl⟩) ?_
    go_simp
    refine wpAny_take (i := 7) (v := undef) rfl (by kernel_rfl) (by kernel_rfl) (by kernel_rfl) (fun _ _ _ h => h) (Or.inr ⟨by rfl, rfl⟩) ?_
    go_simp
    refine wpAny_take (i := 8) (v := undef) rfl (by kernel_rfl) (by kernel_rfl) (by kernel_rfl) (fun _ _ _ h => h) (Or.inr ⟨by rfl, rfl⟩) ?_
    go_simp
    refine wpAny_take (i := 9) (v := ?v9) rfl (by kernel_rfl) (by kernel_rfl) (by kernel_rfl) (fun _ _ _ h => h) (Or.inl ⟨by rfl, ?y9⟩) ?r9
    case y9 => (intro w; go_simp; try with_reducible rfl)
    go_simp
    refine wpAny_take (i := 10) (v := ?v10) rfl (by kernel_rfl) (by kernel_rfl) (by kernel_rfl) (fun _ _ _ h => h) (Or.inl ⟨by rfl, ?y10⟩) ?r10
    case y10 => (intro w; go_simp; try with_reducible rfl)
    go_simp
    refine wpAny_take (i := 11) (v := undef) rfl (by kernel_rfl) (by kernel_rfl) (by kernel_rfl) (fun _ _ _ h => h) (Or.inr ⟨by rfl, rfl⟩) ?_
    go_simp
    refine wpAny_take (i := 12) (v := undef) rfl (by kernel_rfl) (by kernel_rfl) (by kernel_rfl) (fun _ _ _ h => h) (Or.inr ⟨by rfl, rfl⟩) ?_
    go_simp
    refine wpAny_take (i := 13) (v := undef) rfl (by kernel_rfl) (by kernel_rfl) (by kernel_rfl) (fun _ _ _ h => h) (Or.inr ⟨by rfl, rfl⟩) ?_
    go_simp
    refine wpAny_take (i := 14) (v := undef) rfl (by kernel_rfl) (by kernel_rfl) (by kernel_rfl) (fun _ _ _ h => h) (Or.inr ⟨by rfl, rfl⟩) ?_
    go_simp
    refine wpAny_take (i := 15) (v := undef) rfl (by kernel_rfl) (by kernel_rfl) (by kernel_rfl) (fun _ _ _ h => h) (Or.inr ⟨by rfl, rfl⟩) ?_
    go_simp
    refine wpAny_take (i := 16) (v := undef) rfl (by kernel_rfl) (by kernel_rfl) (by kernel_rfl) (fun _ _ _ h => h) (Or.inr ⟨by rfl, rfl⟩) ?_
    go_simp
    refine wpAny_take (i := 17) (v := undef) rfl (by kernel_rfl) (by kernel_rfl) (by kernel_rfl) (fun _ _ _ h => h) (Or.inr ⟨by rfl, rfl⟩) ?_
    go_simp
    refine wpAny_take (i := 18) (v := undef) rfl (by kernel_rfl) (by kernel_rfl) (by kernel_rfl) (fun _ _ _ h => h) (Or.inr ⟨by rfl, rfl⟩) ?_
    go_simp
    refine wpAny_take (i := 19) (v := undef) rfl (by kernel_rfl) (by kernel_rfl) (by kernel_rfl) (fun _ _ _ h => h) (Or.inr ⟨by rfl, rfl⟩) ?_
    go_simp
    refine wpAny_take (i := 20) (v := ?v20) rfl (by kernel_rfl) (by kernel_rfl) (by kernel_rfl) (fun _ _ _ h => h) (Or.inl ⟨by rfl, ?y20⟩) ?r20
    case y20 => (intro w; go_simp; try with_reducible rfl)
    go_simp
    refine wpAny_done (by kernel_rfl) ?_ _
    all_goals go_wp2
    all_goals go_ret2
    all_goals exact ⟨rfl, HB1.out.trans ((show Below W.heap.size W _ by (repeat (first | (with_reducible exact hb.out) | (with_reducible exact Below.refl _ _) | (with_reducible refine Below.drew ?_) | (with_reducible refine Below.alloc ?_ ?_ _) | (with_reducible refine Below.setCell ?_ ?_ _) | omega | (simp <;> omega)))).mono (by have := HSZ.out; omega))⟩
  | true =>
    rw [hA] at cM1
    cases hB : mayS L r s with
    | false =>
      rw [hB] at cM2
      rw [if_neg (by simp)]
      clear hA hB cR1 cR2 cW1 cW2 cL
      go_enter Tryd.func8, Tryd.ntmps8
      go_upto_region 1 with (fail)
      try rw [hW]
      clear hW
      refine wp_region_any (by kernel_rfl) ?_
      try (change wpAny _ _ _ _ _ _ _ (World.drew _))
      refine wpAny_take (i := 0) (v := ?vb0) rfl (by kernel_rfl) (by kernel_rfl) (by kernel_rfl) (fun _ _ _ h => h) (Or.inl ⟨by rfl, ?yb0⟩) ?rb0
      case yb0 => (intro w; go_simp; try with_reducible rfl)
      go_simp
      refine wpAny_ready (rs := [1]) (by kernel_rfl) (by simp) ?_
      refine AllReady.cons rfl (fun K hK => ?_) AllReady.nil
      go_simp
      first | (refine hK _ _ ?_; clear hK K) | skip
      refine wpAny_ready (rs := [2]) (by kernel_rfl) (by simp) ?_
      refine AllReady.cons rfl (fun K hK => ?_) AllReady.nil
      go_simp
      go_wp2_with (go_at_call 17; ((with_reducible refine (cM1 _ (show Below W.heap.size W _ by (repeat (first | (with_reducible exact hb.out) | (with_reducible exact Below.refl _ _) | (with_reducible refine Below.drew ?_) | (with_reducible refine Below.alloc ?_ ?_ _) | (with_reducible refine Below.setCell ?_ ?_ _) | omega | (simp <;> omega))))).mono ?_); rintro e w5 ⟨rfl, hb5⟩; have hd2 := Lib.hid ((show Below W.heap.size W _ by (repeat (first | (with_reducible exact hb.out) | (with_reducible exact Below.refl _ _) | (with_reducible refine Below.drew ?_) | (with_reducible refine Below.alloc ?_ ?_ _) | (with_reducible refine Below.setCell ?_ ?_ _) | omega | (simp <;> omega)))).trans (hb5.mono (by first | exact hb.out.size | (simp; exact hb.out.size) | (simp; omega)))); clear hb hb5; have hb := hd2; clear hd2; obtain ⟨c1, c2, c3, c4⟩ := KS.out _ hb.out))
      first | (refine hK _ _ ?_; clear hK K) | skip
      refine wpAny_take (i := 3) (v := ?vb3) rfl (by kernel_rfl) (by kernel_rfl) (by kernel_rfl) (fun _ _ _ h => h) (Or.inl ⟨by rfl, ?yb3⟩) ?rb3
      case yb3 => (intro w; go_simp; try with_reducible rfl)
      go_simp
      refine wpAny_take (i := 4) (v := ?vb4) rfl (by kernel_rfl) (by kernel_rfl) (by kernel_rfl) (fun _ _ _ h => h) (Or.inl ⟨by rfl, ?yb4⟩) ?rb4
      case yb4 => (intro w; go_simp; try with_reducible rfl)
      go_simp
      refine wpAny_take (i := 5) (v := ?vb5) rfl (by kernel_rfl) (by kernel_rfl) (by kernel_rfl) (fun _ _ _ h => h) (Or.inl ⟨by rfl, ?yb5⟩) ?rb5
      case yb5 => (intro w; go_simp; try with_reducible rfl)
      go_simp
      refine wpAny_ready (rs := [6]) (by kernel_rfl) (by simp) ?_
      refine AllReady.cons rfl (fun K hK => ?_) AllReady.nil
      go_simp
      first | (refine hK _ _ ?_; clear hK K) | skip
      refine wpAny_ready (rs := [7]) (by kernel_rfl) (by simp) ?_
      refine AllReady.cons rfl (fun K hK => ?_) AllReady.nil
      go_simp
      go_wp2_with (go_at_call 17; ((with_reducible refine (cM2 _ (show Below W.heap.size W _ by (repeat (first | (with_reducible exact hb.out) | (with_reducible exact Below.refl _ _) | (with_reducible refine Below.drew ?_) | (with_reducible refine Below.alloc ?_ ?_ _) | (with_reducible refine Below.setCell ?_ ?_ _) | omega | (simp <;> omega))))).mono ?_); rintro e w5 ⟨rfl, hb5⟩; have hd2 := Lib.hid ((show Below W.heap.size W _ by (repeat (first | (with_reducible exact hb.out) | (with_reducible exact Below.refl _ _) | (with_reducible refine Below.drew ?_) | (with_reducible refine Below.alloc ?_ ?_ _) | (with_reducible refine Below.setCell ?_ ?_ _) | omega | (simp <;> omega)))).trans (hb5.mono (by first | exact hb.out.size | (simp; exact hb.out.size) | (simp; omega)))); clear hb hb5; have hb := hd2; clear hd2; obtain ⟨c1, c2, c3, c4⟩ := KS.out _ hb.out))
      first | (refine hK _ _ ?_; clear hK K) | skip
      refine wpAny_take (i := 8) (v := ?vb8) rfl (by kernel_rfl) (by kernel_rfl) (by kernel_rfl) (fun _ _ _ h => h) (Or.inl ⟨by rfl, ?yb8⟩) ?rb8
      case yb8 => (intro w; go_simp; try with_reducible rfl)
      go_simp
      refine wpAny_take (i := 9) (v := ?vb9) rfl (by kernel_rfl) (by kernel_rfl) (by kernel_rfl) (fun _ _ _ h => h) (Or.inl ⟨by rfl, ?yb9⟩) ?rb9
      case yb9 => (intro w; go_simp; try with_reducible rfl)
      go_simp
      refine wpAny_take (i := 10) (v := ?vb10) rfl (by kernel_rfl) (by kernel_rfl) (by kernel_rfl) (fun _ _ _ h => h) (Or.inl ⟨by rfl, ?yb10⟩) ?rb10
      case yb10 => (intro w; go_simp; try with_reducible rfl)
      go_simp
      refine wpAny_take (i := 11) (v := undef) rfl (by kernel_rfl) (by kernel_rfl) (by kernel_rfl) (fun _ _ _ h => h) (Or.inr ⟨by rfl, rfl⟩) ?_
      go_simp
      refine wpAny_take (i := 12) (v := undef) rfl (by kernel_rfl) (by kernel_rfl) (by kernel_rfl) (fun _ _ _ h => h) (Or.inr ⟨by rfl, rfl⟩) ?_
      go_simp
      refine wpAny_take (i := 13) (v := undef) rfl (by kernel_rfl) (by kernel_rfl) (by kernel_rfl) (fun _ _ _ h => h) (Or.inr ⟨by rfl, rfl⟩) ?_
      go_simp
      refine wpAny_take (i := 14) (v := undef) rfl (by kernel_rfl) (by kernel_rfl) (by kernel_rfl) (fun _ _ _ h => h) (Or.inr ⟨by rfl, rfl⟩) ?_
      go_simp
      refine wpAny_take (i := 15) (v := undef) rfl (by kernel_rfl) (by kernel_rfl) (by kernel_rfl) (fun _ _ _ h => h) (Or.inr ⟨by rfl, rfl⟩) ?_
      go_simp
      refine wpAny_take (i := 16) (v := undef) rfl (by kernel_rfl) (by kernel_rfl) (by kernel_rfl) (fun _ _ _ h => h) (Or.inr ⟨by rfl, rfl⟩) ?_
      go_simp
      refine wpAny_take (i := 17) (v := undef) rfl (by kernel_rfl) (by kernel_rfl) (by kernel_rfl) (fun _ _ _ h => h) (Or.inr ⟨by rfl, rfl⟩) ?_
      go_simp
      refine wpAny_take (i := 18) (v := undef) rfl (by kernel_rfl) (by kernel_rfl) (by kernel_rfl) (fun _ _ _ h => h) (Or.inr ⟨by rfl, rfl⟩) ?_
      go_simp
      refine wpAny_take (i := 19) (v := undef) rfl (by kernel_rfl) (by kernel_rfl) (by kernel_rfl) (fun _ _ _ h => h) (Or.inr ⟨by rfl, rfl⟩) ?_
      go_simp
      refine wpAny_take (i := 20) (v := ?vb20) rfl (by kernel_rfl) (by kernel_rfl) (by kernel_rfl) (fun _ _ _ h => h) (Or.inl ⟨by rfl, ?yb20⟩) ?rb20
      case yb20 => (intro w; go_simp; try with_reducible rfl)
      go_simp
      refine wpAny_done (by kernel_rfl) ?_ _
      all_goals go_wp2
      all_goals go_ret2
      all_goals exact ⟨rfl, HB1.out.trans ((show Below W.heap.size W _ by (repeat (first | (with_reducible exact hb.out) | (with_reducible exact Below.refl _ _) | (with_reducible refine Below.drew ?_) | (with_reducible refine Below.alloc ?_ ?_ _) | (with_reducible refine Below.setCell ?_ ?_ _) | omega | (simp <;> omega)))).mono (by have := HSZ.out; omega))⟩
    | true =>
      rw [hB] at cM2
      by_cases hy : y1 = y2
      · subst hy
        rw [if_pos ⟨rfl, rfl, rfl⟩]
        obtain ⟨R, hR⟩ : ∃ R, lexZ z1 z2 = R := ⟨_, rfl⟩
        rw [hR] at cL ⊢
        clear hA hB hR
        go_enter Tryd.func8, Tryd.ntmps8
        go_upto_region 1 with (fail)
        try rw [hW]
        clear hW
        first | (go_region_held3 (fun W' => (W'.cell? ⟨w.heap.size, 0, none⟩ = some (.int .i64 p) ∧ W'.cell? ⟨w.heap.size, 1, none⟩ = some (.int .i64 q) ∧ W'.cell? ⟨w.heap.size + 1, 0, none⟩ = some (.int .i64 r) ∧ W'.cell? ⟨w.heap.size + 1, 1, none⟩ = some (.int .i64 s))) (first | (with_reducible exact KS.out _ hb.out) | (refine KS.out _ ?_; (repeat (first | (with_reducible exact hb.out) | (with_reducible exact Below.refl _ _) | (with_reducible refine Below.drew ?_) | (with_reducible refine Below.alloc ?_ ?_ _) | (with_reducible refine Below.setCell ?_ ?_ _) | omega | (simp <;> omega))); done)) (first
      | (go_at_call 17; ((with_reducible refine (cM1 _ (show Below W.heap.size W _ by (repeat (first | (with_reducible exact hb.out) | (with_reducible exact Below.refl _ _) | (with_reducible refine Below.drew ?_) | (with_reducible refine Below.alloc ?_ ?_ _) | (with_reducible refine Below.setCell ?_ ?_ _) | omega | (simp <;> omega))))).mono ?_); rintro e w5 ⟨rfl, hb5⟩; have hd2 := Lib.hid ((show Below W.heap.size W _ by (repeat (first | (with_reducible exact hb.out) | (with_reducible exact Below.refl _ _) | (with_reducible refine Below.drew ?_) | (with_reducible refine Below.alloc ?_ ?_ _) | (with_reducible refine Below.setCell ?_ ?_ _) | omega | (simp <;> omega)))).trans (hb5.mono (by first | exact hb.out.size | (simp; exact hb.out.size) | (simp; omega)))); clear hb hb5; have hb := hd2; clear hd2; obtain ⟨c1, c2, c3, c4⟩ := KS.out _ hb.out))
      | (go_at_call 17; ((with_reducible refine (cM2 _ (show Below W.heap.size W _ by (repeat (first | (with_reducible exact hb.out) | (with_reducible exact Below.refl _ _) | (with_reducible refine Below.drew ?_) | (with_reducible refine Below.alloc ?_ ?_ _) | (with_reducible refine Below.setCell ?_ ?_ _) | omega | (simp <;> omega))))).mono ?_); rintro e w5 ⟨rfl, hb5⟩; have hd2 := Lib.hid ((show Below W.heap.size W _ by (repeat (first | (with_reducible exact hb.out) | (with_reducible exact Below.refl _ _) | (with_reducible refine Below.drew ?_) | (with_reducible refine Below.alloc ?_ ?_ _) | (with_reducible refine Below.setCell ?_ ?_ _) | omega | (simp <;> omega)))).trans (hb5.mono (by first | exact hb.out.size | (simp; exact hb.out.size) | (simp; omega)))); clear hb hb5; have hb := hd2; clear hd2; obtain ⟨c1, c2, c3, c4⟩ := KS.out _ hb.out))
      | (go_at_call 29; ((with_reducible refine (cR1 _ (show Below W.heap.size W _ by (repeat (first | (with_reducible exact hb.out) | (with_reducible exact Below.refl _ _) | (with_reducible refine Below.drew ?_) | (with_reducible refine Below.alloc ?_ ?_ _) | (with_reducible refine Below.setCell ?_ ?_ _) | omega | (simp <;> omega))))).mono ?_); rintro e w5 ⟨rfl, hb5⟩; have hd2 := Lib.hid ((show Below W.heap.size W _ by (repeat (first | (with_reducible exact hb.out) | (with_reducible exact Below.refl _ _) | (with_reducible refine Below.drew ?_) | (with_reducible refine Below.alloc ?_ ?_ _) | (with_reducible refine Below.setCell ?_ ?_ _) | omega | (simp <;> omega)))).trans (hb5.mono (by first | exact hb.out.size | (simp; exact hb.out.size) | (simp; omega)))); clear hb hb5; have hb := hd2; clear hd2; obtain ⟨c1, c2, c3, c4⟩ := KS.out _ hb.out))
      | (go_at_call 29; ((with_reducible refine (cR2 _ (show Below W.heap.size W _ by (repeat (first | (with_reducible exact hb.out) | (with_reducible exact Below.refl _ _) | (with_reducible refine Below.drew ?_) | (with_reducible refine Below.alloc ?_ ?_ _) | (with_reducible refine Below.setCell ?_ ?_ _) | omega | (simp <;> omega))))).mono ?_); rintro e w5 ⟨rfl, hb5⟩; have hd2 := Lib.hid ((show Below W.heap.size W _ by (repeat (first | (with_reducible exact hb.out) | (with_reducible exact Below.refl _ _) | (with_reducible refine Below.drew ?_) | (with_reducible refine Below.alloc ?_ ?_ _) | (with_reducible refine Below.setCell ?_ ?_ _) | omega | (simp <;> omega)))).trans (hb5.mono (by first | exact hb.out.size | (simp; exact hb.out.size) | (simp; omega)))); clear hb hb5; have hb := hd2; clear hd2; obtain ⟨c1, c2, c3, c4⟩ := KS.out _ hb.out)))) | fail
        all_goals go_upto_region 3 with (fail)
        all_goals first | (go_region_with (first
      | (go_at_call 31; ((with_reducible refine (cW1 _ (show Below W.heap.size W _ by (repeat (first | (with_reducible exact hb.out) | (with_reducible exact Below.refl _ _) | (with_reducible refine Below.drew ?_) | (with_reducible refine Below.alloc ?_ ?_ _) | (with_reducible refine Below.setCell ?_ ?_ _) | omega | (simp <;> omega))))).mono ?_); rintro e w5 ⟨ka1, kc1, rfl, hka1, hb5⟩; (try replace hka2 := KidsAt.below (by exact hka2) hb5); have hd2 := Lib.hid ((show Below W.heap.size W _ by (repeat (first | (with_reducible exact hb.out) | (with_reducible exact Below.refl _ _) | (with_reducible refine Below.drew ?_) | (with_reducible refine Below.alloc ?_ ?_ _) | (with_reducible refine Below.setCell ?_ ?_ _) | omega | (simp <;> omega)))).trans (hb5.mono (by first | exact hb.out.size | (simp; exact hb.out.size) | (simp; omega)))); clear hb hb5; have hb := hd2; clear hd2; obtain ⟨c1, c2, c3, c4⟩ := KS.out _ hb.out))
      | (go_at_call 31; ((with_reducible refine (cW2 _ (show Below W.heap.size W _ by (repeat (first | (with_reducible exact hb.out) | (with_reducible exact Below.refl _ _) | (with_reducible refine Below.drew ?_) | (with_reducible refine Below.alloc ?_ ?_ _) | (with_reducible refine Below.setCell ?_ ?_ _) | omega | (simp <;> omega))))).mono ?_); rintro e w5 ⟨ka2, kc2, rfl, hka2, hb5⟩; (try replace hka1 := KidsAt.below (by exact hka1) hb5); have hd2 := Lib.hid ((show Below W.heap.size W _ by (repeat (first | (with_reducible exact hb.out) | (with_reducible exact Below.refl _ _) | (with_reducible refine Below.drew ?_) | (with_reducible refine Below.alloc ?_ ?_ _) | (with_reducible refine Below.setCell ?_ ?_ _) | omega | (simp <;> omega)))).trans (hb5.mono (by first | exact hb.out.size | (simp; exact hb.out.size) | (simp; omega)))); clear hb hb5; have hb := hd2; clear hd2; obtain ⟨c1, c2, c3, c4⟩ := KS.out _ hb.out))
      | (go_at_call 30; ((with_reducible refine (cL _ _ _ _ _ (by exact hka1) (by exact hka2)).mono ?_); rintro e w7 ⟨rfl, rfl⟩)))) | fail
        all_goals go_wp2
        all_goals go_ret2
        all_goals exact ⟨rfl, HB1.out.trans ((show Below W.heap.size W _ by (repeat (first | (with_reducible exact hb.out) | (with_reducible exact Below.refl _ _) | (with_reducible refine Below.drew ?_) | (with_reducible refine Below.alloc ?_ ?_ _) | (with_reducible refine Below.setCell ?_ ?_ _) | omega | (simp <;> omega)))).mono (by have := HSZ.out; omega))⟩
      · rw [if_neg (by simp [hy])]
        have hyb : (y1 == y2) = false := by simpa using hy
        clear hA hB cW1 cW2 cL
        go_enter Tryd.func8, Tryd.ntmps8
        go_upto_region 1 with (fail)
        try rw [hW]
        clear hW
        first | (go_region_held3 (fun W' => (W'.cell? ⟨w.heap.size, 0, none⟩ = some (.int .i64 p) ∧ W'.cell? ⟨w.heap.size, 1, none⟩ = some (.int .i64 q) ∧ W'.cell? ⟨w.heap.size + 1, 0, none⟩ = some (.int .i64 r) ∧ W'.cell? ⟨w.heap.size + 1, 1, none⟩ = some (.int .i64 s))) (first | (with_reducible exact KS.out _ hb.out) | (refine KS.out _ ?_; (repeat (first | (with_reducible exact hb.out) | (with_reducible exact Below.refl _ _) | (with_reducible refine Below.drew ?_) | (with_reducible refine Below.alloc ?_ ?_ _) | (with_reducible refine Below.setCell ?_ ?_ _) | omega | (simp <;> omega))); done)) (first
      | (go_at_call 17; ((with_reducible refine (cM1 _ (show Below W.heap.size W _ by (repeat (first | (with_reducible exact hb.out) | (with_reducible exact Below.refl _ _) | (with_reducible refine Below.drew ?_) | (with_reducible refine Below.alloc ?_ ?_ _) | (with_reducible refine Below.setCell ?_ ?_ _) | omega | (simp <;> omega))))).mono ?_); rintro e w5 ⟨rfl, hb5⟩; have hd2 := Lib.hid ((show Below W.heap.size W _ by (repeat (first | (with_reducible exact hb.out) | (with_reducible exact Below.refl _ _) | (with_reducible refine Below.drew ?_) | (with_reducible refine Below.alloc ?_ ?_ _) | (with_reducible refine Below.setCell ?_ ?_ _) | omega | (simp <;> omega)))).trans (hb5.mono (by first | exact hb.out.size | (simp; exact hb.out.size) | (simp; omega)))); clear hb hb5; have hb := hd2; clear hd2; obtain ⟨c1, c2, c3, c4⟩ := KS.out _ hb.out))
      | (go_at_call 17; ((with_reducible refine (cM2 _ (show Below W.heap.size W _ by (repeat (first | (with_reducible exact hb.out) | (with_reducible exact Below.refl _ _) | (with_reducible refine Below.drew ?_) | (with_reducible refine Below.alloc ?_ ?_ _) | (with_reducible refine Below.setCell ?_ ?_ _) | omega | (simp <;> omega))))).mono ?_); rintro e w5 ⟨rfl, hb5⟩; have hd2 := Lib.hid ((show Below W.heap.size W _ by (repeat (first | (with_reducible exact hb.out) | (with_reducible exact Below.refl _ _) | (with_reducible refine Below.drew ?_) | (with_reducible refine Below.alloc ?_ ?_ _) | (with_reducible refine Below.setCell ?_ ?_ _) | omega | (simp <;> omega)))).trans (hb5.mono (by first | exact hb.out.size | (simp; exact hb.out.size) | (simp; omega)))); clear hb hb5; have hb := hd2; clear hd2; obtain ⟨c1, c2, c3, c4⟩ := KS.out _ hb.out))
      | (go_at_call 29; ((with_reducible refine (cR1 _ (show Below W.heap.size W _ by (repeat (first | (with_reducible exact hb.out) | (with_reducible exact Below.refl _ _) | (with_reducible refine Below.drew ?_) | (with_reducible refine Below.alloc ?_ ?_ _) | (with_reducible refine Below.setCell ?_ ?_ _) | omega | (simp <;> omega))))).mono ?_); rintro e w5 ⟨rfl, hb5⟩; have hd2 := Lib.hid ((show Below W.heap.size W _ by (repeat (first | (with_reducible exact hb.out) | (with_reducible exact Below.refl _ _) | (with_reducible refine Below.drew ?_) | (with_reducible refine Below.alloc ?_ ?_ _) | (with_reducible refine Below.setCell ?_ ?_ _) | omega | (simp <;> omega)))).trans (hb5.mono (by first | exact hb.out.size | (simp; exact hb.out.size) | (simp; omega)))); clear hb hb5; have hb := hd2; clear hd2; obtain ⟨c1, c2, c3, c4⟩ := KS.out _ hb.out))
      | (go_at_call 29; ((with_reducible refine (cR2 _ (show Below W.heap.size W _ by (repeat (first | (with_reducible exact hb.out) | (with_reducible exact Below.refl _ _) | (with_reducible refine Below.drew ?_) | (with_reducible refine Below.alloc ?_ ?_ _) | (with_reducible refine Below.setCell ?_ ?_ _) | omega | (simp <;> omega))))).mono ?_); rintro e w5 ⟨rfl, hb5⟩; have hd2 := Lib.hid ((show Below W.heap.size W _ by (repeat (first | (with_reducible exact hb.out) | (with_reducible exact Below.refl _ _) | (with_reducible refine Below.drew ?_) | (with_reducible refine Below.alloc ?_ ?_ _) | (with_reducible refine Below.setCell ?_ ?_ _) | omega | (simp <;> omega)))).trans (hb5.mono (by first | exact hb.out.size | (simp; exact hb.out.size) | (simp; omega)))); clear hb hb5; have hb := hd2; clear hd2; obtain ⟨c1, c2, c3, c4⟩ := KS.out _ hb.out)))) | fail
        all_goals go_wp2
        all_goals go_ret2
        all_goals exact ⟨rfl, HB1.out.trans ((show Below W.heap.size W _ by (repeat (first | (with_reducible exact hb.out) | (with_reducible exact Below.refl _ _) | (with_reducible refine Below.drew ?_) | (with_reducible refine Below.alloc ?_ ?_ _) | (with_reducible refine Below.setCell ?_ ?_ _) | omega | (simp <;> omega)))).mono (by have := HSZ.out; omega))⟩

end Go.Proofs.YtggjoefhopoggaaDoor
