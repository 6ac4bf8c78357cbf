/-
  way: the path of a place, its At behind it.
-/
import Derived.Test.YtggjoefhopoggaaDoorCRest
import Derived.Test.YtggjoefhopoggaaDoorCLen
import Derived.Deep.RegionLaw

namespace Go.Proofs.YtggjoefhopoggaaDoor
open Go.RowKit Go.Lib

def wayS (L : Sk) (n : Nat) (p : Int × Int) : List Int := pathS L n p.1 ++ [p.2]
theorem pathS_len (L : Sk) (n : Nat) (id : Int) : (pathS L n id).length ≤ n := by
  unfold pathS
  rw [List.length_reverse]
  exact Nat.le_trans (atsS_len L _) (upsS_len L n id)
theorem news_later {W w2 : World} {x : Int} {t : TypeId} (hb2 : Below (W.alloc (.cells #[.int .i64 x] t)).heap.size (W.alloc (.cells #[.int .i64 x] t)) w2) : ∀ j u, [Value.int .i64 x][j]? = some u → w2.cell? ((⟨W.heap.size, 0, none⟩ : Addr).add j) = some u := fun j u hu => by
  have h := int_new W x t j u hu
  exact (hb2.cell (lt_of_cell' h)).trans h
theorem news_drew {W w2 : World} {x : Int} {t : TypeId} (hb2 : Below (W.alloc (.cells #[.int .i64 x] t)).drew.heap.size (W.alloc (.cells #[.int .i64 x] t)).drew w2) : ∀ j u, [Value.int .i64 x][j]? = some u → w2.cell? ((⟨W.heap.size, 0, none⟩ : Addr).add j) = some u := fun j u hu => by
  have h : (W.alloc (.cells #[.int .i64 x] t)).drew.cell? ((⟨W.heap.size, 0, none⟩ : Addr).add j) = some u := int_new W x t j u hu
  exact (hb2.cell (lt_of_cell' h)).trans h

set_option maxRecDepth 20000 in
set_option maxHeartbeats 4000000 in
theorem way_v {w : World} {a : Option Addr} {L : Sk} (h : Tv w (.pointer a) L) (p q : Int) (n : Nat) (hn : n ≤ 1000) (he : endsU L n p = true) :
    Calls Tryd.prog 31 #[.pointer a, .agg #[.int .i64 p, .int .i64 q]] w (OwnZ (wayS L n (p, q)) w) := by
  obtain ⟨i0, hi, ze, zs, zb⟩ := info_parts infoIntD
  have hb1 : Below w.heap.size w (w.alloc (.cells #[.int .i64 p, .int .i64 q] 23)) := (Below.refl _ _).alloc (Nat.le_refl _) _
  have cP := fun W' (hb : Below (w.alloc (.cells #[.int .i64 p, .int .i64 q] 23)).heap.size (w.alloc (.cells #[.int .i64 p, .int .i64 q] 23)) W') => path_v (h.later hb1 hb) p n hn he
  have hlen := pathS_len L n p
  have HW : Hid (wayS L n (p, q) = pathS L n p ++ [q]) := Lib.hid rfl
  obtain ⟨K, hK⟩ : ∃ K, pathS L n p = K := ⟨_, rfl⟩
  rw [hK] at cP hlen HW
  unfold OwnZ at cP ⊢
  rw [HW.out]
  obtain ⟨m, hm⟩ : ∃ m, K.length = m := ⟨_, rfl⟩
  rw [hm] at cP hlen
  have HM := Lib.hid hm
  have hm2 : m ≤ 1000 := by omega
  obtain ⟨W, hW⟩ : ∃ W, w.alloc (.cells #[.int .i64 p, .int .i64 q] 23) = W := ⟨_, rfl⟩
  have hsz : W.heap.size = w.heap.size + 1 := by rw [← hW]; simp
  have x0 : W.cell? ⟨w.heap.size, 0, none⟩ = some (.int .i64 p) := by rw [← hW]; simp [go_sem]
  have x1 : W.cell? ⟨w.heap.size, 1, none⟩ = some (.int .i64 q) := by rw [← hW]; simp [go_sem]
  rw [hW] at cP hb1
  have KS : Hid (∀ w', Below W.heap.size W w' → (w'.cell? ⟨w.heap.size, 0, none⟩ = some (.int .i64 p) ∧ w'.cell? ⟨w.heap.size, 1, none⟩ = some (.int .i64 q))) := Lib.hid (fun w' h => ⟨(h.cell (lt_of_cell' x0)).trans x0, (h.cell (lt_of_cell' x1)).trans x1⟩)
  have HB1 := Lib.hid hb1
  have HSZ := Lib.hid hsz
  clear h he hK hm hb1 x0 x1 hsz hlen hn
  go_enter Tryd.func31, Tryd.ntmps31
  go_upto_region 1 with (fail)
  try rw [hW]
  clear hW
  have k0 := (KS.out W (Below.refl _ _)).1
  have k1 := (KS.out W (Below.refl _ _)).2
  have k2 := (KS.out (W.alloc (.cells #[.int .i64 q] 3)) ((Below.refl _ W).alloc (Nat.le_refl _) _)).1
  go_region_law (first
    | (refine step_append_own rfl _ _ 24 rfl w.heap.size 3 i0 _ 1 8 Tryd.underlying24 hi ze zs zb rfl (by decide) _ _ _ rfl hown _ 1 1 [.int .i64 q] rfl rfl (by first | exact news_later hb2 | exact news_drew hb2) (by simp [Value.oneCell']) (by unfold maxLen; omega) (by omega) hsz2 ?_; intro v3 w3 hown3 hg3; have hbw3 := hbw.grown hg3 hsz2 (fun r e => (own_lt hown r e).1))
    | (refine step_append_own rfl _ _ 24 rfl w.heap.size 3 i0 _ 1 8 Tryd.underlying24 hi ze zs zb rfl (by decide) _ _ _ rfl (hown.alloc _) _ 1 1 [.int .i64 q] rfl rfl (int_new _ _ _) (by simp [Value.oneCell']) (by unfold maxLen; omega) (by omega) (by simp; omega) ?_; intro v3 w3 hown3 hg3; have hbw3 := (hbw.alloc hsz2 _).grown hg3 (by simp; omega) (fun r e => (own_lt hown r e).1))
    | (go_simp; go_at_call 20; ((with_reducible refine (cP _ (show Below W.heap.size W _ by (repeat (first | (with_reducible exact Below.refl _ _) | (with_reducible refine Below.drew ?_) | (with_reducible refine Below.alloc ?_ ?_ _) | omega | (simp <;> omega))))).mono ?_); rintro e w2 ⟨v2, rfl, hown, hb2⟩; have hbw : Below w.heap.size w w2 := HB1.out.trans ((show Below W.heap.size W _ by (repeat (first | (with_reducible exact Below.refl _ _) | (with_reducible refine Below.drew ?_) | (with_reducible refine Below.alloc ?_ ?_ _) | omega | (simp <;> omega)))).mono (by have := HSZ.out; omega) |>.trans (hb2.mono (by have := HSZ.out; simp; omega))); have hsz2 := hbw.size; replace hown := hown.mono (show w.heap.size ≤ _ by have := HSZ.out; simp; omega); have g1 := (KS.out w2 ((show Below W.heap.size W _ by (repeat (first | (with_reducible exact Below.refl _ _) | (with_reducible refine Below.drew ?_) | (with_reducible refine Below.alloc ?_ ?_ _) | omega | (simp <;> omega)))).trans (hb2.mono (by simp)))).2)))
  all_goals go_wp2
  all_goals go_ret
  all_goals exact ⟨_, rfl, by rw [List.length_append, HM.out, cellsZ_snoc]; exact hown3, hbw3⟩

end Go.Proofs.YtggjoefhopoggaaDoor
