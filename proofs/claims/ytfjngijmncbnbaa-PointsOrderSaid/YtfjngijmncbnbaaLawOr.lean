/-
  The law of the order.
-/
import Derived.Test.YtfjngijmncbnbaaTwoP
namespace Go.Proofs.Ytfjngijmncbnbaa
open Go.RowKit Go.Lib

theorem small6 {a b c d e f : Int} : ∀ w' k, w'.cell? ⟨k, 0, none⟩ = some (.int .i64 a) → w'.cell? ⟨k, 1, none⟩ = some (.int .i64 b) → w'.cell? ⟨k, 2, none⟩ = some (.int .i64 c) → w'.cell? ⟨k, 3, none⟩ = some (.int .i64 d) → w'.cell? ⟨k, 4, none⟩ = some (.int .i64 e) → w'.cell? ⟨k, 5, none⟩ = some (.int .i64 f) → Calls Try.prog 6 #[.slice (some ⟨k, 0, none⟩) 6 6] w' fun e1 w2 => e1 = .returned (.bool (smallB [a, b, c, d, e, f])) ∧ w2 = w' := fun w' k h0 h1 h2 h3 h4 h5 => small_any w' k [a, b, c, d, e, f] (fun j hj => by
    match j, hj with
    | 0, _ => exact h0
    | 1, _ => exact h1
    | 2, _ => exact h2
    | 3, _ => exact h3
    | 4, _ => exact h4
    | 5, _ => exact h5) (Nat.le_of_ble_eq_true rfl)

set_option maxRecDepth 20000 in
set_option maxHeartbeats 16000000 in
theorem lawOrder_walk (node a b k c n : Int) (w : World) :
    Calls Try.prog 4 #[.int .i64 node, .int .i64 a, .int .i64 b, .int .i64 k, .int .i64 c, .int .i64 n] w fun e w' => e = .returned (.bool true) ∧ Below w.heap.size w w' := by
  have cS := small6 (a := node) (b := a) (c := b) (d := k) (e := c) (f := n)
  have haw := awake_any
  have cT := at_any
  have hq := eqPlace
  cases hS : smallB [node, a, b, k, c, n] with
  | false =>
    rw [hS] at cS
    clear hS
    go_enter Try.func4, Try.ntmps4
    go_wp2_with (first
      | (go_at_call 6; ((with_reducible refine (cS _ _ (by simp [go_sem]) (by simp [go_sem]) (by simp [go_sem]) (by simp [go_sem]) (by simp [go_sem]) (by simp [go_sem])).mono ?_); rintro e w1 ⟨rfl, rfl⟩))
      | (go_at_call 7; ((with_reducible refine (haw _).mono ?_); rintro e w1 ⟨rfl, hb⟩; have HB := Lib.hid ((show Below w.heap.size w _ by (repeat (first | (with_reducible exact Below.refl _ _) | (with_reducible refine Below.drew ?_) | (with_reducible refine Below.alloc ?_ ?_ _) | (with_reducible refine Below.setCell ?_ ?_ _) | omega | (simp <;> omega)))).trans (hb.mono (by simp <;> omega))))))
    go_ret
    exact ⟨rfl, HB.out⟩
  | true =>
    rw [hS] at cS
    have hS2 := hS
    simp only [smallB, List.all_cons, List.all_nil, Bool.and_true, Bool.and_eq_true, decide_eq_true_eq] at hS2
    obtain ⟨⟨m1, m2⟩, ⟨a1, a2⟩, ⟨b1, b2⟩, ⟨k1, k2⟩, ⟨c1, c2⟩, ⟨n1, n2⟩⟩ := hS2
    clear hS
    obtain ⟨lo, hlo⟩ : ∃ z, (if b < a then b else a) = z := ⟨_, rfl⟩
    obtain ⟨hi, hhi⟩ : ∃ z, (if a < b then b else a) = z := ⟨_, rfl⟩
    have l1 : 0 ≤ lo ∧ lo ≤ 10000 ∧ 0 ≤ hi ∧ hi ≤ 10000 ∧ lo ≤ hi := by
      rw [← hlo, ← hhi]
      repeat' split
      all_goals omega
    obtain ⟨l1, l2, l3, l4, l5⟩ := l1
    have R : ∀ x : Int, 0 ≤ x → x ≤ 10000 → InR x := fun x h1 h2 => ⟨by omega, by omega⟩
    have cI1 := fun w => ins_any w node lo node k n (R _ m1 m2) (R _ l1 l2) (R _ m1 m2) (R _ k1 k2) (R _ n1 n2)
    have cI2 := fun w => ins_any w node hi node k n (R _ m1 m2) (R _ l3 l4) (R _ m1 m2) (R _ k1 k2) (R _ n1 n2)
    have cR1 := fun w => rem_any w node lo node k false (R _ m1 m2) (R _ l1 l2) (R _ m1 m2) (R _ k1 k2)
    have cR2 := fun w => rem_any w node hi node k false (R _ m1 m2) (R _ l3 l4) (R _ m1 m2) (R _ k1 k2)
    have cP1 := fun w => rep_any w node lo node k c n (R _ m1 m2) (R _ l1 l2) (R _ m1 m2) (R _ k1 k2) (R _ c1 c2) (R _ n1 n2)
    have cP2 := fun w => rep_any w node hi node k c n (R _ m1 m2) (R _ l3 l4) (R _ m1 m2) (R _ k1 k2) (R _ c1 c2) (R _ n1 n2)
    rw [ins_same] at cI1 cI2
    rw [rem_same] at cR1 cR2
    rw [rep_same] at cP1 cP2
    obtain ⟨x, hx⟩ : ∃ z, (if k < lo then lo + n else lo) = z := ⟨_, rfl⟩
    obtain ⟨y, hy⟩ : ∃ z, (if k < hi then hi + n else hi) = z := ⟨_, rfl⟩
    obtain ⟨v, hv⟩ : ∃ z, (if k < lo then lo - 1 else lo) = z := ⟨_, rfl⟩
    obtain ⟨u, hu⟩ : ∃ z, (if k < hi then hi - 1 else hi) = z := ⟨_, rfl⟩
    obtain ⟨r, hr⟩ : ∃ z, (if k < lo then (if c < lo - k then lo + (n - c) else k) else lo) = z := ⟨_, rfl⟩
    obtain ⟨s, hs⟩ : ∃ z, (if k < hi then (if c < hi - k then hi + (n - c) else k) else hi) = z := ⟨_, rfl⟩
    rw [hx] at cI1
    rw [hy] at cI2
    rw [hv] at cR1
    rw [hu] at cR2
    rw [hr] at cP1
    rw [hs] at cP2
    dsimp only at cI1 cI2 cR1 cR2 cP1 cP2
    clear R
    have HP := Lib.hid (And.intro hx (And.intro hy (And.intro hv (And.intro hu (And.intro hr hs)))))
    clear hx hy hv hu hr hs
    go_enter Try.func4, Try.ntmps4
    go_upto_region 4 with (first
      | (go_at_call 6; ((with_reducible refine (cS _ _ (by simp [go_sem]) (by simp [go_sem]) (by simp [go_sem]) (by simp [go_sem]) (by simp [go_sem]) (by simp [go_sem])).mono ?_); rintro e w1 ⟨rfl, rfl⟩))
      | (go_at_call 14; ((with_reducible refine (cT _ _ _).mono ?_); rintro e w1 ⟨rfl, hb⟩; (first | (replace HB := Lib.hid (HB.out.trans (hb.mono HB.out.size))) | (have HB := Lib.hid ((show Below w.heap.size w _ by (repeat (first | (with_reducible exact Below.refl _ _) | (with_reducible refine Below.drew ?_) | (with_reducible refine Below.alloc ?_ ?_ _) | (with_reducible refine Below.setCell ?_ ?_ _) | omega | (simp <;> omega)))).trans (hb.mono (by simp))))); clear hb)))
    obtain ⟨W, hW⟩ : ∃ W, ((w1.alloc (.cells #[.int .i64 node, .int .i64 lo] 23)).alloc (.cells #[.int .i64 node, .int .i64 hi] 23)) = W := ⟨_, rfl⟩
    have HB1 : Hid (Below w.heap.size w W) := Lib.hid (by rw [← hW]; exact (HB.out.alloc HB.out.size _).alloc (by simp; have := HB.out.size; omega) _)
    obtain ⟨p, hp⟩ : ∃ p, w1.heap.size = p := ⟨_, rfl⟩
    have P0 : PlAt W p node lo := by rw [← hW, ← hp]; exact ⟨by simp [go_sem], by simp [go_sem]⟩
    have Q0 : PlAt W (p + 1) node hi := by rw [← hW, ← hp]; exact ⟨by simp [go_sem], by simp [go_sem]⟩
    rw [hW, hp]
    have HL := Lib.hid l5
    clear hW HB cS cT w1 hp l5 hlo hhi
    have hSW : (W.cell? ⟨p, 0, none⟩ = some (.int .i64 node) ∧ W.cell? ⟨p, 1, none⟩ = some (.int .i64 lo) ∧ W.cell? ⟨p + 1, 0, none⟩ = some (.int .i64 node) ∧ W.cell? ⟨p + 1, 1, none⟩ = some (.int .i64 hi)) := ⟨P0.1, P0.2, Q0.1, Q0.2⟩
    go_cut [15, 16] (fun s7 s8 wx => TwoP W.heap.size W s7 s8 node x node y wx)
    case first => as_aux_lemma =>
      have hS : (W.cell? ⟨p, 0, none⟩ = some (.int .i64 node) ∧ W.cell? ⟨p, 1, none⟩ = some (.int .i64 lo) ∧ W.cell? ⟨p + 1, 0, none⟩ = some (.int .i64 node) ∧ W.cell? ⟨p + 1, 1, none⟩ = some (.int .i64 hi)) := by first | exact hSW | exact ⟨_, _⟩
      have KS : Hid (∀ W', Below W.heap.size W W' → (W'.cell? ⟨p, 0, none⟩ = some (.int .i64 node) ∧ W'.cell? ⟨p, 1, none⟩ = some (.int .i64 lo) ∧ W'.cell? ⟨p + 1, 0, none⟩ = some (.int .i64 node) ∧ W'.cell? ⟨p + 1, 1, none⟩ = some (.int .i64 hi))) := Lib.hid (fun W' h => ⟨(P0.below h).1, (P0.below h).2, (Q0.below h).1, (Q0.below h).2⟩)
      have hb : Hid (Below W.heap.size W W) := Lib.hid (Below.refl _ _)
      go_region_held3 (fun W' => (W'.cell? ⟨p, 0, none⟩ = some (.int .i64 node) ∧ W'.cell? ⟨p, 1, none⟩ = some (.int .i64 lo) ∧ W'.cell? ⟨p + 1, 0, none⟩ = some (.int .i64 node) ∧ W'.cell? ⟨p + 1, 1, none⟩ = some (.int .i64 hi))) (first | (with_reducible exact hS) | exact KS.out _ (by (repeat (first | (with_reducible exact hb.out) | (with_reducible exact Below.refl _ _) | (with_reducible refine Below.drew ?_) | (with_reducible refine Below.alloc ?_ ?_ _) | (with_reducible refine Below.setCell ?_ ?_ _) | omega | (simp <;> omega))))) (first
        | (go_at_call 9; ((with_reducible refine (cI1 _).mono ?_); rintro e w5 ⟨rfl, hb2⟩; have hd := Lib.hid ((show Below W.heap.size W _ by (repeat (first | (with_reducible exact hb.out) | (with_reducible exact Below.refl _ _) | (with_reducible refine Below.drew ?_) | (with_reducible refine Below.alloc ?_ ?_ _) | (with_reducible refine Below.setCell ?_ ?_ _) | omega | (simp <;> omega)))).trans (hb2.mono (by (first | omega | (simp; done) | (simp; omega))))); obtain ⟨hc5, hf5⟩ := bcell (B := W.heap.size) hb2; have hz5 := hb2.size; (try simp at hz5); have hs5 : W.heap.size ≤ w5.heap.size := hd.out.size; have ht5 : W.heap.size ≤ w5.heap.size + 1 := Nat.le_succ_of_le hs5; (try have hx50 : W.heap.size < w5.heap.size := by omega); (try have hu50 : W.heap.size + 1 < w5.heap.size := by omega); (try have hn50 : w5.heap.size ≠ W.heap.size := by omega); (try have hm50 : W.heap.size ≠ w5.heap.size := by omega); clear hb; have hb := hd; replace hS := KS.out _ hb.out; clear hd hb2))
        | (go_at_call 9; ((with_reducible refine (cI2 _).mono ?_); rintro e w6 ⟨rfl, hb2⟩; have hd := Lib.hid ((show Below W.heap.size W _ by (repeat (first | (with_reducible exact hb.out) | (with_reducible exact Below.refl _ _) | (with_reducible refine Below.drew ?_) | (with_reducible refine Below.alloc ?_ ?_ _) | (with_reducible refine Below.setCell ?_ ?_ _) | omega | (simp <;> omega)))).trans (hb2.mono (by (first | omega | (simp; done) | (simp; omega))))); obtain ⟨hc6, hf6⟩ := bcell (B := W.heap.size) hb2; have hz6 := hb2.size; (try simp at hz6); have hs6 : W.heap.size ≤ w6.heap.size := hd.out.size; have ht6 : W.heap.size ≤ w6.heap.size + 1 := Nat.le_succ_of_le hs6; (try have hx60 : W.heap.size < w6.heap.size := by omega); (try have hu60 : W.heap.size + 1 < w6.heap.size := by omega); (try have hn60 : w6.heap.size ≠ W.heap.size := by omega); (try have hm60 : W.heap.size ≠ w6.heap.size := by omega); (try have hx61 : w5.heap.size < w6.heap.size := by omega); (try have hu61 : w5.heap.size + 1 < w6.heap.size := by omega); (try have hn61 : w6.heap.size ≠ w5.heap.size := by omega); (try have hm61 : w5.heap.size ≠ w6.heap.size := by omega); clear hb; have hb := hd; replace hS := KS.out _ hb.out; clear hd hb2)))
      all_goals go_wp2_with fail
      all_goals go_meet
      all_goals first
        | (with_reducible refine two_put (a1 := 0) (b1 := 0) (a2 := 0) (b2 := 0) hb.out ?_ ?_ ?_ ?_ ?_ <;> (first | (first | omega | (simp; done) | (simp; omega)) | (constructor <;> (first | (first | omega | (simp; done) | (simp; omega)) | (simp [go_sem, *]; done)))))
        | (with_reducible refine two_mix7 (a1 := 0) (b1 := 0) hb.out ?_ ?_ ?_ <;> (first | (first | omega | (simp; done) | (simp; omega)) | (constructor <;> (first | (first | omega | (simp; done) | (simp; omega)) | (simp [go_sem, *]; done)))))
        | (with_reducible refine two_mix8 (a2 := 0) (b2 := 0) hb.out ?_ ?_ ?_ <;> (first | (first | omega | (simp; done) | (simp; omega)) | (constructor <;> (first | (first | omega | (simp; done) | (simp; omega)) | (simp [go_sem, *]; done)))))
        | (with_reducible refine two_new78 hb.out ?_ <;> (first | omega | (simp; done) | (simp; omega)))
        | (with_reducible refine two_new87 hb.out ?_ <;> (first | omega | (simp; done) | (simp; omega)))
    case rest =>
      obtain ⟨q0, g0, rfl, rfl, X0, Y0, hBe⟩ := hcut
      replace HB1 := Lib.hid (HB1.out.trans (hBe.mono HB1.out.size))
      replace P0 := P0.below hBe
      replace Q0 := Q0.below hBe
      clear hBe hSW cI1 cI2
      obtain ⟨W1, hWn⟩ : ∃ z, wc = z := ⟨_, rfl⟩
      rw [hWn] at HB1 P0 Q0 X0 Y0
      rw [hWn]
      clear hWn wc W
      go_upto_region 5 with (fail)
      have hSW : (W1.cell? ⟨p, 0, none⟩ = some (.int .i64 node) ∧ W1.cell? ⟨p, 1, none⟩ = some (.int .i64 lo) ∧ W1.cell? ⟨p + 1, 0, none⟩ = some (.int .i64 node) ∧ W1.cell? ⟨p + 1, 1, none⟩ = some (.int .i64 hi)) := ⟨P0.1, P0.2, Q0.1, Q0.2⟩
      go_cut [17, 18] (fun s7 s8 wx => TwoP W1.heap.size W1 s7 s8 node v node u wx)
      case first => as_aux_lemma =>
        have hS : (W1.cell? ⟨p, 0, none⟩ = some (.int .i64 node) ∧ W1.cell? ⟨p, 1, none⟩ = some (.int .i64 lo) ∧ W1.cell? ⟨p + 1, 0, none⟩ = some (.int .i64 node) ∧ W1.cell? ⟨p + 1, 1, none⟩ = some (.int .i64 hi)) := by first | exact hSW | exact ⟨_, _⟩
        have KS : Hid (∀ W', Below W1.heap.size W1 W' → (W'.cell? ⟨p, 0, none⟩ = some (.int .i64 node) ∧ W'.cell? ⟨p, 1, none⟩ = some (.int .i64 lo) ∧ W'.cell? ⟨p + 1, 0, none⟩ = some (.int .i64 node) ∧ W'.cell? ⟨p + 1, 1, none⟩ = some (.int .i64 hi))) := Lib.hid (fun W' h => ⟨(P0.below h).1, (P0.below h).2, (Q0.below h).1, (Q0.below h).2⟩)
        have hb : Hid (Below W1.heap.size W1 W1) := Lib.hid (Below.refl _ _)
        go_region_held3 (fun W' => (W'.cell? ⟨p, 0, none⟩ = some (.int .i64 node) ∧ W'.cell? ⟨p, 1, none⟩ = some (.int .i64 lo) ∧ W'.cell? ⟨p + 1, 0, none⟩ = some (.int .i64 node) ∧ W'.cell? ⟨p + 1, 1, none⟩ = some (.int .i64 hi))) (first | (with_reducible exact hS) | exact KS.out _ (by (repeat (first | (with_reducible exact hb.out) | (with_reducible exact Below.refl _ _) | (with_reducible refine Below.drew ?_) | (with_reducible refine Below.alloc ?_ ?_ _) | (with_reducible refine Below.setCell ?_ ?_ _) | omega | (simp <;> omega))))) (first
          | (go_at_call 8; ((with_reducible refine (cR1 _).mono ?_); rintro e w5 ⟨rfl, hb2⟩; have hd := Lib.hid ((show Below W1.heap.size W1 _ by (repeat (first | (with_reducible exact hb.out) | (with_reducible exact Below.refl _ _) | (with_reducible refine Below.drew ?_) | (with_reducible refine Below.alloc ?_ ?_ _) | (with_reducible refine Below.setCell ?_ ?_ _) | omega | (simp <;> omega)))).trans (hb2.mono (by (first | omega | (simp; done) | (simp; omega))))); obtain ⟨hc5, hf5⟩ := bcell (B := W1.heap.size) hb2; have hz5 := hb2.size; (try simp at hz5); have hs5 : W1.heap.size ≤ w5.heap.size := hd.out.size; have ht5 : W1.heap.size ≤ w5.heap.size + 1 := Nat.le_succ_of_le hs5; (try have hx50 : W1.heap.size < w5.heap.size := by omega); (try have hu50 : W1.heap.size + 1 < w5.heap.size := by omega); (try have hn50 : w5.heap.size ≠ W1.heap.size := by omega); (try have hm50 : W1.heap.size ≠ w5.heap.size := by omega); clear hb; have hb := hd; replace hS := KS.out _ hb.out; clear hd hb2))
          | (go_at_call 8; ((with_reducible refine (cR2 _).mono ?_); rintro e w6 ⟨rfl, hb2⟩; have hd := Lib.hid ((show Below W1.heap.size W1 _ by (repeat (first | (with_reducible exact hb.out) | (with_reducible exact Below.refl _ _) | (with_reducible refine Below.drew ?_) | (with_reducible refine Below.alloc ?_ ?_ _) | (with_reducible refine Below.setCell ?_ ?_ _) | omega | (simp <;> omega)))).trans (hb2.mono (by (first | omega | (simp; done) | (simp; omega))))); obtain ⟨hc6, hf6⟩ := bcell (B := W1.heap.size) hb2; have hz6 := hb2.size; (try simp at hz6); have hs6 : W1.heap.size ≤ w6.heap.size := hd.out.size; have ht6 : W1.heap.size ≤ w6.heap.size + 1 := Nat.le_succ_of_le hs6; (try have hx60 : W1.heap.size < w6.heap.size := by omega); (try have hu60 : W1.heap.size + 1 < w6.heap.size := by omega); (try have hn60 : w6.heap.size ≠ W1.heap.size := by omega); (try have hm60 : W1.heap.size ≠ w6.heap.size := by omega); (try have hx61 : w5.heap.size < w6.heap.size := by omega); (try have hu61 : w5.heap.size + 1 < w6.heap.size := by omega); (try have hn61 : w6.heap.size ≠ w5.heap.size := by omega); (try have hm61 : w5.heap.size ≠ w6.heap.size := by omega); clear hb; have hb := hd; replace hS := KS.out _ hb.out; clear hd hb2)))
        all_goals go_wp2_with fail
        all_goals go_meet
        all_goals first
          | (with_reducible refine two_put (a1 := 0) (b1 := 0) (a2 := 0) (b2 := 0) hb.out ?_ ?_ ?_ ?_ ?_ <;> (first | (first | omega | (simp; done) | (simp; omega)) | (constructor <;> (first | (first | omega | (simp; done) | (simp; omega)) | (simp [go_sem, *]; done)))))
          | (with_reducible refine two_mix7 (a1 := 0) (b1 := 0) hb.out ?_ ?_ ?_ <;> (first | (first | omega | (simp; done) | (simp; omega)) | (constructor <;> (first | (first | omega | (simp; done) | (simp; omega)) | (simp [go_sem, *]; done)))))
          | (with_reducible refine two_mix8 (a2 := 0) (b2 := 0) hb.out ?_ ?_ ?_ <;> (first | (first | omega | (simp; done) | (simp; omega)) | (constructor <;> (first | (first | omega | (simp; done) | (simp; omega)) | (simp [go_sem, *]; done)))))
          | (with_reducible refine two_new78 hb.out ?_ <;> (first | omega | (simp; done) | (simp; omega)))
          | (with_reducible refine two_new87 hb.out ?_ <;> (first | omega | (simp; done) | (simp; omega)))
      case rest =>
        obtain ⟨q1, g1, rfl, rfl, X1, Y1, hBe⟩ := hcut
        replace HB1 := Lib.hid (HB1.out.trans (hBe.mono HB1.out.size))
        replace P0 := P0.below hBe
        replace Q0 := Q0.below hBe
        replace X0 := X0.below hBe
        replace Y0 := Y0.below hBe
        clear hBe hSW cR1 cR2
        obtain ⟨W2, hWn⟩ : ∃ z, wc = z := ⟨_, rfl⟩
        rw [hWn] at HB1 P0 Q0 X0 Y0 X1 Y1
        rw [hWn]
        clear hWn wc W1
        go_upto_region 6 with (fail)
        have hSW : (W2.cell? ⟨p, 0, none⟩ = some (.int .i64 node) ∧ W2.cell? ⟨p, 1, none⟩ = some (.int .i64 lo) ∧ W2.cell? ⟨p + 1, 0, none⟩ = some (.int .i64 node) ∧ W2.cell? ⟨p + 1, 1, none⟩ = some (.int .i64 hi)) := ⟨P0.1, P0.2, Q0.1, Q0.2⟩
        go_cut [19, 20] (fun s7 s8 wx => TwoP W2.heap.size W2 s7 s8 node r node s wx)
        case first => as_aux_lemma =>
          have hS : (W2.cell? ⟨p, 0, none⟩ = some (.int .i64 node) ∧ W2.cell? ⟨p, 1, none⟩ = some (.int .i64 lo) ∧ W2.cell? ⟨p + 1, 0, none⟩ = some (.int .i64 node) ∧ W2.cell? ⟨p + 1, 1, none⟩ = some (.int .i64 hi)) := by first | exact hSW | exact ⟨_, _⟩
          have KS : Hid (∀ W', Below W2.heap.size W2 W' → (W'.cell? ⟨p, 0, none⟩ = some (.int .i64 node) ∧ W'.cell? ⟨p, 1, none⟩ = some (.int .i64 lo) ∧ W'.cell? ⟨p + 1, 0, none⟩ = some (.int .i64 node) ∧ W'.cell? ⟨p + 1, 1, none⟩ = some (.int .i64 hi))) := Lib.hid (fun W' h => ⟨(P0.below h).1, (P0.below h).2, (Q0.below h).1, (Q0.below h).2⟩)
          have hb : Hid (Below W2.heap.size W2 W2) := Lib.hid (Below.refl _ _)
          go_region_held3 (fun W' => (W'.cell? ⟨p, 0, none⟩ = some (.int .i64 node) ∧ W'.cell? ⟨p, 1, none⟩ = some (.int .i64 lo) ∧ W'.cell? ⟨p + 1, 0, none⟩ = some (.int .i64 node) ∧ W'.cell? ⟨p + 1, 1, none⟩ = some (.int .i64 hi))) (first | (with_reducible exact hS) | exact KS.out _ (by (repeat (first | (with_reducible exact hb.out) | (with_reducible exact Below.refl _ _) | (with_reducible refine Below.drew ?_) | (with_reducible refine Below.alloc ?_ ?_ _) | (with_reducible refine Below.setCell ?_ ?_ _) | omega | (simp <;> omega))))) (first
            | (go_at_call 15; ((with_reducible refine (cP1 _).mono ?_); rintro e w5 ⟨rfl, hb2⟩; have hd := Lib.hid ((show Below W2.heap.size W2 _ by (repeat (first | (with_reducible exact hb.out) | (with_reducible exact Below.refl _ _) | (with_reducible refine Below.drew ?_) | (with_reducible refine Below.alloc ?_ ?_ _) | (with_reducible refine Below.setCell ?_ ?_ _) | omega | (simp <;> omega)))).trans (hb2.mono (by (first | omega | (simp; done) | (simp; omega))))); obtain ⟨hc5, hf5⟩ := bcell (B := W2.heap.size) hb2; have hz5 := hb2.size; (try simp at hz5); have hs5 : W2.heap.size ≤ w5.heap.size := hd.out.size; have ht5 : W2.heap.size ≤ w5.heap.size + 1 := Nat.le_succ_of_le hs5; (try have hx50 : W2.heap.size < w5.heap.size := by omega); (try have hu50 : W2.heap.size + 1 < w5.heap.size := by omega); (try have hn50 : w5.heap.size ≠ W2.heap.size := by omega); (try have hm50 : W2.heap.size ≠ w5.heap.size := by omega); clear hb; have hb := hd; replace hS := KS.out _ hb.out; clear hd hb2))
            | (go_at_call 15; ((with_reducible refine (cP2 _).mono ?_); rintro e w6 ⟨rfl, hb2⟩; have hd := Lib.hid ((show Below W2.heap.size W2 _ by (repeat (first | (with_reducible exact hb.out) | (with_reducible exact Below.refl _ _) | (with_reducible refine Below.drew ?_) | (with_reducible refine Below.alloc ?_ ?_ _) | (with_reducible refine Below.setCell ?_ ?_ _) | omega | (simp <;> omega)))).trans (hb2.mono (by (first | omega | (simp; done) | (simp; omega))))); obtain ⟨hc6, hf6⟩ := bcell (B := W2.heap.size) hb2; have hz6 := hb2.size; (try simp at hz6); have hs6 : W2.heap.size ≤ w6.heap.size := hd.out.size; have ht6 : W2.heap.size ≤ w6.heap.size + 1 := Nat.le_succ_of_le hs6; (try have hx60 : W2.heap.size < w6.heap.size := by omega); (try have hu60 : W2.heap.size + 1 < w6.heap.size := by omega); (try have hn60 : w6.heap.size ≠ W2.heap.size := by omega); (try have hm60 : W2.heap.size ≠ w6.heap.size := by omega); (try have hx61 : w5.heap.size < w6.heap.size := by omega); (try have hu61 : w5.heap.size + 1 < w6.heap.size := by omega); (try have hn61 : w6.heap.size ≠ w5.heap.size := by omega); (try have hm61 : w5.heap.size ≠ w6.heap.size := by omega); clear hb; have hb := hd; replace hS := KS.out _ hb.out; clear hd hb2)))
          all_goals go_wp2_with fail
          all_goals go_meet
          all_goals first
            | (with_reducible refine two_put (a1 := 0) (b1 := 0) (a2 := 0) (b2 := 0) hb.out ?_ ?_ ?_ ?_ ?_ <;> (first | (first | omega | (simp; done) | (simp; omega)) | (constructor <;> (first | (first | omega | (simp; done) | (simp; omega)) | (simp [go_sem, *]; done)))))
            | (with_reducible refine two_mix7 (a1 := 0) (b1 := 0) hb.out ?_ ?_ ?_ <;> (first | (first | omega | (simp; done) | (simp; omega)) | (constructor <;> (first | (first | omega | (simp; done) | (simp; omega)) | (simp [go_sem, *]; done)))))
            | (with_reducible refine two_mix8 (a2 := 0) (b2 := 0) hb.out ?_ ?_ ?_ <;> (first | (first | omega | (simp; done) | (simp; omega)) | (constructor <;> (first | (first | omega | (simp; done) | (simp; omega)) | (simp [go_sem, *]; done)))))
            | (with_reducible refine two_new78 hb.out ?_ <;> (first | omega | (simp; done) | (simp; omega)))
            | (with_reducible refine two_new87 hb.out ?_ <;> (first | omega | (simp; done) | (simp; omega)))
        case rest =>
          obtain ⟨q2, g2, rfl, rfl, X2, Y2, hBe⟩ := hcut
          replace HB1 := Lib.hid (HB1.out.trans (hBe.mono HB1.out.size))
          replace P0 := P0.below hBe
          replace Q0 := Q0.below hBe
          replace X0 := X0.below hBe
          replace Y0 := Y0.below hBe
          replace X1 := X1.below hBe
          replace Y1 := Y1.below hBe
          clear hBe hSW cP1 cP2
          obtain ⟨W3, hWn⟩ : ∃ z, wc = z := ⟨_, rfl⟩
          rw [hWn] at HB1 P0 Q0 X0 Y0 X1 Y1 X2 Y2
          rw [hWn]
          clear hWn wc W2
          obtain ⟨x0, x1⟩ := X0
          obtain ⟨y0, y1⟩ := Y0
          obtain ⟨v0, v1⟩ := X1
          obtain ⟨u0, u1⟩ := Y1
          obtain ⟨r0, r1⟩ := X2
          obtain ⟨s0, s1⟩ := Y2
          obtain ⟨p0, p1⟩ := P0
          obtain ⟨q0', q1'⟩ := Q0
          obtain ⟨hx, hy, hv, hu, hr, hs⟩ := HP.out
          have hl := HL.out
          have f1 : x ≤ y ∧ v ≤ u ∧ r ≤ s := by
            rw [← hx, ← hy, ← hv, ← hu, ← hr, ← hs]
            refine ⟨?_, ?_, ?_⟩ <;> (repeat' split) <;> omega
          have f2 : lo ≠ hi → x ≠ y := by
            intro hne; rw [← hx, ← hy]
            (repeat' split) <;> omega
          have f3 : lo ≠ hi → (v = u ↔ lo = k ∧ hi = k + 1) := by
            intro hne; rw [← hv, ← hu]
            (repeat' split) <;> omega
          have f4 : ¬ k < lo → r = lo := by
            intro hk; rw [← hr, if_neg hk]
          have f5 : ¬ hi ≤ k + c → s = hi + n - c := by
            intro hk; rw [← hs, if_pos (by omega), if_pos (by omega)]; omega
          clear hx hy hv hu hr hs HP HL
          have z1 : decide (y < x) = false := decide_eq_false (by omega)
          have z2 : decide (u < v) = false := decide_eq_false (by omega)
          have z3 : decide (s < r) = false := decide_eq_false (by omega)
          have HF := Lib.hid (And.intro f1 (And.intro f2 (And.intro f3 (And.intro f4 f5))))
          clear f1 f2 f3 f4 f5
          go_upto_region 7 with (fail)
          go_cut [107] (fun s wx => s = .bool false ∧ wx = W3)
          case first => as_aux_lemma =>
            go_wp2
            go_meet
            exact ⟨rfl, rfl⟩
          case rest =>
            obtain ⟨rfl, rfl⟩ := hcut
            clear z1 z2 z3
            obtain ⟨f1, f2, f3, f4, f5⟩ := HF.out
            go_upto_region 9 with (fail)
            go_cut [138] (fun s wx => s = .bool false ∧ wx = wc)
            case first => as_aux_lemma =>
              by_cases hne : lo = hi
              · clear f1 f2 f3 f4 f5 HF
                subst hne
                go_wp2
                go_meet
                exact ⟨rfl, rfl⟩
              · have e1 : (lo == hi) = false := by simp [hne]
                have e2 : (x == y) = false := by have := f2 hne; simp [this]
                have g3 := f3 hne
                clear f1 f2 f3 f4 f5 HF
                by_cases hk : lo = k
                · by_cases hh : hi = k + 1
                  · have e3 : (v == u) = true := by simp [g3, hk, hh]
                    have e4 : (lo == k) = true := by simp [hk]
                    have e5 : (hi == k + 1) = true := by simp [hh]
                    clear g3 hk hh
                    go_wp2
                    go_meet
                    exact ⟨rfl, rfl⟩
                  · have e3 : (v == u) = false := by simp [g3, hk, hh]
                    have e4 : (lo == k) = true := by simp [hk]
                    have e5 : (hi == k + 1) = false := by simp [hh]
                    clear g3 hk hh
                    go_wp2
                    go_meet
                    exact ⟨rfl, rfl⟩
                · have e3 : (v == u) = false := by simp [g3, hk]
                  have e4 : (lo == k) = false := by simp [hk]
                  clear g3 hk
                  go_wp2
                  go_meet
                  exact ⟨rfl, rfl⟩
            case rest =>
              obtain ⟨rfl, rfl⟩ := hcut
              go_upto_region 11 with (fail)
              have HB2 := HB1
              by_cases h1 : k < lo
              · have d1 : decide (k < lo) = true := decide_eq_true h1
                by_cases h2 : hi ≤ k + c
                · have d2 : decide (hi ≤ k + c) = true := decide_eq_true h2
                  clear f1 f2 f3 f4 f5 HF
                  go_wp2_with (go_at_call 7; ((with_reducible refine (haw _).mono ?_); rintro e w6 ⟨rfl, hb⟩; replace HB2 := Lib.hid (HB1.out.trans (hb.mono HB1.out.size)); clear hb))
                  go_ret
                  exact ⟨rfl, HB2.out⟩
                · have d2 : decide (hi ≤ k + c) = false := decide_eq_false h2
                  have hs := f5 h2
                  clear f1 f2 f3 f4 f5 HF
                  subst hs
                  go_wp2_with (go_at_call 7; ((with_reducible refine (haw _).mono ?_); rintro e w6 ⟨rfl, hb⟩; replace HB2 := Lib.hid (HB1.out.trans (hb.mono HB1.out.size)); clear hb))
                  go_ret
                  exact ⟨rfl, HB2.out⟩
              · have d1 : decide (k < lo) = false := decide_eq_false h1
                have hr := f4 h1
                by_cases h2 : hi ≤ k + c
                · have d2 : decide (hi ≤ k + c) = true := decide_eq_true h2
                  clear f1 f2 f3 f4 f5 HF
                  subst hr
                  go_wp2_with (go_at_call 7; ((with_reducible refine (haw _).mono ?_); rintro e w6 ⟨rfl, hb⟩; replace HB2 := Lib.hid (HB1.out.trans (hb.mono HB1.out.size)); clear hb))
                  go_ret
                  exact ⟨rfl, HB2.out⟩
                · have d2 : decide (hi ≤ k + c) = false := decide_eq_false h2
                  have hs := f5 h2
                  clear f1 f2 f3 f4 f5 HF
                  subst hs
                  subst hr
                  go_wp2_with (go_at_call 7; ((with_reducible refine (haw _).mono ?_); rintro e w6 ⟨rfl, hb⟩; replace HB2 := Lib.hid (HB1.out.trans (hb.mono HB1.out.size)); clear hb))
                  go_ret
                  exact ⟨rfl, HB2.out⟩

end Go.Proofs.Ytfjngijmncbnbaa
