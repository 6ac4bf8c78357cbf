/-
  Graft, exactly, where all is well. Written by gen_plants.py.
-/
import Derived.Test.YtggjoefhopoggaaDoorCPlantS
import Derived.Test.YtggjoefhopoggaaDoorCGraft

namespace Go.Proofs.YtggjoefhopoggaaDoor
open Go.RowKit Go.Lib

def GraftK (B : Nat) (w : World) (p nb : Nat) (deep : Int) (l : List (Option Nd)) (t : Pn) (i a : Nat) (e : Ending) (w' : World) : Prop :=
  ∃ j : Nat, j = (plantS t (sk l)).1 ∧ e = .returned (.tuple #[.int .i64 j, .int .i64 0]) ∧ Below B w w' ∧ ∃ l', Full B w' p nb deep l' ∧ Inv deep l' ∧ sk l' = joinK (plantS t (sk l)).2 i a (plantS t (sk l)).1 ∧ Asd nb l l' w w'

set_option maxRecDepth 20000 in
set_option maxHeartbeats 8000000 in
theorem graft_sk (B : Nat) (w : World) (p nb : Nat) (deep : Int) (l : List (Option Nd)) (h : Full B w p nb deep l) (hI : Inv deep l) (hd0 : 0 ≤ deep) (hd : deep ≤ 40) (hT : OwnT w) (t : Pn) (hFar : FarP nb l w t) (hsl : slimP t = true) (hn : sizeP t ≤ 50000) (i a : Nat) (x : Nd) (hi : l[i]? = some (some x)) (ht : x.tag ≠ 0) (hk0 : a ≤ x.kids.length) (hg : goodP t = true) (hs : shortP t = true) (hf : depthF l 41 (i : Int) + 1 + hP t ≤ deep) (hr0 : countF l + sizeP t ≤ l.length) :
  Calls Tryd.prog 46 #[.pointer (some ⟨p, 0, none⟩), .int .i64 i, .int .i64 a, t.v] w (GraftK B w p nb deep l t i a) := by
  have hnb := h.ln
  have hbn := h.bn
  have hb1 := (Below.refl _ w).alloc (Nat.le_refl _) (.cells #[.int .i64 t.tag, .slice t.aa t.an t.ac, .string t.tx, .slice t.ka t.kn t.kc] 67)
  have HTB := fun (w1 : World) (hb : Below w.heap.size w w1) => h.t.below hnb hb
  have hnB := fun (w1 : World) (hb : Below w.heap.size w w1) => Nat.lt_of_lt_of_le hnb hb.size
  have cE := fun (w1 : World) (hb : Below w.heap.size w w1) => element_any w1 p nb deep l (HTB w1 hb) (i : Int) (hnB w1 hb)
  have hPw : PlAt w t := hFar l w (Asd.below (Below.refl _ _))
  have cL := fun (w1 : World) (hb : Below w.heap.size w w1) => look_any w1 t (hT.below hb) (hPw.stay hb) hn
  have HB1 := Lib.hid hb1
  have KX : Hid (∀ w2, Below (w.alloc (.cells #[.int .i64 t.tag, .slice t.aa t.an t.ac, .string t.tx, .slice t.ka t.kn t.kc] 67)).heap.size (w.alloc (.cells #[.int .i64 t.tag, .slice t.aa t.an t.ac, .string t.tx, .slice t.ka t.kn t.kc] 67)) w2 → w2.cell? ⟨w.heap.size, 0, none⟩ = some (.int .i64 t.tag) ∧ w2.cell? ⟨w.heap.size, 1, none⟩ = some (.slice t.aa t.an t.ac) ∧ w2.cell? ⟨w.heap.size, 2, none⟩ = some (.string t.tx) ∧ w2.cell? ⟨w.heap.size, 3, none⟩ = some (.slice t.ka t.kn t.kc)) := Lib.hid (fun w2 h => ⟨(h.cell (p := ⟨w.heap.size, 0, none⟩) (by simp)).trans (by simp [go_sem]), (h.cell (p := ⟨w.heap.size, 1, none⟩) (by simp)).trans (by simp [go_sem]), (h.cell (p := ⟨w.heap.size, 2, none⟩) (by simp)).trans (by simp [go_sem]), (h.cell (p := ⟨w.heap.size, 3, none⟩) (by simp)).trans (by simp [go_sem])⟩)
  have hv : t.v = .agg #[.int .i64 t.tag, .slice t.aa t.an t.ac, .string t.tx, .slice t.ka t.kn t.kc] := rfl
  rw [hv] at cL ⊢
  have e3 : elemT l (i : Int) = (some x, 0) := by unfold elemT; rw [ndAt_of hi]; exact if_neg ht
  rw [e3] at cE
  unfold ndV at cE
  dsimp only at cE
  have cT := fun (w1 : World) (hb : Below w.heap.size w w1) => takes_any w1 x (a : Int) ((HTB w1 hb).yes i x hi).2
  have hk : takesT x (a : Int) = true := by unfold takesT; simp; omega
  rw [hk] at cT
  have cL : ∀ (w1 : World), Below w.heap.size w w1 → Calls Tryd.prog 65 #[.agg #[.int .i64 t.tag, .slice t.aa t.an t.ac, .string t.tx, .slice t.ka t.kn t.kc]] w1 fun e w' => e = .returned (.agg #[.bool false, .bool (!shortP t), .int .i64 (hP t), .int .i64 (sizeP t : Int)]) ∧ Below w1.heap.size w1 w' := fun w1 hb => (cL w1 hb).mono (by
    rintro e w' ⟨lg, h3, c3, rfl, hb3, hq⟩
    obtain ⟨rfl, rfl, rfl⟩ := hq hg
    rw [hg, highP_is, hP_max]
    exact ⟨rfl, hb3⟩)
  rw [hs] at cL
  have hh1 := hP_size t
  have hh0 := hP_pos t
  have cF := fun (w1 : World) (hb : Below w.heap.size w w1) => fits_any w1 p nb deep l (HTB w1 hb) (hnB w1 hb) i (hP t) 41 (by omega) (by omega) (hI.endsDa hd _)
  rw [decide_eq_true hf] at cF
  have cC := fun (w1 : World) (hb : Below w.heap.size w w1) => count_any w1 p nb deep l (HTB w1 hb)
  have c1 := h.t.c1
  have hle := h.t.le
  have hpl : p < w.heap.size := lt_of_cell' c1
  have hcl := countF_le l
  have cP : ∀ (w1 : World), countF l + sizeP t ≤ l.length → Below w.heap.size w w1 → Calls Tryd.prog 68 #[.pointer (some ⟨p, 0, none⟩), .agg #[.int .i64 t.tag, .slice t.aa t.an t.ac, .string t.tx, .slice t.ka t.kn t.kc]] w1 fun e w' => ∃ j : Nat, e = .returned (.int .i64 j) ∧ Calls Tryd.prog 69 #[.pointer (some ⟨p, 0, none⟩), .int .i64 i, .int .i64 a, .int .i64 j] w' fun e2 w2 => e2 = .returned (.tuple #[]) ∧ Hid (∀ w', Below w2.heap.size w2 w' → GraftK B w p nb deep l t i a (.returned (.tuple #[.int .i64 j, .int .i64 0])) w') := fun w1 hc hb => by
    have hd1 := depthF_le l 41 (i : Int)
    have hBw : Below B w w1 := hb.mono (by omega)
    refine (plant_sk B p nb deep hd0 hd (sizeP t) t (Nat.le_refl _) hg hs hsl (by omega) w1 l (fun la wr h2 => hFar la wr ((Asd.below hb).trans h2)) (h.below hb) hI hc).mono ?_
    rintro e w' ⟨j, l2, y, rfl, q1, q2, q3, q4, q5, q6, q7, q8, q9, q10, q12⟩
    have hij : i ≠ j := fun e => by rw [e, q5] at hi; cases hi
    have hi2 := q4.old i x hi
    have hj0 : j ≠ 0 := fun e => by obtain ⟨x0, hx0, _⟩ := hI.host; rw [e, hx0] at q5; cases q5
    have hkl := q3.kidsLt hi2 q6 q7
    have hl2 := q4.len
    refine ⟨j, rfl, (join_but B w' p nb deep l2 q2 i a j x y hi2 q6 hij (by omega) (by omega)).mono ?_⟩
    rintro e2 w2 ⟨rfl, r1, ka2, kc2, r2, r3, r4⟩
    have hr : rootF l2 41 (i : Int) ≠ (j : Int) := by
      obtain ⟨m, z, e5, hz⟩ := q4.root hI 41 i x hi
      rw [e5]
      intro e6
      obtain rfl : m = j := by omega
      rw [q5] at hz; cases hz
    have hJ := q3.join hd (a := a) hi2 q6 ht q7 hj0 hr (by rw [q4.depth hI 41 i x hi]; omega) ka2 kc2
    refine ⟨rfl, Lib.hid (fun w' hb' => ⟨j, by rw [← q10], rfl, ((hBw.trans q1).trans r1).trans (hb'.mono (by have := r2.bn; have := r2.ln; omega)), _, r2.below hb', hJ, by rw [sk_joined hi2 q6, ← q10], (Asd.below hb).trans (q12.trans ((Asd.join hi2 q6 r1.size r3 r4).trans (.below hb')))⟩)⟩
  obtain ⟨n, hn2⟩ : ∃ n, l.length = n := ⟨_, rfl⟩
  obtain ⟨cf, hcf⟩ : ∃ n, countF l = n := ⟨_, rfl⟩
  obtain ⟨sz, hsz⟩ : ∃ n, sizeP t = n := ⟨_, rfl⟩
  rw [hn2] at c1 hle hcl cP
  rw [hcf] at hcl cC cP
  rw [hsz] at hn cL cP
  have HPL := Lib.hid hpl
  have hwk : IntKind.i64.wrap ((n : Int) - (cf : Int)) = (n : Int) - (cf : Int) := IntWalk.i64_in _ (by omega)
  have TB := Lib.hid (fun (w1 : World) (hb : Below w.heap.size w w1) => show w1.cell? ⟨p, 1, none⟩ = some (.slice (some ⟨nb, 0, none⟩) n n) by have hq := (HTB w1 hb).c1; rw [hn2] at hq; exact hq)
  obtain ⟨xb, hxb⟩ : ∃ b, x.ab = b := ⟨_, rfl⟩
  rw [hxb] at cE cT
  obtain ⟨hx2, hhx⟩ : ∃ z, hP t = z := ⟨_, rfl⟩
  rw [hhx] at cL cF
  have HBSZ := Lib.hid (show (w.alloc (.cells #[.int .i64 t.tag, .slice t.aa t.an t.ac, .string t.tx, .slice t.ka t.kn t.kc] 67)).heap.size = w.heap.size + 1 by simp)
  have hr : cf + sz ≤ n := by omega
  have hgt : ¬ ((n : Int) - (cf : Int) < (sz : Int)) := by omega
  have hgt2 : decide ((n : Int) - (cf : Int) < (sz : Int)) = false := decide_eq_false hgt
  have cP := fun w1 => cP w1 hr
  clear h hI hnb hbn hb1 HTB hnB hT hFar hsl hPw hv hd0 hd e3 hi ht hk hg hs hxb hh1 hh0 hf hhx hn2 hcf hsz hr0 hk0
  go_enter Tryd.func46, Tryd.ntmps46
  go_upto_region 12 with (first
    | (go_at_call 64; ((with_reducible refine (cE _ HB1.out).mono ?_); rintro e w2 ⟨rfl, hb2⟩; obtain ⟨x0, x1, x2, x3⟩ := KX.out w2 hb2; have hb := HB1.out.trans (hb2.mono (by simp)); have hbB := Lib.hid hb2; clear hb2))
    | (go_at_call 65; ((with_reducible refine (cL _ hb).mono ?_); rintro e w3 ⟨rfl, hb3⟩; replace hb := hb.trans (hb3.mono hb.size); have hz3 := hb.size; have hbC := Lib.hid (hbB.out.trans (hb3.mono hbB.out.size)); clear hbB; have hbB := hbC; clear hbC hb3 x0 x1 x2 x3))
    | (go_at_call 66; ((with_reducible refine (cT _ (by (repeat (first | (with_reducible exact hb) | (with_reducible exact Below.refl _ _) | (with_reducible refine Below.drew ?_) | (with_reducible refine Below.alloc ?_ ?_ _) | (with_reducible refine Below.setCell ?_ ?_ _) | omega | (simp <;> omega))))).mono ?_); rintro e w4 ⟨rfl, rfl⟩))
    | (go_at_call 67; ((with_reducible refine (cF _ (by (repeat (first | (with_reducible exact hb) | (with_reducible exact Below.refl _ _) | (with_reducible refine Below.drew ?_) | (with_reducible refine Below.alloc ?_ ?_ _) | (with_reducible refine Below.setCell ?_ ?_ _) | omega | (simp <;> omega))))).mono ?_); rintro e w5 ⟨rfl, hb5⟩; have hb' := (show Below w.heap.size w _ by (repeat (first | (with_reducible exact hb) | (with_reducible exact Below.refl _ _) | (with_reducible refine Below.drew ?_) | (with_reducible refine Below.alloc ?_ ?_ _) | (with_reducible refine Below.setCell ?_ ?_ _) | omega | (simp <;> omega)))).trans (hb5.mono (by simp; omega)); have hbC := Lib.hid ((show Below (w.alloc (.cells #[.int .i64 t.tag, .slice t.aa t.an t.ac, .string t.tx, .slice t.ka t.kn t.kc] 67)).heap.size (w.alloc (.cells #[.int .i64 t.tag, .slice t.aa t.an t.ac, .string t.tx, .slice t.ka t.kn t.kc] 67)) _ by (have hq := hbB.out.size; (repeat (first | (with_reducible exact hbB.out) | (with_reducible exact Below.refl _ _) | (with_reducible refine Below.drew ?_) | (with_reducible refine Below.alloc ?_ ?_ _) | (with_reducible refine Below.setCell ?_ ?_ _) | omega | (simp <;> omega))))).trans (hb5.mono (by have hq := hbB.out.size; simp at hq ⊢; omega))); have y3 : w5.cell? ⟨w3.heap.size, 3, none⟩ = some (.int .i64 (sz : Int)) := (hb5.cell (p := ⟨w3.heap.size, 3, none⟩) (by simp)).trans (by simp [go_sem]); clear hb hbB; have hb := hb'; have hbB := hbC; clear hb' hbC; have hyl : w3.heap.size < w5.heap.size := lt_of_cell' y3; have c5 := TB.out w5 hb; clear hb5)))
  have hS : (w5.cell? ⟨w3.heap.size, 3, none⟩ = some (.int .i64 (sz : Int)) ∧ w5.cell? ⟨p, 1, none⟩ = some (.slice (some ⟨nb, 0, none⟩) n n)) := ⟨y3, c5⟩
  have KS : Hid (∀ W', Below w5.heap.size w5 W' → (W'.cell? ⟨w3.heap.size, 3, none⟩ = some (.int .i64 (sz : Int)) ∧ W'.cell? ⟨p, 1, none⟩ = some (.slice (some ⟨nb, 0, none⟩) n n))) := Lib.hid (fun W' h => ⟨(h.cell (p := ⟨w3.heap.size, 3, none⟩) hyl).trans y3, (h.cell (p := ⟨p, 1, none⟩) (show p < _ by have := hb.size; have := HPL.out; omega)).trans c5⟩)
  clear y3 c5
  go_region_held3 (fun W' => (W'.cell? ⟨w3.heap.size, 3, none⟩ = some (.int .i64 (sz : Int)) ∧ W'.cell? ⟨p, 1, none⟩ = some (.slice (some ⟨nb, 0, none⟩) n n))) (first | (with_reducible exact hS) | (refine KS.out _ ?_; (repeat (first | (with_reducible exact Below.refl _ _) | (with_reducible refine Below.drew ?_))); done)) (first | (go_at_call 28; ((with_reducible refine (cC _ (by (repeat (first | (with_reducible exact hb) | (with_reducible refine Below.drew ?_))))).mono ?_); rintro e w6 ⟨rfl, rfl⟩)))
  all_goals obtain ⟨x0, x1, x2, x3⟩ := KX.out w5 hbB.out
  all_goals go_wp2_with (first
    | (go_at_call 68; ((with_reducible refine (cP _ (by (repeat (first | (with_reducible exact hb) | (with_reducible refine Below.drew ?_))))).mono ?_); rintro e w7 ⟨j, rfl, cJ⟩))
    | (go_at_call 69; ((with_reducible refine (cJ).mono ?_); rintro e w8 ⟨rfl, HK8⟩)))
  all_goals go_ret2
  all_goals exact HK8.out _ (Below.refl _ _)

end Go.Proofs.YtggjoefhopoggaaDoor
