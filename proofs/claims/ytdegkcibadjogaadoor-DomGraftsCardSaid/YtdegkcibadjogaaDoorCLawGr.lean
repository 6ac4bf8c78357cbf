/-
  The law DomGrafts.
-/
import Derived.Test.YtdegkcibadjogaaDoorCDropX

namespace Go.Proofs.YtdegkcibadjogaaDoor
open Go.RowKit Go.Lib

set_option maxRecDepth 20000 in
set_option maxHeartbeats 16000000 in
theorem domGrafts_any (w : World) (hT : OwnT w) (c d pa at_ : Int) (v : Value) (l : List Cl) (hv : ClsAt w v l) (t : Pn) (hP : PlAt w t) :
    Calls Tryd.prog 5 #[.int .i64 c, .int .i64 d, v, .int .i64 pa, .int .i64 at_, t.v] w fun e w' => e = .returned (.bool true) ∧ Below w.heap.size w w' := by
  have cH := fun (W : World) (hb : Below w.heap.size w W) => heavy_any W v l (hv.below hb)
  have cA := fun (W : World) (hb : Below w.heap.size w W) => awake_any W (hT.below hb)
  have cW := fun (W : World) (hb : Below w.heap.size w W) => weigh_any (sizeP t) t (Nat.le_refl _) W 2000 (hP.stay hb) (by decide) (by decide)
  have hsl := weighP_slim t 2000
  obtain ⟨z, hz⟩ : ∃ z, weighP t 2000 = z := ⟨_, rfl⟩
  rw [hz] at cW hsl
  have cP := fun (hh : heavyP l = false) (W : World) (hb : Below w.heap.size w W) => played_any W (hT.below hb) c d v l (hv.below hb) hh
  have HPT := Lib.hid (And.intro hP (And.intro hT trivial))
  obtain ⟨a0, c0, rfl⟩ := hv.len
  obtain ⟨tag, h1⟩ : ∃ z, t.tag = z := ⟨_, rfl⟩
  obtain ⟨aa, h2⟩ : ∃ z, t.aa = z := ⟨_, rfl⟩
  obtain ⟨an, h3⟩ : ∃ z, t.an = z := ⟨_, rfl⟩
  obtain ⟨ac, h4⟩ : ∃ z, t.ac = z := ⟨_, rfl⟩
  obtain ⟨tx, h5⟩ : ∃ z, t.tx = z := ⟨_, rfl⟩
  obtain ⟨ka, h6⟩ : ∃ z, t.ka = z := ⟨_, rfl⟩
  obtain ⟨kn, h7⟩ : ∃ z, t.kn = z := ⟨_, rfl⟩
  obtain ⟨kc, h8⟩ : ∃ z, t.kc = z := ⟨_, rfl⟩
  have hvt : t.v = .agg #[.int .i64 tag, .slice aa an ac, .string tx, .slice ka kn kc] := by unfold Pn.v; rw [h1, h2, h3, h4, h5, h6, h7, h8]
  rw [hvt] at cW ⊢
  have HVT := Lib.hid hvt
  clear h1 h2 h3 h4 h5 h6 h7 h8 hz hT hv hP hvt
  go_enter Tryd.func5, Tryd.ntmps5
  go_upto_region 1 with (fail)
  obtain ⟨r, hr⟩ : ∃ r, w.heap.size = r := ⟨_, rfl⟩
  obtain ⟨Wa, hWa⟩ : ∃ z, w.alloc (.cells #[.int .i64 tag, .slice aa an ac, .string tx, .slice ka kn kc] 34) = z := ⟨_, rfl⟩
  have hba : Below w.heap.size w Wa := by rw [← hWa]; exact (Below.refl _ _).alloc (Nat.le_refl _) _
  have hsa : Wa.heap.size = r + 1 := by rw [← hWa, ← hr]; simp
  have KX : Hid (∀ W' : World, W'.heap[r]? = Wa.heap[r]? → (W'.cell? ⟨r, 0, none⟩ = some (.int .i64 tag) ∧ W'.cell? ⟨r, 1, none⟩ = some (.slice aa an ac) ∧ W'.cell? ⟨r, 2, none⟩ = some (.string tx) ∧ W'.cell? ⟨r, 3, none⟩ = some (.slice ka kn kc)) ∧ ∀ j, W'.frozen? ⟨r, j, none⟩ = false) := Lib.hid (fun W' h => by
    have hc : ∀ j, W'.cell? ⟨r, j, none⟩ = Wa.cell? ⟨r, j, none⟩ := fun j => World.cell?_of_block (w := Wa) h
    rw [hc, hc, hc, hc]
    refine ⟨?_, fun j => (World.frozen?_of_block (w := Wa) h).trans ?_⟩
    · rw [← hWa, ← hr]
      exact ⟨by simp [go_sem], by simp [go_sem], by simp [go_sem], by simp [go_sem]⟩
    · rw [← hWa, ← hr]
      simp [go_sem])
  rw [hWa]
  (try simp only [hr])
  clear hWa
  have cH0 := cH Wa hba
  have HBA := Lib.hid hba
  clear cH hba
  cases hh : heavyP l with
  | true =>
    rw [hh] at cH0
    clear hh
    go_wp2_with (first
      | (go_at_call 8; ((with_reducible refine (cH0).mono ?_); rintro e w1 ⟨rfl, hb⟩))
      | (go_at_call 9; ((with_reducible refine (cA _ (HBA.out.trans (hb.mono HBA.out.size))).mono ?_); rintro e w2 ⟨rfl, hb2⟩)))
    go_ret
    exact ⟨rfl, (HBA.out.trans (hb.mono HBA.out.size)).trans (hb2.mono (HBA.out.trans (hb.mono HBA.out.size)).size)⟩
  | false =>
    rw [hh] at cH0
    replace cP := cP hh
    clear hh
    by_cases hw : z < 0
    · have hwb : decide (z < 0) = true := decide_eq_true hw
      go_wp2_with (first
        | (go_at_call 8; ((with_reducible refine (cH0).mono ?_); rintro e w1 ⟨rfl, hb⟩; have hb1 := HBA.out.trans (hb.mono HBA.out.size); obtain ⟨⟨y0, y1, y2, y3⟩, _⟩ := KX.out w1 (hb.block r (by omega))))
        | (go_at_call 20; ((with_reducible refine (cW _ hb1).mono ?_); rintro e w5 ⟨rfl, hb5⟩; have hb6 := hb1.trans (hb5.mono hb1.size)))
        | (go_at_call 9; ((with_reducible refine (cA _ hb6).mono ?_); rintro e w2 ⟨rfl, hb2⟩)))
      go_ret
      exact ⟨rfl, hb6.trans (hb2.mono hb6.size)⟩
    · have hwb : decide (z < 0) = false := decide_eq_false hw
      obtain ⟨hslim, hszz⟩ := hsl (by omega)
      have hsz : sizeP t ≤ 2000 := by omega
      have HSZ := Lib.hid (And.intro hslim hsz)
      clear hslim hszz hsl
      go_upto_region 4 with (first
        | (go_at_call 8; ((with_reducible refine (cH0).mono ?_); rintro e w1 ⟨rfl, hb⟩; have hb1 := HBA.out.trans (hb.mono HBA.out.size); obtain ⟨⟨y0, y1, y2, y3⟩, _⟩ := KX.out w1 (hb.block r (by omega))))
        | (go_at_call 20; ((with_reducible refine (cW _ hb1).mono ?_); rintro e w2 ⟨rfl, hb5⟩; have hbq := hb1.trans (hb5.mono hb1.size); have hsr : r < w2.heap.size := (by have := hb.size; have := hb5.size; omega); have hk2 := (hb5.block r (by have := hb.size; omega)).trans (hb.block r (by omega)); clear y0 y1 y2 y3 hb hb1 hb5))
        | (go_at_call 18; ((with_reducible refine (cP _ hbq).mono ?_); rintro e w3 (⟨rfl, hb3⟩ | ⟨p, rfl, hS⟩))))
      · go_wp2_with (go_at_call 9; ((with_reducible refine (cA _ (hbq.trans (hb3.mono hbq.size))).mono ?_); rintro e w4 ⟨rfl, hb4⟩))
        go_ret
        exact ⟨rfl, (hbq.trans (hb3.mono hbq.size)).trans (hb4.mono (hbq.trans (hb3.mono hbq.size)).size)⟩
      · obtain ⟨hd0, hd1, _, _, hbP, nb, l2, hF, hI, _⟩ := hS
        obtain ⟨B, hB⟩ : ∃ z, w2.heap.size = z := ⟨_, rfl⟩
        rw [hB] at hbP hF hsr
        have hBw : w.heap.size ≤ B := by rw [← hB]; exact hbq.size
        have hB3 : B ≤ w3.heap.size := by have := hF.bn; have := hF.ln; omega
        have cPl := plain_any B p nb d l2 hI.ats 41 0 (hI.endsHa hd1 0) w3 hF
        unfold PlainPost at cPl
        have cCt := fun (W' : World) (hb : Below w3.heap.size w3 W') => count_any W' p nb d l2 (hF.below hb).t
        have HF := Lib.hid hF
        have HI := Lib.hid hI
        have HBP := Lib.hid hbP
        have HBQ := Lib.hid hbq
        have KXB : Hid (∀ W', Below B w2 W' → (W'.cell? ⟨r, 0, none⟩ = some (.int .i64 tag) ∧ W'.cell? ⟨r, 1, none⟩ = some (.slice aa an ac) ∧ W'.cell? ⟨r, 2, none⟩ = some (.string tx) ∧ W'.cell? ⟨r, 3, none⟩ = some (.slice ka kn kc)) ∧ ∀ j, W'.frozen? ⟨r, j, none⟩ = false) := Lib.hid (fun W' h => KX.out W' ((h.block r hsr).trans hk2))
        clear cH0 cP cW hF hI hbP hbq hk2 KX
        go_upto_region 7 with (first
          | (go_at_call 21; ((with_reducible refine (cPl).mono ?_); rintro e w4 ⟨tgA, aaA, anA, acA, txA, kaA, knA, kcA, atA, ksA, rfl, hpA, hb4, honA⟩; have cC4 := cCt _ hb4))
          | (go_at_call 22; ((with_reducible refine (cC4).mono ?_); rintro e w5 ⟨rfl, rfl⟩)))
        obtain ⟨q, hq⟩ : ∃ z, w4.heap.size = z := ⟨_, rfl⟩
        obtain ⟨W6, hW6⟩ : ∃ z, w4.alloc (.cells #[.int .i64 tgA, .slice aaA anA acA, .string txA, .slice kaA knA kcA] 34) = z := ⟨_, rfl⟩
        have hs6 : W6.heap.size = q + 1 := by rw [← hW6, ← hq]; simp
        have hb46 : Below w4.heap.size w4 W6 := by rw [← hW6]; exact (Below.refl _ _).alloc (Nat.le_refl _) _
        have hb6 : Below w3.heap.size w3 W6 := hb4.trans (hb46.mono hb4.size)
        have hs34 := hb4.size
        have hXA : (W6.cell? ⟨q, 0, none⟩ = some (.int .i64 tgA) ∧ W6.cell? ⟨q, 1, none⟩ = some (.slice aaA anA acA) ∧ W6.cell? ⟨q, 2, none⟩ = some (.string txA) ∧ W6.cell? ⟨q, 3, none⟩ = some (.slice kaA knA kcA)) := by rw [← hW6, ← hq]; exact ⟨by simp [go_sem], by simp [go_sem], by simp [go_sem], by simp [go_sem]⟩
        have hoA : PlOn (fun b => w3.heap.size ≤ b ∧ b < W6.heap.size) W6 (Pn.mk tgA aaA anA acA txA kaA knA kcA atA ksA) := (honA.keep (w' := W6) (fun b hb => hb46.block b hb.2)).more (fun b hb => ⟨hb.1, by omega⟩) (fun b hb => hb.2)
        have HPrA := Lib.hid hoA.at_
        have HpA := Lib.hid hpA
        have hqS : (fun b => w3.heap.size ≤ b ∧ b < W6.heap.size) q := ⟨by omega, by omega⟩
        have KXA : Hid (∀ W' : World, (∀ b, (fun b => w3.heap.size ≤ b ∧ b < W6.heap.size) b → W'.heap[b]? = W6.heap[b]?) → (W'.cell? ⟨q, 0, none⟩ = some (.int .i64 tgA) ∧ W'.cell? ⟨q, 1, none⟩ = some (.slice aaA anA acA) ∧ W'.cell? ⟨q, 2, none⟩ = some (.string txA) ∧ W'.cell? ⟨q, 3, none⟩ = some (.slice kaA knA kcA))) := Lib.hid (fun W' h => by
          obtain ⟨x0, x1, x2, x3⟩ := hXA
          have hs := h q hqS
          exact ⟨(World.cell?_of_block (w := W6) hs).trans x0, (World.cell?_of_block (w := W6) hs).trans x1, (World.cell?_of_block (w := W6) hs).trans x2, (World.cell?_of_block (w := W6) hs).trans x3⟩)
        have HSS : Hid (∀ b, (fun b => w3.heap.size ≤ b ∧ b < W6.heap.size) b → b < W6.heap.size) := Lib.hid (fun b hb => hb.2)
        have HS : Hid (HsSt B w2 W6 (fun b => w3.heap.size ≤ b ∧ b < W6.heap.size) p nb d l2 l2 W6) := Lib.hid ⟨HBP.out.trans (hb6.mono hB3), HF.out.below hb6, HI.out, LS.refl l2, fun b hb => ⟨fun e => by have h9 := HF.out.ln; have h8 := hb.1; omega, fun ht => by have h9 := TB.lt HF.out b ht; have h8 := hb.1; omega⟩, fun b _ => rfl⟩
        rw [hW6]
        (try simp only [hq])
        clear hW6 hb46 hb6 hXA hoA honA hpA hb4 cPl hqS cC4 cCt
        have cG := graft_exact B W6 p nb d l2 HS.out.f HS.out.i hd0 hd1 (HPT.out.2.1.below (HBQ.out.trans (HS.out.b.mono hBw))) w2 hB HS.out.b t (HPT.out.1.stay HBQ.out) HSZ.out.1 (by have := HSZ.out.2; omega) pa at_
        rw [HVT.out] at cG
        unfold GraftX at cG
        obtain ⟨⟨y0, y1, y2, y3⟩, _⟩ := KXB.out W6 HS.out.b
        have cA4 : ∀ wc, Below B w2 wc → ∀ W, Below wc.heap.size wc W → Calls Tryd.prog 9 #[] W fun e w' => e = .returned (.bool true) ∧ Below W.heap.size W w' := fun wc s W hb => cA W ((HBQ.out.trans (s.mono hBw)).trans (hb.mono (HBQ.out.trans (s.mono hBw)).size))
        go_upto_region 8 with (go_at_call 23; ((with_reducible refine (cG).mono ?_); rintro e w7 (⟨cc, hcc, rfl, hb7⟩ | ⟨i, a, j, x, y, l3, ka3, kc3, rfl, hb7, rfl, rfl, hi, ha, hI3, hG, hjn, hj, hu, hct, hPl, hN, hFJ, hIJ, hAJ⟩); clear y0 y1 y2 y3))
        · have hccb : (cc == 0) = false := by simpa using hcc
          have HS7 := Lib.hid (HsSt.below HS.out HSS.out hb7)
          clear HS hb7 cG
          have HS := HS7
          clear HS7
          go_upto_region 9 with (fail)
          have cC5 : ∀ wc, HsSt B w2 W6 (fun b => w3.heap.size ≤ b ∧ b < W6.heap.size) p nb d l2 l2 wc → ∀ W, Below wc.heap.size wc W → Calls Tryd.prog 22 #[.pointer (some ⟨p, 0, none⟩)] W fun e w' => e = .returned (.int .i64 (countF l2 : Int)) ∧ W = w' := fun wc s W hb => count_any W p nb d l2 (s.f.below hb).t
          have cP5 : ∀ wc, HsSt B w2 W6 (fun b => w3.heap.size ≤ b ∧ b < W6.heap.size) p nb d l2 l2 wc → ∀ W, Below wc.heap.size wc W → Calls Tryd.prog 21 #[.pointer (some ⟨p, 0, none⟩), .int .i64 0] W (PlainPost (plainF l2 41 0) W) := fun wc s W hb => plain_any B p nb d l2 s.i.ats 41 0 (s.i.endsHa hd1 0) W (s.f.below hb)
          unfold PlainPost at cP5
          have hS : (w7.cell? ⟨q, 0, none⟩ = some (.int .i64 tgA) ∧ w7.cell? ⟨q, 1, none⟩ = some (.slice aaA anA acA) ∧ w7.cell? ⟨q, 2, none⟩ = some (.string txA) ∧ w7.cell? ⟨q, 3, none⟩ = some (.slice kaA knA kcA)) := KXA.out w7 HS.out.same
          have hb : Hid (Below w7.heap.size w7 w7) := Lib.hid (Below.refl _ _)
          go_region_held3 (fun W' => (W'.cell? ⟨q, 0, none⟩ = some (.int .i64 tgA) ∧ W'.cell? ⟨q, 1, none⟩ = some (.slice aaA anA acA) ∧ W'.cell? ⟨q, 2, none⟩ = some (.string txA) ∧ W'.cell? ⟨q, 3, none⟩ = some (.slice kaA knA kcA))) (first | (with_reducible exact hS) | (refine KXA.out _ (HsSt.below HS.out HSS.out ?_).same; (repeat (first | (with_reducible exact hb.out) | (with_reducible exact Below.refl _ _) | (with_reducible refine Below.drew ?_) | (with_reducible refine Below.alloc ?_ ?_ _) | omega | (simp <;> omega))); done)) (first
            | (go_at_call 22; ((with_reducible refine (cC5 _ HS.out _ (show Below w7.heap.size w7 _ by (repeat (first | (with_reducible exact hb.out) | (with_reducible exact Below.refl _ _) | (with_reducible refine Below.drew ?_) | (with_reducible refine Below.alloc ?_ ?_ _) | omega | (simp <;> omega))))).mono ?_); rintro e w21 ⟨rfl, rfl⟩))
            | (go_at_call 21; ((with_reducible refine (cP5 _ HS.out _ (show Below w7.heap.size w7 _ by (repeat (first | (with_reducible exact hb.out) | (with_reducible exact Below.refl _ _) | (with_reducible refine Below.drew ?_) | (with_reducible refine Below.alloc ?_ ?_ _) | omega | (simp <;> omega))))).mono ?_); rintro e w2D ⟨tgD, aaD, anD, acD, txD, kaD, knD, kcD, atD, ksD, rfl, hp5, hb8, hon8⟩; have hbq := Lib.hid (pre_of (a := w7) hb8 (by (repeat (first | (with_reducible exact hb.out) | (with_reducible exact Below.refl _ _) | (with_reducible refine Below.drew ?_) | (with_reducible refine Below.alloc ?_ ?_ _) | omega | (simp <;> omega))))); have hd2 := Lib.hid (hbq.out.trans (hb8.mono hbq.out.size)); have H8D := Lib.hid hon8.here; have HPD := Lib.hid hp5; clear hb hb8 hbq hon8 hp5; have hb := hd2; clear hd2; replace hS := KXA.out _ (HsSt.below HS.out HSS.out hb.out).same))
            | (go_at_call 24; ((with_reducible refine (samenode_mk (HPD.out.trans HpA.out.symm) _ ?p1 ?p2).mono ?_); (case p1 => exact H8D.out.stay (show Below w2D.heap.size w2D _ by (repeat (first | (with_reducible exact Below.refl _ _) | (with_reducible refine Below.drew ?_) | (with_reducible refine Below.alloc ?_ ?_ _) | omega | (simp <;> omega))))); (case p2 => exact HPrA.out _ (HsSt.below HS.out HSS.out (show Below w7.heap.size w7 _ by (repeat (first | (with_reducible exact hb.out) | (with_reducible exact Below.refl _ _) | (with_reducible refine Below.drew ?_) | (with_reducible refine Below.alloc ?_ ?_ _) | omega | (simp <;> omega))))).same); rintro e w22 ⟨rfl, hb10⟩; have hbq := Lib.hid (pre_of (a := w7) hb10 (by (repeat (first | (with_reducible exact hb.out) | (with_reducible exact Below.refl _ _) | (with_reducible refine Below.drew ?_) | (with_reducible refine Below.alloc ?_ ?_ _) | omega | (simp <;> omega))))); have hd2 := Lib.hid (hbq.out.trans (hb10.mono hbq.out.size)); clear hb hb10 hbq; have hb := hd2; clear hd2; replace hS := KXA.out _ (HsSt.below HS.out HSS.out hb.out).same))
            | (go_at_call 9; ((with_reducible refine (cA4 _ HS.out.b _ (show Below w7.heap.size w7 _ by (repeat (first | (with_reducible exact hb.out) | (with_reducible exact Below.refl _ _) | (with_reducible refine Below.drew ?_) | (with_reducible refine Below.alloc ?_ ?_ _) | omega | (simp <;> omega))))).mono ?_); rintro e w33 ⟨rfl, hb10⟩; have hbq := Lib.hid (pre_of (a := w7) hb10 (by (repeat (first | (with_reducible exact hb.out) | (with_reducible exact Below.refl _ _) | (with_reducible refine Below.drew ?_) | (with_reducible refine Below.alloc ?_ ?_ _) | omega | (simp <;> omega))))); have hd2 := Lib.hid (hbq.out.trans (hb10.mono hbq.out.size)); clear hb hb10 hbq; have hb := hd2; clear hd2; replace hS := KXA.out _ (HsSt.below HS.out HSS.out hb.out).same)))
          all_goals go_wp2
          all_goals go_ret
          all_goals exact ⟨rfl, (HBQ.out.trans (HS.out.b.mono hBw)).trans (hb.out.mono (HBQ.out.trans (HS.out.b.mono hBw)).size)⟩
        · have hs67 := hFJ.ln
          have hbB7 := hFJ.bn
          have hB7 : B ≤ w7.heap.size := by omega
          have s7 := HsSt.asd HS.out HSS.out hb7 hFJ hIJ hAJ
          obtain ⟨hij, hj0, gi, gj, hget, hPJ, hcJ, hupJ, hixJ, hRR⟩ := grafted HI.out hi ha hI3 hG hjn hj hu hct hPl hN hIJ
          obtain ⟨lJ, hlJ⟩ : ∃ z, joinedZ l3 i x a j y ka3 kc3 = z := ⟨_, rfl⟩
          rw [hlJ] at s7 gi gj hPJ hcJ hupJ hixJ hRR
          obtain ⟨lR, hlR⟩ : ∃ z, removedZ lJ i { x with ka := ka3, kc := kc3, kids := insZ x.kids a j } a j { y with up := (i : Int) } = z := ⟨_, rfl⟩
          obtain ⟨hPR, hupR, ⟨y', gjR, huR⟩, hEnd⟩ := hRR lR hlR.symm
          have cAn := anewNode_any t (by have := HSZ.out.2; omega) w7 (HPT.out.1.stay (HBQ.out.trans (s7.b.mono hBw))) HSZ.out.1
          rw [HVT.out] at cAn
          unfold AnewPost at cAn
          have hc2 : countF l2 ≤ 2000 := Nat.le_trans (countF_le l2) HF.out.t.le
          have hsz2 := HSZ.out.2
          have hcI : ((countF lJ : Nat) : Int) = (countF l2 : Int) + (sizeP t : Int) := by omega
          have hw1 : IntKind.i64.wrap ((countF l2 : Int) + (sizeP t : Int)) = (countF l2 : Int) + (sizeP t : Int) := IntWalk.i64_in _ (by omega)
          have HS7 := Lib.hid s7
          have HRm := Lib.hid (And.intro gi (And.intro gj (And.intro hget (And.intro hlR trivial))))
          have HJ := Lib.hid (And.intro hPJ (And.intro hcI (And.intro hupJ hixJ)))
          have HR := Lib.hid (And.intro hPR (And.intro hupR (And.intro gjR (And.intro huR hEnd))))
          obtain ⟨⟨y0, y1, y2, y3⟩, _⟩ := KXB.out w7 s7.b
          clear cG hb7 hi ha hI3 hG hjn hj hu hct hPl hN hFJ hIJ hAJ s7 gi gj hget hPJ hcJ hupJ hixJ hRR hlJ hlR hPR hupR gjR huR hEnd hij hs67 hbB7 HS cA4 hcI
          go_upto_region 11 with (go_at_call 25; ((with_reducible refine (cAn).mono ?_); rintro e w8 ⟨tgN, aaN, anN, acN, txN, kaN, knN, kcN, atN, ksN, rfl, hpN, hb8, honN⟩; have HB8 := Lib.hid hb8; have HPrN0 := Lib.hid honN; have HpN := Lib.hid hpN; clear y0 y1 y2 y3; obtain ⟨⟨y0, y1, y2, y3⟩, yf⟩ := KXB.out w8 (HS7.out.b.trans (hb8.mono hB7)); have yf0 := yf 0; have yf1 := yf 1; have yf2 := yf 2; have yf3 := yf 3; clear yf hb8 honN hpN))
          obtain ⟨W9, hW9⟩ : ∃ z, (((w8.setCell ⟨r, 0, none⟩ (.int .i64 tgN)).setCell ⟨r, 1, none⟩ (.slice aaN anN acN)).setCell ⟨r, 2, none⟩ (.string txN)).setCell ⟨r, 3, none⟩ (.slice kaN knN kcN) = z := ⟨_, rfl⟩
          have hset : ∀ b, b ≠ r → W9.heap[b]? = w8.heap[b]? := fun b hb => by
            rw [← hW9]
            exact (((Below.heap_setCell _ ⟨r, 3, none⟩ _ b hb).trans (Below.heap_setCell _ ⟨r, 2, none⟩ _ b hb)).trans (Below.heap_setCell _ ⟨r, 1, none⟩ _ b hb)).trans (Below.heap_setCell _ ⟨r, 0, none⟩ _ b hb)
          have hs9 : W9.heap.size = w8.heap.size := by rw [← hW9]; simp [World.setCell]
          have hs78 := HB8.out.size
          have hbx9 : (W9.cell? ⟨r, 0, none⟩ = some (.int .i64 tgN) ∧ W9.cell? ⟨r, 1, none⟩ = some (.slice aaN anN acN) ∧ W9.cell? ⟨r, 2, none⟩ = some (.string txN) ∧ W9.cell? ⟨r, 3, none⟩ = some (.slice kaN knN kcN)) := by
            have h4 : At4 W9 r 0 (Pn.mk tgN aaN anN acN txN kaN knN kcN atN ksN) := by
              rw [← hW9]
              exact set4_at (t := .mk tag aa an ac tx ka kn kc [] []) (u := (Pn.mk tgN aaN anN acN txN kaN knN kcN atN ksN)) ⟨y0, y1, y2, y3⟩
            exact ⟨h4.c0, h4.c1, h4.c2, h4.c3⟩
          have HB9 : Hid (Below w.heap.size w W9) := Lib.hid (by
            rw [← hW9]
            exact (((((HBQ.out.trans (HS7.out.b.mono hBw)).trans (HB8.out.mono (HBQ.out.trans (HS7.out.b.mono hBw)).size)).setCell (p := ⟨r, 0, none⟩) (Nat.le_of_eq hr) _).setCell (p := ⟨r, 1, none⟩) (Nat.le_of_eq hr) _).setCell (p := ⟨r, 2, none⟩) (Nat.le_of_eq hr) _).setCell (p := ⟨r, 3, none⟩) (Nat.le_of_eq hr) _)
          have HS : Hid (HsSt B W9 W9 (fun b => (fun b => w3.heap.size ≤ b ∧ b < W6.heap.size) b ∨ (w7.heap.size ≤ b ∧ b < w8.heap.size) ∨ b = r) p nb d lJ lJ W9) := Lib.hid (HsSt.reset HS7.out HSS.out HB8.out hsr hset hs9)
          have HSS2 : Hid (∀ b, (fun b => (fun b => w3.heap.size ≤ b ∧ b < W6.heap.size) b ∨ (w7.heap.size ≤ b ∧ b < w8.heap.size) ∨ b = r) b → b < W9.heap.size) := Lib.hid (fun b hb => by
            rw [hs9]
            rcases hb with hb | hb | hb
            · have := lt_of_same (HSS.out b hb) (HS7.out.same b hb); omega
            · omega
            · omega)
          have hs96 : ∀ b, (fun b => w3.heap.size ≤ b ∧ b < W6.heap.size) b → W9.heap[b]? = W6.heap[b]? := fun b hb => (hset b (by have := hb.1; omega)).trans ((HB8.out.block b (lt_of_same (HSS.out b hb) (HS7.out.same b hb))).trans (HS7.out.same b hb))
          have KXN : Hid (∀ W' : World, (∀ b, (fun b => (fun b => w3.heap.size ≤ b ∧ b < W6.heap.size) b ∨ (w7.heap.size ≤ b ∧ b < w8.heap.size) ∨ b = r) b → W'.heap[b]? = W9.heap[b]?) → (W'.cell? ⟨r, 0, none⟩ = some (.int .i64 tgN) ∧ W'.cell? ⟨r, 1, none⟩ = some (.slice aaN anN acN) ∧ W'.cell? ⟨r, 2, none⟩ = some (.string txN) ∧ W'.cell? ⟨r, 3, none⟩ = some (.slice kaN knN kcN))) := Lib.hid (fun W' h => by
            obtain ⟨x0, x1, x2, x3⟩ := hbx9
            have hs := h r (.inr (.inr rfl))
            exact ⟨(World.cell?_of_block (w := W9) hs).trans x0, (World.cell?_of_block (w := W9) hs).trans x1, (World.cell?_of_block (w := W9) hs).trans x2, (World.cell?_of_block (w := W9) hs).trans x3⟩)
          have KXA2 : Hid (∀ W' : World, (∀ b, (fun b => (fun b => w3.heap.size ≤ b ∧ b < W6.heap.size) b ∨ (w7.heap.size ≤ b ∧ b < w8.heap.size) ∨ b = r) b → W'.heap[b]? = W9.heap[b]?) → (W'.cell? ⟨q, 0, none⟩ = some (.int .i64 tgA) ∧ W'.cell? ⟨q, 1, none⟩ = some (.slice aaA anA acA) ∧ W'.cell? ⟨q, 2, none⟩ = some (.string txA) ∧ W'.cell? ⟨q, 3, none⟩ = some (.slice kaA knA kcA))) := Lib.hid (fun W' h => KXA.out W' (fun b hb => (h b (.inl hb)).trans (hs96 b hb)))
          have HPrA2 : Hid (∀ W' : World, (∀ b, (fun b => (fun b => w3.heap.size ≤ b ∧ b < W6.heap.size) b ∨ (w7.heap.size ≤ b ∧ b < w8.heap.size) ∨ b = r) b → W'.heap[b]? = W9.heap[b]?) → PrAt W' (Pn.mk tgA aaA anA acA txA kaA knA kcA atA ksA)) := Lib.hid (fun W' h => HPrA.out W' (fun b hb => (h b (.inl hb)).trans (hs96 b hb)))
          have HPrN : Hid (∀ W' : World, (∀ b, (fun b => (fun b => w3.heap.size ≤ b ∧ b < W6.heap.size) b ∨ (w7.heap.size ≤ b ∧ b < w8.heap.size) ∨ b = r) b → W'.heap[b]? = W9.heap[b]?) → PrAt W' (Pn.mk tgN aaN anN acN txN kaN knN kcN atN ksN)) := Lib.hid (fun W' h => HPrN0.out.at_ W' (fun b hb => (h b (.inr (.inl hb))).trans (hset b (by omega))))
          rw [hW9]
          clear hW9 hset hs96 hbx9 y0 y1 y2 y3 yf0 yf1 yf2 yf3 cAn KXA HPrA HPrN0
          have cA9 : ∀ wc, Below B W9 wc → ∀ W, Below wc.heap.size wc W → Calls Tryd.prog 9 #[] W fun e w' => e = .returned (.bool true) ∧ Below W.heap.size W w' := fun wc s W hb => cA W ((HB9.out.trans (s.mono hBw)).trans (hb.mono (HB9.out.trans (s.mono hBw)).size))
          have cPj : ∀ wc, HsSt B W9 W9 (fun b => (fun b => w3.heap.size ≤ b ∧ b < W6.heap.size) b ∨ (w7.heap.size ≤ b ∧ b < w8.heap.size) ∨ b = r) p nb d lJ lJ wc → ∀ W, Below wc.heap.size wc W → Calls Tryd.prog 21 #[.pointer (some ⟨p, 0, none⟩), .int .i64 (j : Int)] W (PlainPost (anewPt t.pt) W) := fun wc s W hb => by
            have := plain_any B p nb d lJ s.i.ats 41 (j : Int) (s.i.endsHa hd1 _) W (s.f.below hb)
            rw [HJ.out.1] at this
            exact this
          have cCj : ∀ wc, HsSt B W9 W9 (fun b => (fun b => w3.heap.size ≤ b ∧ b < W6.heap.size) b ∨ (w7.heap.size ≤ b ∧ b < w8.heap.size) ∨ b = r) p nb d lJ lJ wc → ∀ W, Below wc.heap.size wc W → Calls Tryd.prog 22 #[.pointer (some ⟨p, 0, none⟩)] W fun e w' => e = .returned (.int .i64 ((countF l2 : Int) + (sizeP t : Int))) ∧ W = w' := fun wc s W hb => by
            have := count_any W p nb d lJ (s.f.below hb).t
            rw [HJ.out.2.1] at this
            exact this
          have cPa : ∀ wc, HsSt B W9 W9 (fun b => (fun b => w3.heap.size ≤ b ∧ b < W6.heap.size) b ∨ (w7.heap.size ≤ b ∧ b < w8.heap.size) ∨ b = r) p nb d lJ lJ wc → ∀ W, Below wc.heap.size wc W → Calls Tryd.prog 27 #[.pointer (some ⟨p, 0, none⟩), .int .i64 (j : Int)] W fun e w' => e = .returned (.int .i64 (i : Int)) ∧ W = w' := fun wc s W hb => by
            have := parent_any W p nb d (j : Int) lJ (s.f.below hb).t
            rw [HJ.out.2.2.1] at this
            exact this
          have cIx : ∀ wc, HsSt B W9 W9 (fun b => (fun b => w3.heap.size ≤ b ∧ b < W6.heap.size) b ∨ (w7.heap.size ≤ b ∧ b < w8.heap.size) ∨ b = r) p nb d lJ lJ wc → ∀ W, Below wc.heap.size wc W → Calls Tryd.prog 28 #[.pointer (some ⟨p, 0, none⟩), .int .i64 (j : Int)] W fun e w' => e = .returned (.int .i64 (a : Int)) ∧ W = w' := fun wc s W hb => by
            have := index_any W p nb d (j : Int) lJ (s.f.below hb).t
            rw [HJ.out.2.2.2] at this
            exact this
          have cSz : ∀ W, PrAt W (Pn.mk tgN aaN anN acN txN kaN knN kcN atN ksN) → Calls Tryd.prog 26 #[.agg #[.int .i64 tgN, .slice aaN anN acN, .string txN, .slice kaN knN kcN]] W fun e w' => e = .returned (.int .i64 (sizeP t : Int)) ∧ Below W.heap.size W w' := fun W h => by
            have := rsize_any (sizeP (Pn.mk tgN aaN anN acN txN kaN knN kcN atN ksN)) (Pn.mk tgN aaN anN acN txN kaN knN kcN atN ksN) (Nat.le_refl _) (by rw [sizeP_anew HpN.out]; omega) W h
            rw [sizeP_anew HpN.out] at this
            exact this
          unfold PlainPost at cPj
          have hS : (W9.cell? ⟨r, 0, none⟩ = some (.int .i64 tgN) ∧ W9.cell? ⟨r, 1, none⟩ = some (.slice aaN anN acN) ∧ W9.cell? ⟨r, 2, none⟩ = some (.string txN) ∧ W9.cell? ⟨r, 3, none⟩ = some (.slice kaN knN kcN)) := KXN.out W9 HS.out.same
          have hb : Hid (Below W9.heap.size W9 W9) := Lib.hid (Below.refl _ _)
          go_region_held3 (fun W' => (W'.cell? ⟨r, 0, none⟩ = some (.int .i64 tgN) ∧ W'.cell? ⟨r, 1, none⟩ = some (.slice aaN anN acN) ∧ W'.cell? ⟨r, 2, none⟩ = some (.string txN) ∧ W'.cell? ⟨r, 3, none⟩ = some (.slice kaN knN kcN))) (first | (with_reducible exact hS) | (refine KXN.out _ (HsSt.below HS.out HSS2.out ?_).same; (repeat (first | (with_reducible exact hb.out) | (with_reducible exact Below.refl _ _) | (with_reducible refine Below.drew ?_) | (with_reducible refine Below.alloc ?_ ?_ _) | omega | (simp <;> omega))); done)) (first
            | (go_at_call 27; ((with_reducible refine (cPa _ HS.out _ (show Below W9.heap.size W9 _ by (repeat (first | (with_reducible exact hb.out) | (with_reducible exact Below.refl _ _) | (with_reducible refine Below.drew ?_) | (with_reducible refine Below.alloc ?_ ?_ _) | omega | (simp <;> omega))))).mono ?_); rintro e w21 ⟨rfl, rfl⟩))
            | (go_at_call 28; ((with_reducible refine (cIx _ HS.out _ (show Below W9.heap.size W9 _ by (repeat (first | (with_reducible exact hb.out) | (with_reducible exact Below.refl _ _) | (with_reducible refine Below.drew ?_) | (with_reducible refine Below.alloc ?_ ?_ _) | omega | (simp <;> omega))))).mono ?_); rintro e w21 ⟨rfl, rfl⟩))
            | (go_at_call 22; ((with_reducible refine (cCj _ HS.out _ (show Below W9.heap.size W9 _ by (repeat (first | (with_reducible exact hb.out) | (with_reducible exact Below.refl _ _) | (with_reducible refine Below.drew ?_) | (with_reducible refine Below.alloc ?_ ?_ _) | omega | (simp <;> omega))))).mono ?_); rintro e w21 ⟨rfl, rfl⟩))
            | (go_at_call 21; ((with_reducible refine (cPj _ HS.out _ (show Below W9.heap.size W9 _ by (repeat (first | (with_reducible exact hb.out) | (with_reducible exact Below.refl _ _) | (with_reducible refine Below.drew ?_) | (with_reducible refine Below.alloc ?_ ?_ _) | omega | (simp <;> omega))))).mono ?_); rintro e w2K ⟨tgK, aaK, anK, acK, txK, kaK, knK, kcK, atK, ksK, rfl, hp5, hb8, hon8⟩; have hbq := Lib.hid (pre_of (a := W9) hb8 (by (repeat (first | (with_reducible exact hb.out) | (with_reducible exact Below.refl _ _) | (with_reducible refine Below.drew ?_) | (with_reducible refine Below.alloc ?_ ?_ _) | omega | (simp <;> omega))))); have hd2 := Lib.hid (hbq.out.trans (hb8.mono hbq.out.size)); have H8K := Lib.hid hon8.here; have HPK := Lib.hid hp5; clear hb hb8 hbq hon8 hp5; have hb := hd2; clear hd2; replace hS := KXN.out _ (HsSt.below HS.out HSS2.out hb.out).same))
            | (go_at_call 24; ((with_reducible refine (samenode_mk (HPK.out.trans HpN.out.symm) _ ?p1 ?p2).mono ?_); (case p1 => exact H8K.out.stay (show Below w2K.heap.size w2K _ by (repeat (first | (with_reducible exact Below.refl _ _) | (with_reducible refine Below.drew ?_) | (with_reducible refine Below.alloc ?_ ?_ _) | omega | (simp <;> omega))))); (case p2 => exact HPrN.out _ (HsSt.below HS.out HSS2.out (show Below W9.heap.size W9 _ by (repeat (first | (with_reducible exact hb.out) | (with_reducible exact Below.refl _ _) | (with_reducible refine Below.drew ?_) | (with_reducible refine Below.alloc ?_ ?_ _) | omega | (simp <;> omega))))).same); rintro e w22 ⟨rfl, hb10⟩; have hbq := Lib.hid (pre_of (a := W9) hb10 (by (repeat (first | (with_reducible exact hb.out) | (with_reducible exact Below.refl _ _) | (with_reducible refine Below.drew ?_) | (with_reducible refine Below.alloc ?_ ?_ _) | omega | (simp <;> omega))))); have hd2 := Lib.hid (hbq.out.trans (hb10.mono hbq.out.size)); clear hb hb10 hbq; have hb := hd2; clear hd2; replace hS := KXN.out _ (HsSt.below HS.out HSS2.out hb.out).same))
            | (go_at_call 26; ((with_reducible refine (cSz _ (HPrN.out _ (HsSt.below HS.out HSS2.out (show Below W9.heap.size W9 _ by (repeat (first | (with_reducible exact hb.out) | (with_reducible exact Below.refl _ _) | (with_reducible refine Below.drew ?_) | (with_reducible refine Below.alloc ?_ ?_ _) | omega | (simp <;> omega))))).same)).mono ?_); rintro e w24 ⟨rfl, hb10⟩; have hbq := Lib.hid (pre_of (a := W9) hb10 (by (repeat (first | (with_reducible exact hb.out) | (with_reducible exact Below.refl _ _) | (with_reducible refine Below.drew ?_) | (with_reducible refine Below.alloc ?_ ?_ _) | omega | (simp <;> omega))))); have hd2 := Lib.hid (hbq.out.trans (hb10.mono hbq.out.size)); clear hb hb10 hbq; have hb := hd2; clear hd2; replace hS := KXN.out _ (HsSt.below HS.out HSS2.out hb.out).same)))
          have HS10 := Lib.hid (HsSt.below HS.out HSS2.out hb.out)
          obtain ⟨w10, hw10⟩ : ∃ z, w24 = z := ⟨_, rfl⟩
          rw [hw10] at HS10
          rw [hw10]
          clear hb hS HS cPj cCj cPa cIx cSz H8K HPK hw10 hw1 HJ
          have HS := HS10
          clear HS10
          go_wp2
          have cRm : ∀ wc, HsSt B W9 W9 (fun b => (fun b => w3.heap.size ≤ b ∧ b < W6.heap.size) b ∨ (w7.heap.size ≤ b ∧ b < w8.heap.size) ∨ b = r) p nb d lJ lJ wc → ∀ W, Below wc.heap.size wc W → Calls Tryd.prog 29 #[.pointer (some ⟨p, 0, none⟩), .int .i64 (j : Int)] W fun e w' => e = .returned (.int .i64 0) ∧ HsSt B W9 W9 (fun b => (fun b => w3.heap.size ≤ b ∧ b < W6.heap.size) b ∨ (w7.heap.size ≤ b ∧ b < w8.heap.size) ∨ b = r) p nb d lR lR w' := fun wc s W hb => by
            have := bk_remove s HSS2.out HRm.out.1 HRm.out.2.1 rfl HRm.out.2.2.1 W hb
            rw [HRm.out.2.2.2.1] at this
            exact this
          have cPaR : ∀ wc, HsSt B W9 W9 (fun b => (fun b => w3.heap.size ≤ b ∧ b < W6.heap.size) b ∨ (w7.heap.size ≤ b ∧ b < w8.heap.size) ∨ b = r) p nb d lR lR wc → ∀ W, Below wc.heap.size wc W → Calls Tryd.prog 27 #[.pointer (some ⟨p, 0, none⟩), .int .i64 (j : Int)] W fun e w' => e = .returned (.int .i64 (-1)) ∧ W = w' := fun wc s W hb => by
            have := parent_any W p nb d (j : Int) lR (s.f.below hb).t
            rw [HR.out.2.1] at this
            exact this
          have cPlR : ∀ wc, HsSt B W9 W9 (fun b => (fun b => w3.heap.size ≤ b ∧ b < W6.heap.size) b ∨ (w7.heap.size ≤ b ∧ b < w8.heap.size) ∨ b = r) p nb d lR lR wc → ∀ W, Below wc.heap.size wc W → Calls Tryd.prog 21 #[.pointer (some ⟨p, 0, none⟩), .int .i64 (j : Int)] W (PlainPost (anewPt t.pt) W) := fun wc s W hb => by
            have := plain_any B p nb d lR s.i.ats 41 (j : Int) (s.i.endsHa hd1 _) W (s.f.below hb)
            rw [HR.out.1] at this
            exact this
          have cDr : ∀ wc, HsSt B W9 W9 (fun b => (fun b => w3.heap.size ≤ b ∧ b < W6.heap.size) b ∨ (w7.heap.size ≤ b ∧ b < w8.heap.size) ∨ b = r) p nb d lR lR wc → ∀ W, Below wc.heap.size wc W → Calls Tryd.prog 30 #[.pointer (some ⟨p, 0, none⟩), .int .i64 (j : Int)] W fun e w' => e = .returned (.int .i64 0) ∧ ∃ l', HsSt B W9 W9 (fun b => (fun b => w3.heap.size ≤ b ∧ b < W6.heap.size) b ∨ (w7.heap.size ≤ b ∧ b < w8.heap.size) ∨ b = r) p nb d l' l' w' ∧ hasT l' (j : Int) = false ∧ countF l' = countF l2 ∧ plainF l' 41 0 = plainF l2 41 0 := fun wc s W hb => by
            have s2 := s.below HSS2.out hb
            refine (drop_exact B W p nb d lR s2.f s2.i hd1 HR.out.2.2.1 HR.out.2.2.2.1 hj0).mono ?_
            rintro e w' ⟨rfl, h1, l', h2, h3, h4, h5, h6, h7⟩
            exact ⟨rfl, l', s2.asd HSS2.out h1 h2 h3 h7, HR.out.2.2.2.2 l' h4 h5 h6⟩
          unfold PlainPost at cPlR
          have hS : (w10.cell? ⟨r, 0, none⟩ = some (.int .i64 tgN) ∧ w10.cell? ⟨r, 1, none⟩ = some (.slice aaN anN acN) ∧ w10.cell? ⟨r, 2, none⟩ = some (.string txN) ∧ w10.cell? ⟨r, 3, none⟩ = some (.slice kaN knN kcN)) := KXN.out w10 HS.out.same
          have hb : Hid (Below w10.heap.size w10 w10) := Lib.hid (Below.refl _ _)
          go_region_held3 (fun W' => (W'.cell? ⟨r, 0, none⟩ = some (.int .i64 tgN) ∧ W'.cell? ⟨r, 1, none⟩ = some (.slice aaN anN acN) ∧ W'.cell? ⟨r, 2, none⟩ = some (.string txN) ∧ W'.cell? ⟨r, 3, none⟩ = some (.slice kaN knN kcN))) (first | (with_reducible exact hS) | (refine KXN.out _ (HsSt.below HS.out HSS2.out ?_).same; (repeat (first | (with_reducible exact hb.out) | (with_reducible exact Below.refl _ _) | (with_reducible refine Below.drew ?_) | (with_reducible refine Below.alloc ?_ ?_ _) | omega | (simp <;> omega))); done)) (first
            | (go_at_call 29; ((with_reducible refine (cRm _ HS.out _ (show Below w10.heap.size w10 _ by (repeat (first | (with_reducible exact hb.out) | (with_reducible exact Below.refl _ _) | (with_reducible refine Below.drew ?_) | (with_reducible refine Below.alloc ?_ ?_ _) | omega | (simp <;> omega))))).mono ?_); rintro e w12 ⟨rfl, hs8⟩; clear hb HS; have HS := Lib.hid hs8; clear hs8; have hb := Lib.hid (Below.refl w12.heap.size w12); replace hS := KXN.out _ HS.out.same))
            | (go_at_call 27; ((with_reducible refine (cPaR _ HS.out _ (show Below w12.heap.size w12 _ by (repeat (first | (with_reducible exact hb.out) | (with_reducible exact Below.refl _ _) | (with_reducible refine Below.drew ?_) | (with_reducible refine Below.alloc ?_ ?_ _) | omega | (simp <;> omega))))).mono ?_); rintro e w21 ⟨rfl, rfl⟩))
            | (go_at_call 21; ((with_reducible refine (cPlR _ HS.out _ (show Below w12.heap.size w12 _ by (repeat (first | (with_reducible exact hb.out) | (with_reducible exact Below.refl _ _) | (with_reducible refine Below.drew ?_) | (with_reducible refine Below.alloc ?_ ?_ _) | omega | (simp <;> omega))))).mono ?_); rintro e w2M ⟨tgM, aaM, anM, acM, txM, kaM, knM, kcM, atM, ksM, rfl, hp5, hb8, hon8⟩; have hbq := Lib.hid (pre_of (a := w12) hb8 (by (repeat (first | (with_reducible exact hb.out) | (with_reducible exact Below.refl _ _) | (with_reducible refine Below.drew ?_) | (with_reducible refine Below.alloc ?_ ?_ _) | omega | (simp <;> omega))))); have hd2 := Lib.hid (hbq.out.trans (hb8.mono hbq.out.size)); have H8M := Lib.hid hon8.here; have HPM := Lib.hid hp5; clear hb hb8 hbq hon8 hp5; have hb := hd2; clear hd2; replace hS := KXN.out _ (HsSt.below HS.out HSS2.out hb.out).same))
            | (go_at_call 24; ((with_reducible refine (samenode_mk (HPM.out.trans HpN.out.symm) _ ?p1 ?p2).mono ?_); (case p1 => exact H8M.out.stay (show Below w2M.heap.size w2M _ by (repeat (first | (with_reducible exact Below.refl _ _) | (with_reducible refine Below.drew ?_) | (with_reducible refine Below.alloc ?_ ?_ _) | omega | (simp <;> omega))))); (case p2 => exact HPrN.out _ (HsSt.below HS.out HSS2.out (show Below w12.heap.size w12 _ by (repeat (first | (with_reducible exact hb.out) | (with_reducible exact Below.refl _ _) | (with_reducible refine Below.drew ?_) | (with_reducible refine Below.alloc ?_ ?_ _) | omega | (simp <;> omega))))).same); rintro e w22 ⟨rfl, hb10⟩; have hbq := Lib.hid (pre_of (a := w12) hb10 (by (repeat (first | (with_reducible exact hb.out) | (with_reducible exact Below.refl _ _) | (with_reducible refine Below.drew ?_) | (with_reducible refine Below.alloc ?_ ?_ _) | omega | (simp <;> omega))))); have hd2 := Lib.hid (hbq.out.trans (hb10.mono hbq.out.size)); clear hb hb10 hbq; have hb := hd2; clear hd2; replace hS := KXN.out _ (HsSt.below HS.out HSS2.out hb.out).same))
            | (go_at_call 30; ((with_reducible refine (cDr _ HS.out _ (show Below w12.heap.size w12 _ by (repeat (first | (with_reducible exact hb.out) | (with_reducible exact Below.refl _ _) | (with_reducible refine Below.drew ?_) | (with_reducible refine Below.alloc ?_ ?_ _) | omega | (simp <;> omega))))).mono ?_); rintro e w14 ⟨rfl, l4, hs8, hh⟩; clear hb HS; have HS := Lib.hid hs8; have HH := Lib.hid hh; clear hs8 hh; have hb := Lib.hid (Below.refl w14.heap.size w14); replace hS := KXN.out _ HS.out.same)))
          clear hb hS cRm cPaR cPlR cDr H8M HPM
          go_wp2
          have cHs : ∀ wc, HsSt B W9 W9 (fun b => (fun b => w3.heap.size ≤ b ∧ b < W6.heap.size) b ∨ (w7.heap.size ≤ b ∧ b < w8.heap.size) ∨ b = r) p nb d l4 l4 wc → ∀ W, Below wc.heap.size wc W → Calls Tryd.prog 31 #[.pointer (some ⟨p, 0, none⟩), .int .i64 (j : Int)] W fun e w' => e = .returned (.bool false) ∧ W = w' := fun wc s W hb => by
            have := has_any W p nb d (j : Int) l4 (s.f.below hb).t
            rw [HH.out.1] at this
            exact this
          have cC9 : ∀ wc, HsSt B W9 W9 (fun b => (fun b => w3.heap.size ≤ b ∧ b < W6.heap.size) b ∨ (w7.heap.size ≤ b ∧ b < w8.heap.size) ∨ b = r) p nb d l4 l4 wc → ∀ W, Below wc.heap.size wc W → Calls Tryd.prog 22 #[.pointer (some ⟨p, 0, none⟩)] W fun e w' => e = .returned (.int .i64 (countF l2 : Int)) ∧ W = w' := fun wc s W hb => by
            have := count_any W p nb d l4 (s.f.below hb).t
            rw [HH.out.2.1] at this
            exact this
          have cP9 : ∀ wc, HsSt B W9 W9 (fun b => (fun b => w3.heap.size ≤ b ∧ b < W6.heap.size) b ∨ (w7.heap.size ≤ b ∧ b < w8.heap.size) ∨ b = r) p nb d l4 l4 wc → ∀ W, Below wc.heap.size wc W → Calls Tryd.prog 21 #[.pointer (some ⟨p, 0, none⟩), .int .i64 0] W (PlainPost (plainF l2 41 0) W) := fun wc s W hb => by
            have := plain_any B p nb d l4 s.i.ats 41 0 (s.i.endsHa hd1 0) W (s.f.below hb)
            rw [HH.out.2.2] at this
            exact this
          unfold PlainPost at cP9
          have hS : (w14.cell? ⟨q, 0, none⟩ = some (.int .i64 tgA) ∧ w14.cell? ⟨q, 1, none⟩ = some (.slice aaA anA acA) ∧ w14.cell? ⟨q, 2, none⟩ = some (.string txA) ∧ w14.cell? ⟨q, 3, none⟩ = some (.slice kaA knA kcA)) := KXA2.out w14 HS.out.same
          have hb : Hid (Below w14.heap.size w14 w14) := Lib.hid (Below.refl _ _)
          go_region_held3 (fun W' => (W'.cell? ⟨q, 0, none⟩ = some (.int .i64 tgA) ∧ W'.cell? ⟨q, 1, none⟩ = some (.slice aaA anA acA) ∧ W'.cell? ⟨q, 2, none⟩ = some (.string txA) ∧ W'.cell? ⟨q, 3, none⟩ = some (.slice kaA knA kcA))) (first | (with_reducible exact hS) | (refine KXA2.out _ (HsSt.below HS.out HSS2.out ?_).same; (repeat (first | (with_reducible exact hb.out) | (with_reducible exact Below.refl _ _) | (with_reducible refine Below.drew ?_) | (with_reducible refine Below.alloc ?_ ?_ _) | omega | (simp <;> omega))); done)) (first
            | (go_at_call 31; ((with_reducible refine (cHs _ HS.out _ (show Below w14.heap.size w14 _ by (repeat (first | (with_reducible exact hb.out) | (with_reducible exact Below.refl _ _) | (with_reducible refine Below.drew ?_) | (with_reducible refine Below.alloc ?_ ?_ _) | omega | (simp <;> omega))))).mono ?_); rintro e w21 ⟨rfl, rfl⟩))
            | (go_at_call 22; ((with_reducible refine (cC9 _ HS.out _ (show Below w14.heap.size w14 _ by (repeat (first | (with_reducible exact hb.out) | (with_reducible exact Below.refl _ _) | (with_reducible refine Below.drew ?_) | (with_reducible refine Below.alloc ?_ ?_ _) | omega | (simp <;> omega))))).mono ?_); rintro e w21 ⟨rfl, rfl⟩))
            | (go_at_call 21; ((with_reducible refine (cP9 _ HS.out _ (show Below w14.heap.size w14 _ by (repeat (first | (with_reducible exact hb.out) | (with_reducible exact Below.refl _ _) | (with_reducible refine Below.drew ?_) | (with_reducible refine Below.alloc ?_ ?_ _) | omega | (simp <;> omega))))).mono ?_); rintro e w2E ⟨tgE, aaE, anE, acE, txE, kaE, knE, kcE, atE, ksE, rfl, hp5, hb8, hon8⟩; have hbq := Lib.hid (pre_of (a := w14) hb8 (by (repeat (first | (with_reducible exact hb.out) | (with_reducible exact Below.refl _ _) | (with_reducible refine Below.drew ?_) | (with_reducible refine Below.alloc ?_ ?_ _) | omega | (simp <;> omega))))); have hd2 := Lib.hid (hbq.out.trans (hb8.mono hbq.out.size)); have H8E := Lib.hid hon8.here; have HPE := Lib.hid hp5; clear hb hb8 hbq hon8 hp5; have hb := hd2; clear hd2; replace hS := KXA2.out _ (HsSt.below HS.out HSS2.out hb.out).same))
            | (go_at_call 24; ((with_reducible refine (samenode_mk (HPE.out.trans HpA.out.symm) _ ?p1 ?p2).mono ?_); (case p1 => exact H8E.out.stay (show Below w2E.heap.size w2E _ by (repeat (first | (with_reducible exact Below.refl _ _) | (with_reducible refine Below.drew ?_) | (with_reducible refine Below.alloc ?_ ?_ _) | omega | (simp <;> omega))))); (case p2 => exact HPrA2.out _ (HsSt.below HS.out HSS2.out (show Below w14.heap.size w14 _ by (repeat (first | (with_reducible exact hb.out) | (with_reducible exact Below.refl _ _) | (with_reducible refine Below.drew ?_) | (with_reducible refine Below.alloc ?_ ?_ _) | omega | (simp <;> omega))))).same); rintro e w22 ⟨rfl, hb10⟩; have hbq := Lib.hid (pre_of (a := w14) hb10 (by (repeat (first | (with_reducible exact hb.out) | (with_reducible exact Below.refl _ _) | (with_reducible refine Below.drew ?_) | (with_reducible refine Below.alloc ?_ ?_ _) | omega | (simp <;> omega))))); have hd2 := Lib.hid (hbq.out.trans (hb10.mono hbq.out.size)); clear hb hb10 hbq; have hb := hd2; clear hd2; replace hS := KXA2.out _ (HsSt.below HS.out HSS2.out hb.out).same))
            | (go_at_call 9; ((with_reducible refine (cA9 _ HS.out.b _ (show Below w14.heap.size w14 _ by (repeat (first | (with_reducible exact hb.out) | (with_reducible exact Below.refl _ _) | (with_reducible refine Below.drew ?_) | (with_reducible refine Below.alloc ?_ ?_ _) | omega | (simp <;> omega))))).mono ?_); rintro e w33 ⟨rfl, hb10⟩; have hbq := Lib.hid (pre_of (a := w14) hb10 (by (repeat (first | (with_reducible exact hb.out) | (with_reducible exact Below.refl _ _) | (with_reducible refine Below.drew ?_) | (with_reducible refine Below.alloc ?_ ?_ _) | omega | (simp <;> omega))))); have hd2 := Lib.hid (hbq.out.trans (hb10.mono hbq.out.size)); clear hb hb10 hbq; have hb := hd2; clear hd2; replace hS := KXA2.out _ (HsSt.below HS.out HSS2.out hb.out).same)))
          all_goals go_wp2
          all_goals go_ret
          all_goals exact ⟨rfl, (HB9.out.trans (HS.out.b.mono hBw)).trans (hb.out.mono (HB9.out.trans (HS.out.b.mono hBw)).size)⟩

end Go.Proofs.YtdegkcibadjogaaDoor
