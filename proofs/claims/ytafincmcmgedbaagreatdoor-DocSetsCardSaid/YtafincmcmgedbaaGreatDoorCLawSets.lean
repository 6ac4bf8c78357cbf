/-
  The law DocSets.
-/
import Derived.Test.YtafincmcmgedbaaGreatDoorCDocP
import Derived.Test.YtafincmcmgedbaaGreatDoorCRdSets
import Derived.BigGuardPart

namespace Go.Proofs.YtafincmcmgedbaaGreatDoor
open Go.RowKit Go.Lib

set_option maxRecDepth 40000 in
set_option maxHeartbeats 64000000 in
theorem lawSets_walk (v : Value) (l : List Lw) (p1 p2 q1 q2 s c : Int) (t : ByteArray) (w : World) (hE : Tg.Env w) (h : DocAt w v l) (hs0 : SizedD l) :
    Calls Tryz.prog 6 #[v, .agg #[.int .i64 p1, .int .i64 p2], .agg #[.int .i64 q1, .int .i64 q2], .int .i64 s, .int .i64 c, .string t] w fun e w' => e = .returned (.bool true) ∧ Below w.heap.size w w' := by
  obtain ⟨a, cc, rfl⟩ := h.s.len
  have cW : ∀ w1, Below w.heap.size w w1 → _ := fun w1 h1 => awake_any w1 (hE.below h1)
  have cL : ∀ w1, Below w.heap.size w w1 → _ := fun w1 h1 => llong_any _ l w1 (h.below h1) hs0
  have hb : Hid (Below w.heap.size w w) := Lib.hid (Below.refl _ _)
  by_cases hlg : longD (pl l) = true
  · rw [hlg] at cL
    clear h hs0 hE hlg
    go_enter Tryz.func6, Tryz.ntmps6
    go_wp2_with (first
      | (go_at_call 10; ((with_reducible refine (cL _ ?hb).mono ?_); (case hb => (repeat (first | (with_reducible exact hb.out) | (with_reducible exact Below.refl _ _) | (with_reducible refine Below.drew ?_) | (with_reducible refine Below.alloc ?_ ?_ _) | omega | (simp <;> omega)))); rintro e w1 ⟨rfl, hk⟩; have hd := Lib.hid ((show Below w.heap.size w _ by (repeat (first | (with_reducible exact hb.out) | (with_reducible exact Below.refl _ _) | (with_reducible refine Below.drew ?_) | (with_reducible refine Below.alloc ?_ ?_ _) | omega | (simp <;> omega)))).trans (hk.mono (by (first | omega | (simp; done) | (simp; omega))))); clear hb; have hb := hd; (try clear hs); have hs := hb.out.size; clear hd hk))
      | (go_at_call 11; ((with_reducible refine (cW _ ?hb).mono ?_); (case hb => (repeat (first | (with_reducible exact hb.out) | (with_reducible exact Below.refl _ _) | (with_reducible refine Below.drew ?_) | (with_reducible refine Below.alloc ?_ ?_ _) | omega | (simp <;> omega)))); rintro e w1 ⟨rfl, hk⟩; have hd := Lib.hid ((show Below w.heap.size w _ by (repeat (first | (with_reducible exact hb.out) | (with_reducible exact Below.refl _ _) | (with_reducible refine Below.drew ?_) | (with_reducible refine Below.alloc ?_ ?_ _) | omega | (simp <;> omega)))).trans (hk.mono (by (first | omega | (simp; done) | (simp; omega))))); clear hb; have hb := hd; (try clear hs); have hs := hb.out.size; clear hd hk)))
    all_goals go_ret
    all_goals exact ⟨rfl, hb.out⟩
  have hlg' : longD (pl l) = false := by simpa using hlg
  rw [hlg'] at cL
  by_cases ht : 1000 < t.size
  · have htI : (1000 : Int) < (t.size : Int) := by omega
    clear h hs0 hE hlg hlg'
    go_enter Tryz.func6, Tryz.ntmps6
    go_wp2_with (first
      | (go_at_call 10; ((with_reducible refine (cL _ ?hb).mono ?_); (case hb => (repeat (first | (with_reducible exact hb.out) | (with_reducible exact Below.refl _ _) | (with_reducible refine Below.drew ?_) | (with_reducible refine Below.alloc ?_ ?_ _) | omega | (simp <;> omega)))); rintro e w1 ⟨rfl, hk⟩; have hd := Lib.hid ((show Below w.heap.size w _ by (repeat (first | (with_reducible exact hb.out) | (with_reducible exact Below.refl _ _) | (with_reducible refine Below.drew ?_) | (with_reducible refine Below.alloc ?_ ?_ _) | omega | (simp <;> omega)))).trans (hk.mono (by (first | omega | (simp; done) | (simp; omega))))); clear hb; have hb := hd; (try clear hs); have hs := hb.out.size; clear hd hk))
      | (go_at_call 11; ((with_reducible refine (cW _ ?hb).mono ?_); (case hb => (repeat (first | (with_reducible exact hb.out) | (with_reducible exact Below.refl _ _) | (with_reducible refine Below.drew ?_) | (with_reducible refine Below.alloc ?_ ?_ _) | omega | (simp <;> omega)))); rintro e w1 ⟨rfl, hk⟩; have hd := Lib.hid ((show Below w.heap.size w _ by (repeat (first | (with_reducible exact hb.out) | (with_reducible exact Below.refl _ _) | (with_reducible refine Below.drew ?_) | (with_reducible refine Below.alloc ?_ ?_ _) | omega | (simp <;> omega)))).trans (hk.mono (by (first | omega | (simp; done) | (simp; omega))))); clear hb; have hb := hd; (try clear hs); have hs := hb.out.size; clear hd hk)))
    all_goals go_ret
    all_goals exact ⟨rfl, hb.out⟩
  have htI : ¬ (1000 : Int) < (t.size : Int) := by omega
  have htN : t.size ≤ 1000 := by omega
  obtain ⟨hf, hz9, _⟩ := longD_false hlg'
  have cOwn : ∀ w1, Below w.heap.size w w1 → _ := fun w1 h1 => rdown_any _ l w1 (h.below h1) hf
  have X6 := Lib.hid ((ps_new w p1 p2).below (below_alloc1 _ (.cells #[.int .i64 q1, .int .i64 q2] 24)))
  have X7 := Lib.hid (ps_new (w.alloc (.cells #[.int .i64 p1, .int .i64 p2] 24)) q1 q2)
  rw [show (w.alloc (.cells #[.int .i64 p1, .int .i64 p2] 24)).heap.size = w.heap.size + 1 by simp] at X7
  obtain ⟨n, hn⟩ : ∃ n, l.length = n := ⟨_, rfl⟩
  rw [hn] at cL cOwn ⊢
  have HD : Hid (DocAt w (.slice a n cc) l) := Lib.hid (by rw [← hn]; exact h)
  have HE := Lib.hid hE
  have HF := Lib.hid (And.intro hf hz9)
  have HT := Lib.hid htN
  clear h hs0 hE hlg hlg' hf hn hz9 htN ht
  go_enter Tryz.func6, Tryz.ntmps6
  go_upto_region 4 with (first
    | (go_at_call 10; ((with_reducible refine (cL _ ?hb).mono ?_); (case hb => (repeat (first | (with_reducible exact hb.out) | (with_reducible exact Below.refl _ _) | (with_reducible refine Below.drew ?_) | (with_reducible refine Below.alloc ?_ ?_ _) | omega | (simp <;> omega)))); rintro e w1 ⟨rfl, hk⟩; have hd := Lib.hid ((show Below w.heap.size w _ by (repeat (first | (with_reducible exact hb.out) | (with_reducible exact Below.refl _ _) | (with_reducible refine Below.drew ?_) | (with_reducible refine Below.alloc ?_ ?_ _) | omega | (simp <;> omega)))).trans (hk.mono (by (first | omega | (simp; done) | (simp; omega))))); have H6 := Lib.hid (X6.out.below hk); have H7 := Lib.hid (X7.out.below hk); clear hb; have hb := hd; (try clear hs); have hs := hb.out.size; clear hd hk))
    | (go_at_call 12; ((with_reducible refine (cOwn _ ?hb).mono ?_); (case hb => (repeat (first | (with_reducible exact hb.out) | (with_reducible exact Below.refl _ _) | (with_reducible refine Below.drew ?_) | (with_reducible refine Below.alloc ?_ ?_ _) | omega | (simp <;> omega)))); rintro e w2 ⟨sw, m, rfl, hown, hpl, hk⟩; have hd := Lib.hid ((show Below w.heap.size w _ by (repeat (first | (with_reducible exact hb.out) | (with_reducible exact Below.refl _ _) | (with_reducible refine Below.drew ?_) | (with_reducible refine Below.alloc ?_ ?_ _) | omega | (simp <;> omega)))).trans (hk.mono (by (first | omega | (simp; done) | (simp; omega))))); have hk6 := H6.out.below hk; have hk7 := H7.out.below hk; clear H6 H7; have H6 := Lib.hid hk6; have H7 := Lib.hid hk7; (try clear u0 u1 v0 v1); obtain ⟨_, u0, u1, _, _⟩ := H6.out; obtain ⟨_, v0, v1, _, _⟩ := H7.out; clear hk6 hk7; have hwas := Lib.hid hown.at; have HM := Lib.hid hpl; obtain ⟨u, cap, rfl⟩ := own_len hown.own; clear hb; have hb := hd; (try clear hs); have hs := hb.out.size; clear hd hk hown hpl)))
  clear cL cOwn X6 X7 htI
  have G6 := H6
  have G7 := H7
  clear H6 H7
  have hA := HD.out.below hb.out
  have hE2 := HE.out.below hb.out
  have hwa := hwas.out
  have hf := HF.out.1
  have hz9 := HF.out.2
  have hpl := HM.out
  have ht := HT.out
  have hfm : Fine (pl m) := by rw [hpl]; exact hf
  have hmn : m.length = n := by
    obtain ⟨_, _, e⟩ := hA.s.len
    have e2 := (Value.slice.inj e).2.1
    rw [e2, ← pl_length m, hpl, pl_length]
  have hn : l.length = n := by
    obtain ⟨_, _, e⟩ := hA.s.len
    exact (Value.slice.inj e).2.1.symm
  have hcl := cells_len (pl l) p1 p2 q1 q2
  have hca := part_le (pl l) p1 p2 q1 q2
  have cA : ∀ w1, Below w2.heap.size w2 w1 → _ := fun w1 h1 => dset_any _ l p1 p2 q1 q2 s c w1 (hA.below h1) hf (hE2.below h1)
  have cAR : ∀ w1, Below w2.heap.size w2 w1 → _ := fun w1 h1 => rdset_any _ m p1 p2 q1 q2 s c w1 (hwa.below h1) hfm
  have cB : ∀ w1, Below w2.heap.size w2 w1 → _ := fun w1 h1 => dlink_all _ l p1 p2 q1 q2 t w1 (hA.below h1) hf (hE2.below h1) (by omega)
  have cBR : ∀ w1, Below w2.heap.size w2 w1 → _ := fun w1 h1 => rdlink_any _ m p1 p2 q1 q2 t w1 (hwa.below h1) hfm (by omega)
  have cC : ∀ w1, Below w2.heap.size w2 w1 → _ := fun w1 h1 => rdcells_any _ m p1 p2 q1 q2 w1 (hwa.below h1) hfm (by rw [part_count, hpl]; omega)
  have cAll : ∀ w1, Below w2.heap.size w2 w1 → _ := fun w1 h1 => dall_any _ l p1 p2 q1 q2 s w1 (hA.below h1) hf (hE2.below h1)
  have cSome : ∀ w1, Below w2.heap.size w2 w1 → _ := fun w1 h1 => dsome_any _ l p1 p2 q1 q2 s w1 (hA.below h1) hf (hE2.below h1)
  have cCnt : ∀ w1, Below w2.heap.size w2 w1 → _ := fun w1 h1 => dcount_any _ l p1 p2 q1 q2 w1 (hA.below h1) hf (hE2.below h1)
  have cSame : ∀ w1, Below w2.heap.size w2 w1 → _ := fun w1 h1 => rdsame_any _ _ l m w1 (hA.below h1) (hwa.below h1) hf
  have cAw : ∀ w1, Below w2.heap.size w2 w1 → _ := fun w1 h1 => awake_any w1 (hE2.below h1)
  have cIsL : ∀ (D : Doc) (vv : Value) (r : List Lw) (uu : Value) (m2 : List Lw) (er : Int) w1, Below w2.heap.size w2 w1 → OwnD w2.heap.size w1 vv r → DocAt w1 uu m2 → pl r = D → pl m2 = D → Fine D → Calls Tryz.prog 31 #[vv, .int .i64 er, uu, .int .i64 er] w1 fun en w' => en = .returned (.bool true) ∧ Below w2.heap.size w1 w' := fun D vv r uu m2 er w1 h1 ho hu hr hm2 hD => by
    have := isL_any vv uu r m2 er er w2.heap.size w1 ho hu (by rw [hr]; exact hD) h1.size
    rw [hr, hm2, sameD_refl, decide_eq_true rfl] at this
    exact this
  have fA := chD_fine (setC s c) hf (fun x hx => hx) p1 p2 q1 q2
  have fB : Fine (lnkP (pl l) (p1, p2) (q1, q2) t).1 := by
    unfold lnkP
    cases linkS t with
    | false => exact fine_nil
    | true => exact chD_fine (linkC t) hf (fun x _ => by show t.size ≤ 1000000; omega) p1 p2 q1 q2
  change Fine (chD (pl l) (p1, p2) (q1, q2) (setU s c)).1 at fA
  have hall := all_eq (pl l) p1 p2 q1 q2 s
  have hsome := some_eq (pl l) p1 p2 q1 q2 s
  rw [hmn] at cAR cBR cC cSame ⊢
  rw [hpl] at cAR cBR cC cSame
  rw [sameD_refl] at cSame
  rw [hall] at cAll
  rw [hsome] at cSome
  rw [← hcl] at cCnt
  obtain ⟨⟨XD, xe⟩, hX⟩ : ∃ X, chD (pl l) (p1, p2) (q1, q2) (setU s c) = X := ⟨_, rfl⟩
  obtain ⟨⟨YD, ye⟩, hY⟩ : ∃ X, lnkP (pl l) (p1, p2) (q1, q2) t = X := ⟨_, rfl⟩
  obtain ⟨Z, hZ⟩ : ∃ Z, cellsB (pl l) (p1, p2) (q1, q2) = Z := ⟨_, rfl⟩
  rw [hX] at cA cAR fA
  rw [hY] at cB cBR fB
  rw [hZ] at cC cAll cSome cCnt hcl
  have hZl : Z.length ≤ 100000 := by omega
  have cZa : ∀ (vz : Value) w1, RowAt w1 vz Z → _ := fun vz w1 h1 => rall_any vz Z 0 (Z.length : Int) s w1 h1 hZl
  have cZs : ∀ (vz : Value) w1, RowAt w1 vz Z → _ := fun vz w1 h1 => rsome_any vz Z 0 (Z.length : Int) s w1 h1 hZl
  obtain ⟨QA, hQA⟩ : ∃ Q, allO Z 0 (Z.length : Int) s = Q := ⟨_, rfl⟩
  obtain ⟨QS, hQS⟩ : ∃ Q, someO Z 0 (Z.length : Int) s = Q := ⟨_, rfl⟩
  rw [hQA] at cAll cZa
  rw [hQS] at cSome cZs
  dsimp only at cA cAR cB cBR fA fB
  unfold psV at cA cAR cB cBR cC cAll cSome cCnt
  dsimp only at cA cAR cB cBR cC cAll cSome cCnt
  obtain ⟨zn, hzn⟩ : ∃ k, Z.length = k := ⟨_, rfl⟩
  rw [hzn] at cCnt cZa cZs
  have HZN := Lib.hid hzn
  have F1 := Lib.hid fA
  have F2 := Lib.hid fB
  have hznI : zn ≤ 100000 := by omega
  clear hA hE2 hwa hf hz9 hpl ht hfm hmn hn hcl hca fA fB hall hsome hX hY hZ hQA hQS hZl hzn HD HE HF HM HT hwas cW
  have hv : Hid (Below w2.heap.size w2 w2) := Lib.hid (Below.refl _ _)
  have hsv : w2.heap.size ≤ w2.heap.size := Nat.le_refl _
  go_wp2_with (first
    | (go_at_call 45; ((with_reducible refine (cA _ ?hb).mono ?_); (case hb => (repeat (first | (with_reducible exact hv.out) | (with_reducible exact Below.refl _ _) | (with_reducible refine Below.drew ?_) | (with_reducible refine Below.alloc ?_ ?_ _) | omega | (simp <;> omega)))); rintro e w10 ⟨vx, rx, rfl, ox, px, hk⟩; have hg := Lib.hid ((show Below w2.heap.size w2 _ by (repeat (first | (with_reducible exact hv.out) | (with_reducible exact Below.refl _ _) | (with_reducible refine Below.drew ?_) | (with_reducible refine Below.alloc ?_ ?_ _) | omega | (simp <;> omega)))).trans (hk.mono (by (first | omega | (simp; done) | (simp; omega))))); (try clear u0 u1 v0 v1); obtain ⟨_, u0, u1, _, _⟩ := G6.out.below hg.out; obtain ⟨_, v0, v1, _, _⟩ := G7.out.below hg.out; have OX1 := Lib.hid (ox.mono (by (first | omega | (simp; done) | (simp; omega)))); have PX1 := Lib.hid px; obtain ⟨ux1, cx1, ex⟩ := own_len ox.own; subst ex; clear ox px; clear hv; have hv := hg; (try clear hsv); have hsv := hv.out.size; clear hg hk))
    | (go_at_call 46; ((with_reducible refine (cAR _ ?hb).mono ?_); (case hb => (repeat (first | (with_reducible exact hv.out) | (with_reducible exact Below.refl _ _) | (with_reducible refine Below.drew ?_) | (with_reducible refine Below.alloc ?_ ?_ _) | omega | (simp <;> omega)))); rintro e w11 ⟨vy, ry, rfl, oy, py, hk⟩; have hg := Lib.hid ((show Below w2.heap.size w2 _ by (repeat (first | (with_reducible exact hv.out) | (with_reducible exact Below.refl _ _) | (with_reducible refine Below.drew ?_) | (with_reducible refine Below.alloc ?_ ?_ _) | omega | (simp <;> omega)))).trans (hk.mono (by (first | omega | (simp; done) | (simp; omega))))); (try clear u0 u1 v0 v1); obtain ⟨_, u0, u1, _, _⟩ := G6.out.below hg.out; obtain ⟨_, v0, v1, _, _⟩ := G7.out.below hg.out; have OX := Lib.hid (OX1.out.below hk); have OY := Lib.hid oy.at; have cI1 := Lib.hid (cIsL _ _ rx _ ry xe w11 hg.out OX.out OY.out PX1.out py F1.out); obtain ⟨uy1, cy1, ey⟩ := own_len oy.own; subst ey; clear oy py OX1 OX OY; clear hv; have hv := hg; (try clear hsv); have hsv := hv.out.size; clear hg hk))
    | (go_at_call 31; ((with_reducible refine (cI1.out ).mono ?_); rintro e w10i ⟨rfl, hk⟩; have hg := Lib.hid ((show Below w2.heap.size w2 _ by (repeat (first | (with_reducible exact hv.out) | (with_reducible exact Below.refl _ _) | (with_reducible refine Below.drew ?_) | (with_reducible refine Below.alloc ?_ ?_ _) | omega | (simp <;> omega)))).trans (hk.mono (by (first | omega | (simp; done) | (simp; omega))))); (try clear u0 u1 v0 v1); obtain ⟨_, u0, u1, _, _⟩ := G6.out.below hg.out; obtain ⟨_, v0, v1, _, _⟩ := G7.out.below hg.out; clear cI1 PX1; clear hv; have hv := hg; (try clear hsv); have hsv := hv.out.size; clear hg hk))
    | (go_at_call 47; ((with_reducible refine (cB _ ?hb).mono ?_); (case hb => (repeat (first | (with_reducible exact hv.out) | (with_reducible exact Below.refl _ _) | (with_reducible refine Below.drew ?_) | (with_reducible refine Below.alloc ?_ ?_ _) | omega | (simp <;> omega)))); rintro e w12 ⟨vx, rx, rfl, ox, px, hk⟩; have hg := Lib.hid ((show Below w2.heap.size w2 _ by (repeat (first | (with_reducible exact hv.out) | (with_reducible exact Below.refl _ _) | (with_reducible refine Below.drew ?_) | (with_reducible refine Below.alloc ?_ ?_ _) | omega | (simp <;> omega)))).trans (hk.mono (by (first | omega | (simp; done) | (simp; omega))))); (try clear u0 u1 v0 v1); obtain ⟨_, u0, u1, _, _⟩ := G6.out.below hg.out; obtain ⟨_, v0, v1, _, _⟩ := G7.out.below hg.out; have OX2 := Lib.hid (ox.mono (by (first | omega | (simp; done) | (simp; omega)))); have PX2 := Lib.hid px; obtain ⟨ux2, cx2, ex⟩ := own_len ox.own; subst ex; clear ox px; clear hv; have hv := hg; (try clear hsv); have hsv := hv.out.size; clear hg hk))
    | (go_at_call 48; ((with_reducible refine (cBR _ ?hb).mono ?_); (case hb => (repeat (first | (with_reducible exact hv.out) | (with_reducible exact Below.refl _ _) | (with_reducible refine Below.drew ?_) | (with_reducible refine Below.alloc ?_ ?_ _) | omega | (simp <;> omega)))); rintro e w13 ⟨vy, ry, rfl, oy, py, hk⟩; have hg := Lib.hid ((show Below w2.heap.size w2 _ by (repeat (first | (with_reducible exact hv.out) | (with_reducible exact Below.refl _ _) | (with_reducible refine Below.drew ?_) | (with_reducible refine Below.alloc ?_ ?_ _) | omega | (simp <;> omega)))).trans (hk.mono (by (first | omega | (simp; done) | (simp; omega))))); (try clear u0 u1 v0 v1); obtain ⟨_, u0, u1, _, _⟩ := G6.out.below hg.out; obtain ⟨_, v0, v1, _, _⟩ := G7.out.below hg.out; have OX := Lib.hid (OX2.out.below hk); have OY := Lib.hid oy.at; have cI2 := Lib.hid (cIsL _ _ rx _ ry ye w13 hg.out OX.out OY.out PX2.out py F2.out); obtain ⟨uy2, cy2, ey⟩ := own_len oy.own; subst ey; clear oy py OX2 OX OY; clear hv; have hv := hg; (try clear hsv); have hsv := hv.out.size; clear hg hk))
    | (go_at_call 31; ((with_reducible refine (cI2.out ).mono ?_); rintro e w12i ⟨rfl, hk⟩; have hg := Lib.hid ((show Below w2.heap.size w2 _ by (repeat (first | (with_reducible exact hv.out) | (with_reducible exact Below.refl _ _) | (with_reducible refine Below.drew ?_) | (with_reducible refine Below.alloc ?_ ?_ _) | omega | (simp <;> omega)))).trans (hk.mono (by (first | omega | (simp; done) | (simp; omega))))); (try clear u0 u1 v0 v1); obtain ⟨_, u0, u1, _, _⟩ := G6.out.below hg.out; obtain ⟨_, v0, v1, _, _⟩ := G7.out.below hg.out; clear cI2 PX2; clear hv; have hv := hg; (try clear hsv); have hsv := hv.out.size; clear hg hk))
    | (go_at_call 49; ((with_reducible refine (cC _ ?hb).mono ?_); (case hb => (repeat (first | (with_reducible exact hv.out) | (with_reducible exact Below.refl _ _) | (with_reducible refine Below.drew ?_) | (with_reducible refine Below.alloc ?_ ?_ _) | omega | (simp <;> omega)))); rintro e w14 ⟨vz, rfl, oz, hk⟩; have hg := Lib.hid ((show Below w2.heap.size w2 _ by (repeat (first | (with_reducible exact hv.out) | (with_reducible exact Below.refl _ _) | (with_reducible refine Below.drew ?_) | (with_reducible refine Below.alloc ?_ ?_ _) | omega | (simp <;> omega)))).trans (hk.mono (by (first | omega | (simp; done) | (simp; omega))))); (try clear u0 u1 v0 v1); obtain ⟨_, u0, u1, _, _⟩ := G6.out.below hg.out; obtain ⟨_, v0, v1, _, _⟩ := G7.out.below hg.out; have OZ := Lib.hid (rowAt_of_own oz); obtain ⟨uz, cz, ez⟩ := own_len oz; subst ez; rw [HZN.out] at OZ ⊢; clear oz; clear hv; have hv := hg; (try clear hsv); have hsv := hv.out.size; clear hg hk))
    | (go_at_call 50; ((with_reducible refine (cAll _ ?hb).mono ?_); (case hb => (repeat (first | (with_reducible exact hv.out) | (with_reducible exact Below.refl _ _) | (with_reducible refine Below.drew ?_) | (with_reducible refine Below.alloc ?_ ?_ _) | omega | (simp <;> omega)))); rintro e w15 ⟨rfl, hk⟩; have hg := Lib.hid ((show Below w2.heap.size w2 _ by (repeat (first | (with_reducible exact hv.out) | (with_reducible exact Below.refl _ _) | (with_reducible refine Below.drew ?_) | (with_reducible refine Below.alloc ?_ ?_ _) | omega | (simp <;> omega)))).trans (hk.mono (by (first | omega | (simp; done) | (simp; omega))))); (try clear u0 u1 v0 v1); obtain ⟨_, u0, u1, _, _⟩ := G6.out.below hg.out; obtain ⟨_, v0, v1, _, _⟩ := G7.out.below hg.out; have OZ1 := Lib.hid (OZ.out.below hk); clear OZ; clear hv; have hv := hg; (try clear hsv); have hsv := hv.out.size; clear hg hk))
    | (go_at_call 51; ((with_reducible refine (cZa _ _ OZ1.out).mono ?_); rintro e w16 ⟨rfl, rfl⟩))
    | (go_at_call 52; ((with_reducible refine (cSome _ ?hb).mono ?_); (case hb => (repeat (first | (with_reducible exact hv.out) | (with_reducible exact Below.refl _ _) | (with_reducible refine Below.drew ?_) | (with_reducible refine Below.alloc ?_ ?_ _) | omega | (simp <;> omega)))); rintro e w17 ⟨rfl, hk⟩; have hg := Lib.hid ((show Below w2.heap.size w2 _ by (repeat (first | (with_reducible exact hv.out) | (with_reducible exact Below.refl _ _) | (with_reducible refine Below.drew ?_) | (with_reducible refine Below.alloc ?_ ?_ _) | omega | (simp <;> omega)))).trans (hk.mono (by (first | omega | (simp; done) | (simp; omega))))); (try clear u0 u1 v0 v1); obtain ⟨_, u0, u1, _, _⟩ := G6.out.below hg.out; obtain ⟨_, v0, v1, _, _⟩ := G7.out.below hg.out; have OZ2 := Lib.hid (OZ1.out.below hk); clear OZ1; clear hv; have hv := hg; (try clear hsv); have hsv := hv.out.size; clear hg hk))
    | (go_at_call 53; ((with_reducible refine (cZs _ _ OZ2.out).mono ?_); rintro e w18 ⟨rfl, rfl⟩))
    | (go_at_call 54; ((with_reducible refine (cCnt _ ?hb).mono ?_); (case hb => (repeat (first | (with_reducible exact hv.out) | (with_reducible exact Below.refl _ _) | (with_reducible refine Below.drew ?_) | (with_reducible refine Below.alloc ?_ ?_ _) | omega | (simp <;> omega)))); rintro e w19 ⟨rfl, hk⟩; have hg := Lib.hid ((show Below w2.heap.size w2 _ by (repeat (first | (with_reducible exact hv.out) | (with_reducible exact Below.refl _ _) | (with_reducible refine Below.drew ?_) | (with_reducible refine Below.alloc ?_ ?_ _) | omega | (simp <;> omega)))).trans (hk.mono (by (first | omega | (simp; done) | (simp; omega))))); (try clear u0 u1 v0 v1); obtain ⟨_, u0, u1, _, _⟩ := G6.out.below hg.out; obtain ⟨_, v0, v1, _, _⟩ := G7.out.below hg.out; clear hv; have hv := hg; (try clear hsv); have hsv := hv.out.size; clear hg hk))
    | (go_at_call 33; ((with_reducible refine (cSame _ ?hb).mono ?_); (case hb => (repeat (first | (with_reducible exact hv.out) | (with_reducible exact Below.refl _ _) | (with_reducible refine Below.drew ?_) | (with_reducible refine Below.alloc ?_ ?_ _) | omega | (simp <;> omega)))); rintro e w20 ⟨rfl, hk⟩; have hg := Lib.hid ((show Below w2.heap.size w2 _ by (repeat (first | (with_reducible exact hv.out) | (with_reducible exact Below.refl _ _) | (with_reducible refine Below.drew ?_) | (with_reducible refine Below.alloc ?_ ?_ _) | omega | (simp <;> omega)))).trans (hk.mono (by (first | omega | (simp; done) | (simp; omega))))); (try clear u0 u1 v0 v1); obtain ⟨_, u0, u1, _, _⟩ := G6.out.below hg.out; obtain ⟨_, v0, v1, _, _⟩ := G7.out.below hg.out; clear hv; have hv := hg; (try clear hsv); have hsv := hv.out.size; clear hg hk))
    | (go_at_call 11; ((with_reducible refine (cAw _ ?hb).mono ?_); (case hb => (repeat (first | (with_reducible exact hv.out) | (with_reducible exact Below.refl _ _) | (with_reducible refine Below.drew ?_) | (with_reducible refine Below.alloc ?_ ?_ _) | omega | (simp <;> omega)))); rintro e w21 ⟨rfl, hk⟩; have hg := Lib.hid ((show Below w2.heap.size w2 _ by (repeat (first | (with_reducible exact hv.out) | (with_reducible exact Below.refl _ _) | (with_reducible refine Below.drew ?_) | (with_reducible refine Below.alloc ?_ ?_ _) | omega | (simp <;> omega)))).trans (hk.mono (by (first | omega | (simp; done) | (simp; omega))))); (try clear u0 u1 v0 v1); obtain ⟨_, u0, u1, _, _⟩ := G6.out.below hg.out; obtain ⟨_, v0, v1, _, _⟩ := G7.out.below hg.out; clear hv; have hv := hg; (try clear hsv); have hsv := hv.out.size; clear hg hk)))
  go_ret
  exact ⟨rfl, hb.out.trans (hv.out.mono hb.out.size)⟩

end Go.Proofs.YtafincmcmgedbaaGreatDoor
