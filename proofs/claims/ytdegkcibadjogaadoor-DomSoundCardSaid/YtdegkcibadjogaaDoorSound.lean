/-
  Sound.
-/
import Derived.Test.YtdegkcibadjogaaDoorSoundP
namespace Go.Proofs.YtdegkcibadjogaaDoor
open Go.RowKit Go.Lib

set_option maxRecDepth 20000 in
theorem tag_any (w : World) (p nb : Nat) (deep id : Int) (l : List (Option Nd)) (h : TreeAt w p nb deep l) :
    Calls Tryd.prog 63 #[.pointer (some ⟨p, 0, none⟩), .int .i64 id] w fun e w' => e = .returned (.int .i64 (tagT l id)) ∧ w = w' := by
  have cN := node_any w p nb deep id l h
  unfold tagT
  cases hx : ndAt l id with
  | none =>
    rw [hx] at cN
    clear hx h
    unfold ndV at cN
    go_enter Tryd.func63, Tryd.ntmps63
    go_wp2_with (go_at_call 73; ((with_reducible refine cN.mono ?_); rintro e w1 ⟨rfl, rfl⟩))
    go_ret
    exact ⟨rfl, rfl⟩
  | some x =>
    have c0 := (h.node hx).c0
    rw [hx] at cN
    clear hx h
    unfold ndV at cN
    dsimp only at cN
    go_enter Tryd.func63, Tryd.ntmps63
    go_wp2_with (go_at_call 73; ((with_reducible refine cN.mono ?_); rintro e w1 ⟨rfl, rfl⟩))
    go_ret
    exact ⟨rfl, rfl⟩

theorem kids_own (W : World) (p nb : Nat) (deep : Int) (l : List (Option Nd)) (h : TreeAt W p nb deep l) (i : Nat) (x : Nd) (hi : l[i]? = some (some x)) :
    Calls Tryd.prog 68 #[.pointer (some ⟨p, 0, none⟩), .int .i64 i] W fun e w' => ∃ ka kc, e = .returned (.slice ka x.kids.length kc) ∧ KidsAt w' ka x.kids ∧ Below W.heap.size W w' := by
  have e1 : kidsT l (i : Int) = x.kids := by unfold kidsT; rw [ndAt_of hi]; rfl
  have hk := (h.yes i x hi).2.ks
  have := kids_any W p nb deep (i : Int) l h (fun y hy e => by
    rw [ndAt_of hi] at hy
    obtain rfl := Option.some.inj hy
    rcases hk with h0 | ⟨b, o, e2, _⟩
    · exact h0
    · rw [e] at e2; cases e2)
  unfold OwnZ at this
  rw [e1] at this
  refine this.mono ?_
  rintro e w' ⟨v, rfl, ho, hb⟩
  obtain ⟨ka, kc, rfl, hk2⟩ := own_kids ho
  exact ⟨ka, kc, rfl, hk2, hb⟩
theorem ndAt_no {l : List (Option Nd)} {i : Nat} (h : l[i]? = some none) : ndAt l (i : Int) = none := by
  cases hx : ndAt l (i : Int) with
  | none => rfl
  | some y =>
    obtain ⟨j, e, hj⟩ := nd_id hx
    obtain rfl : i = j := by omega
    rw [hj] at h; cases h

set_option maxRecDepth 20000 in
set_option maxHeartbeats 16000000 in
theorem sound_any (B : Nat) (w : World) (p nb : Nat) (deep : Int) (l : List (Option Nd)) (h : Full B w p nb deep l) (hI : Inv deep l) (hd : deep ≤ 40) :
    Calls Tryd.prog 19 #[.pointer (some ⟨p, 0, none⟩)] w fun e w' => e = .returned (.bool true) ∧ Below w.heap.size w w' := by
  have hT := fun (W : World) (hb : Below w.heap.size w W) => h.t.below h.ln hb
  have cR := room_any w p nb deep l h.t
  have CC := Lib.hid (fun (W : World) (hb : Below w.heap.size w W) => count_any W p nb deep l (hT W hb))
  have CH := Lib.hid (fun (z : Int) (W : World) (hb : Below w.heap.size w W) => has_any W p nb deep z l (hT W hb))
  have CP := Lib.hid (fun (z : Int) (W : World) (hb : Below w.heap.size w W) => parent_any W p nb deep z l (hT W hb))
  have CI := Lib.hid (fun (z : Int) (W : World) (hb : Below w.heap.size w W) => index_any W p nb deep z l (hT W hb))
  have CD := Lib.hid (fun (z : Int) (W : World) (hb : Below w.heap.size w W) => depth_any W p nb deep l (hT W hb) z 41 (by omega) (hI.endsDa hd z))
  have CE := Lib.hid (fun (z : Int) (W : World) (hb : Below w.heap.size w W) => height_any W p nb deep l (hT W hb) 41 (by omega) z (hI.endsHa hd z))
  have CL := Lib.hid (fun (z : Int) (W : World) (hb : Below w.heap.size w W) => live_any W p nb deep l (hT W hb) z 41 (hI.endsRa hd z))
  have CT := Lib.hid (fun (z : Int) (W : World) (hb : Below w.heap.size w W) => tag_any W p nb deep z l (hT W hb))
  have CK := Lib.hid (fun (i : Nat) (x : Nd) (hi : l[i]? = some (some x)) (W : World) (hb : Below w.heap.size w W) => kids_own W p nb deep l (hT W hb) i x hi)
  have HN := Lib.hid (fun (i : Nat) (x : Nd) (hi : l[i]? = some (some x)) => hI.nodeOk hd hi)
  have HKD := Lib.hid (fun (i a : Nat) (x : Nd) (z : Int) (hi : l[i]? = some (some x)) (ha : x.kids[a]? = some z) => hI.kidOk hd hi ha)
  have HO := Lib.hid hI.hostOk
  have hle := h.t.le
  have hcl := countF_le l
  have HKL := Lib.hid (fun (i : Nat) (x : Nd) (hi : l[i]? = some (some x)) => (h.t.yes i x hi).2.kl)
  obtain ⟨n, hn⟩ : ∃ n, l.length = n := ⟨_, rfl⟩
  obtain ⟨cnt, hcnt⟩ : ∃ n, countF l = n := ⟨_, rfl⟩
  rw [hn] at cR hle hcl
  rw [hcnt] at hcl
  have HCN := Lib.hid (And.intro hn hcnt)
  clear h hI hT hn hcnt
  have CC2 : Hid (∀ (W : World), Below w.heap.size w W → Calls Tryd.prog 22 #[.pointer (some ⟨p, 0, none⟩)] W fun e w' => e = .returned (.int .i64 (cnt : Int)) ∧ W = w') := Lib.hid (fun W hb => by have := CC.out W hb; rw [HCN.out.2] at this; exact this)
  clear CC
  have cC := CC2.out
  go_enter Tryd.func19, Tryd.ntmps19
  go_wp2_with (go_at_call 40; ((with_reducible refine (cR).mono ?_); rintro e w1 ⟨rfl, nd, hw1⟩; have HB1 := Lib.hid (show Below w.heap.size w w1 by rw [hw1]; exact bdraws w nd); clear hw1))
  go_loopw [5, 6, 7, 8, 9] (fun vn vi _ _ _ wr => ∃ a m : Nat, a ≤ n ∧ m ≤ a ∧ vi = .int .i64 a ∧ vn = .int .i64 m ∧ Hid (countF (l.take a) = m) ∧ Hid (Below w.heap.size w wr)) (fun _ i _ _ _ _ => n - (RowKit.intOf i).toNat)
  case atStart => exact ⟨0, 0, Nat.zero_le _, Nat.le_refl _, rfl, rfl, Lib.hid rfl, HB1⟩
  case round =>
    obtain ⟨a, m, ha, hma, rfl, rfl, HM, HB⟩ := hrel
    by_cases hlt : m < cnt
    · have hal : a < l.length := count_more (by rw [HM.out, HCN.out.2]; exact hlt)
      have han : a < n := by rw [← HCN.out.1]; exact hal
      have hmI : (m : Int) < (cnt : Int) := by omega
      have haI : ¬ (3000 : Int) < (a : Int) := by omega
      have haI2 : decide ((3000 : Int) < (a : Int)) = false := decide_eq_false haI
      cases hx : l[a] with
      | none =>
        have hget : l[a]? = some none := by rw [List.getElem?_eq_getElem hal, hx]
        have cH := CH.out (a : Int)
        have e1 : hasT l (a : Int) = false := (nd_none (ndAt_no hget)).1
        rw [e1] at cH
        have HM2 : Hid (countF (l.take (a + 1)) = m) := Lib.hid (by rw [count_none hget]; exact HM.out)
        clear hx hget hal e1
        go_wp2_with (first
          | (go_at_call 22; ((with_reducible refine (cC _ (by (repeat (first | (with_reducible exact HB.out) | (with_reducible exact Below.refl _ _) | (with_reducible refine Below.drew ?_))))).mono ?_); rintro e w5 ⟨rfl, rfl⟩))
          | (go_at_call 31; ((with_reducible refine (cH _ (by (repeat (first | (with_reducible exact HB.out) | (with_reducible exact Below.refl _ _) | (with_reducible refine Below.drew ?_))))).mono ?_); rintro e w5 ⟨rfl, rfl⟩)))
        go_roundw
        case rel => exact ⟨a + 1, m, han, by omega, by go_num, rfl, HM2, HB⟩
        case measure => simp [RowKit.intOf]; omega
      | some x =>
        have hget : l[a]? = some (some x) := by rw [List.getElem?_eq_getElem hal, hx]
        have cH := CH.out (a : Int)
        have cP := CP.out (a : Int)
        have cI := CI.out (a : Int)
        have cD := CD.out (a : Int)
        have cE := CE.out (a : Int)
        have cL := CL.out (a : Int)
        have cT := CT.out (a : Int)
        have cK := CK.out a x hget
        obtain ⟨o1, o2, o3, o4⟩ := HN.out a x hget
        rw [o1] at cH
        have HM2 : Hid (countF (l.take (a + 1)) = m + 1) := Lib.hid (by rw [count_some hget, HM.out])
        have HX := Lib.hid hget
        have hkl := HKL.out a x hget
        obtain ⟨kn, hkn⟩ : ∃ kn, x.kids.length = kn := ⟨_, rfl⟩
        rw [hkn] at hkl
        have HKN := Lib.hid hkn
        have O3 := Lib.hid o3
        have O4 := Lib.hid o4
        obtain ⟨D, hD⟩ : ∃ D, depthF l 41 (a : Int) = D := ⟨_, rfl⟩
        obtain ⟨E, hE⟩ : ∃ D, heightF l 41 (a : Int) = D := ⟨_, rfl⟩
        obtain ⟨V, hV⟩ : ∃ D, liveT l 41 (a : Int) = D := ⟨_, rfl⟩
        obtain ⟨U, hU⟩ : ∃ D, upT l (a : Int) = D := ⟨_, rfl⟩
        obtain ⟨X, hXi⟩ : ∃ D, indexT l (a : Int) = D := ⟨_, rfl⟩
        obtain ⟨G, hG⟩ : ∃ D, tagT l (a : Int) = D := ⟨_, rfl⟩
        have hD0 := (depthF_le l 41 (a : Int)).1
        have hD1 := (depthF_le l 41 (a : Int)).2
        rw [hD] at cD o2 hD0 hD1
        rw [hE] at cE
        rw [hV] at cL
        rw [hU] at cP
        rw [hXi] at cI
        rw [hG] at cT
        have HE := Lib.hid (And.intro hD (And.intro hE (And.intro hV (And.intro hU (And.intro hXi hG)))))
        rw [hkn] at cK
        clear hx hal o1 o3 o4 hD hE hV hU hXi hG hget hkn
        go_wp2_with (first
          | (go_at_call 22; ((with_reducible refine (cC _ (by (repeat (first | (with_reducible exact HB.out) | (with_reducible exact Below.refl _ _) | (with_reducible refine Below.drew ?_))))).mono ?_); rintro e w5 ⟨rfl, rfl⟩))
          | (go_at_call 31; ((with_reducible refine (cH _ (by (repeat (first | (with_reducible exact HB.out) | (with_reducible exact Below.refl _ _) | (with_reducible refine Below.drew ?_))))).mono ?_); rintro e w5 ⟨rfl, rfl⟩))
          | (go_at_call 68; ((with_reducible refine (cK _ (by (repeat (first | (with_reducible exact HB.out) | (with_reducible exact Below.refl _ _) | (with_reducible refine Below.drew ?_))))).mono ?_); rintro e w3 ⟨ka, kc, rfl, hk3, hb3⟩; have HK3 := Lib.hid hk3; have HB3 := Lib.hid (HB.out.trans (hb3.mono HB.out.size)); clear hk3 hb3)))
        go_loopw [8] (fun vi wr => ∃ b : Nat, b ≤ kn ∧ vi = .int .i64 b ∧ Hid (Below w3.heap.size w3 wr)) (fun i _ => kn - (RowKit.intOf i).toNat)
        case atStart => exact ⟨0, Nat.zero_le _, rfl, Lib.hid (Below.refl _ _)⟩
        case round =>
          obtain ⟨b, hbk, rfl, HB2⟩ := hrel
          have HBC : Hid (Below w.heap.size w wr) := Lib.hid (HB3.out.trans (HB2.out.mono HB3.out.size))
          by_cases hlb : b < kn
          · have hbl : b < x.kids.length := by rw [HKN.out]; exact hlb
            have hbI : (b : Int) < (kn : Int) := by omega
            have hz : x.kids[b]? = some (x.kids[b]!) := by rw [List.getElem!_eq_getElem?_getD, List.getElem?_eq_getElem hbl]; rfl
            have hk4 := HK3.out.same HB2.out
            obtain ⟨g, o, rfl, hg⟩ : ∃ g o, ka = some ⟨g, o, none⟩ ∧ wr.cell? ⟨g, o + b, none⟩ = some (.int .i64 (x.kids[b]!)) := by
              rcases hk4 with h0 | ⟨g, o, e, h0⟩
              · rw [h0] at hbl; simp at hbl
              · exact ⟨g, o, e, h0 b hbl⟩
            obtain ⟨z, hzz⟩ : ∃ z, x.kids[b]! = z := ⟨_, rfl⟩
            rw [hzz] at hz hg
            obtain ⟨u1, u2, u3, u4, u5, u6⟩ := HKD.out a b x z HX.out hz
            have cHz := CH.out z
            have cPz := CP.out z
            have cIz := CI.out z
            have cDz := CD.out z
            have cEz := CE.out z
            have cLz := CL.out z
            obtain ⟨v1, v2, v3, _⟩ := HE.out
            rw [u1] at cHz
            rw [u2] at cPz
            rw [u3] at cIz
            rw [u4, v1] at cDz
            rw [v2] at u5
            rw [u6, v3] at cLz
            obtain ⟨Ez, hEz⟩ : ∃ q, heightF l 41 z = q := ⟨_, rfl⟩
            rw [hEz] at cEz u5
            have hEE : ¬ E ≤ Ez := by omega
            have hEE2 : decide (E ≤ Ez) = false := decide_eq_false hEE
            have hwD : IntKind.i64.wrap (D + 1) = D + 1 := IntWalk.i64_in _ (by omega)
            have hS : wr.cell? ⟨g, o + b, none⟩ = some (.int .i64 z) := hg
            have hgl : g < wr.heap.size := lt_of_cell' hg
            have KS : Hid (∀ W', Below wr.heap.size wr W' → W'.cell? ⟨g, o + b, none⟩ = some (.int .i64 z)) := Lib.hid (fun W' h => (h.cell (p := ⟨g, o + b, none⟩) hgl).trans hg)
            clear hbl hz hk4 hzz u1 u2 u3 u4 u6 v1 v2 v3 hEz
            as_aux_lemma =>
              go_upto_region 14 with (fail)
              go_region_held3 (fun W' => W'.cell? ⟨g, o + b, none⟩ = some (.int .i64 z)) (first | (with_reducible exact hS) | (refine KS.out _ ?_; (repeat (first | (with_reducible exact Below.refl _ _) | (with_reducible refine Below.drew ?_))); done)) (first
                | (go_at_call 31; ((with_reducible refine (cHz _ (by (repeat (first | (with_reducible exact HBC.out) | (with_reducible exact Below.refl _ _) | (with_reducible refine Below.drew ?_))))).mono ?_); rintro e w5 ⟨rfl, rfl⟩))
                | (go_at_call 27; ((with_reducible refine (cPz _ (by (repeat (first | (with_reducible exact HBC.out) | (with_reducible exact Below.refl _ _) | (with_reducible refine Below.drew ?_))))).mono ?_); rintro e w5 ⟨rfl, rfl⟩))
                | (go_at_call 28; ((with_reducible refine (cIz _ (by (repeat (first | (with_reducible exact HBC.out) | (with_reducible exact Below.refl _ _) | (with_reducible refine Below.drew ?_))))).mono ?_); rintro e w5 ⟨rfl, rfl⟩))
                | (go_at_call 36; ((with_reducible refine (cDz _ (by (repeat (first | (with_reducible exact HBC.out) | (with_reducible exact Below.refl _ _) | (with_reducible refine Below.drew ?_))))).mono ?_); rintro e w5 ⟨rfl, rfl⟩))
                | (go_at_call 36; ((with_reducible refine (cD _ (by (repeat (first | (with_reducible exact HBC.out) | (with_reducible exact Below.refl _ _) | (with_reducible refine Below.drew ?_))))).mono ?_); rintro e w5 ⟨rfl, rfl⟩))
                | (go_at_call 50; ((with_reducible refine (cE _ (by (repeat (first | (with_reducible exact HBC.out) | (with_reducible exact Below.refl _ _) | (with_reducible refine Below.drew ?_))))).mono ?_); rintro e w5 ⟨rfl, rfl⟩))
                | (go_at_call 50; ((with_reducible refine (cEz _ (by (repeat (first | (with_reducible exact HBC.out) | (with_reducible exact Below.refl _ _) | (with_reducible refine Below.drew ?_))))).mono ?_); rintro e w5 ⟨rfl, rfl⟩))
                | (go_at_call 34; ((with_reducible refine (cLz _ (by (repeat (first | (with_reducible exact HBC.out) | (with_reducible exact Below.refl _ _) | (with_reducible refine Below.drew ?_))))).mono ?_); rintro e w5 ⟨rfl, rfl⟩))
                | (go_at_call 34; ((with_reducible refine (cL _ (by (repeat (first | (with_reducible exact HBC.out) | (with_reducible exact Below.refl _ _) | (with_reducible refine Below.drew ?_))))).mono ?_); rintro e w5 ⟨rfl, rfl⟩)))
              all_goals go_wp2
              all_goals go_roundw
              all_goals first
                | exact ⟨b + 1, hlb, by go_num, Lib.hid (HB2.out.trans (by (repeat (first | (with_reducible exact Below.refl _ _) | (with_reducible refine Below.drew ?_)))))⟩
                | (simp [RowKit.intOf]; omega)
          · have hbk2 : b = kn := by omega
            subst hbk2
            have hbI : ¬ (b : Int) < (b : Int) := by omega
            obtain ⟨v1, v2, v3, v4, v5, v6⟩ := HE.out
            have ho := O4.out
            rw [v4, v1, v3, v5] at ho
            have hdd : ¬ deep < D := by omega
            have hdd2 : decide (deep < D) = false := decide_eq_false hdd
            by_cases hG0 : G = 0
            · have hk0 := O3.out (by rw [v6]; exact hG0)
              have hb0 : b = 0 := by rw [← HKN.out, hk0]; rfl
              subst hb0
              subst hG0
              rcases ho with ⟨rfl, rfl, rfl⟩ | ⟨k, rfl, hne, k1, k2, k3, k4⟩
              · clear v1 v2 v3 v4 v5 v6
                by_cases ha0 : a = 0
                · have hai : ((a : Int) == 0) = true := by simpa using ha0
                  have hai2 : decide (a = 0) = true := decide_eq_true ha0
                  rw [hai2] at cL
                  clear ha0
                  as_aux_lemma =>
                    go_wp2_with (first
                      | (go_at_call 27; ((with_reducible refine (cP _ (by (repeat (first | (with_reducible exact HBC.out) | (with_reducible exact Below.refl _ _) | (with_reducible refine Below.drew ?_))))).mono ?_); rintro e w5 ⟨rfl, rfl⟩))
                      | (go_at_call 36; ((with_reducible refine (cD _ (by (repeat (first | (with_reducible exact HBC.out) | (with_reducible exact Below.refl _ _) | (with_reducible refine Below.drew ?_))))).mono ?_); rintro e w5 ⟨rfl, rfl⟩))
                      | (go_at_call 34; ((with_reducible refine (cL _ (by (repeat (first | (with_reducible exact HBC.out) | (with_reducible exact Below.refl _ _) | (with_reducible refine Below.drew ?_))))).mono ?_); rintro e w5 ⟨rfl, rfl⟩))
                      | (go_at_call 63; ((with_reducible refine (cT _ (by (repeat (first | (with_reducible exact HBC.out) | (with_reducible exact Below.refl _ _) | (with_reducible refine Below.drew ?_))))).mono ?_); rintro e w5 ⟨rfl, rfl⟩)))
                    go_roundw
                    case rel => exact ⟨a + 1, m + 1, han, by omega, by go_num, by go_num, HM2, HBC⟩
                    case measure => simp [RowKit.intOf]; omega

                · have hai : ((a : Int) == 0) = false := by simpa using ha0
                  have hai2 : decide (a = 0) = false := decide_eq_false ha0
                  rw [hai2] at cL
                  as_aux_lemma =>
                    go_wp2_with (first
                      | (go_at_call 27; ((with_reducible refine (cP _ (by (repeat (first | (with_reducible exact HBC.out) | (with_reducible exact Below.refl _ _) | (with_reducible refine Below.drew ?_))))).mono ?_); rintro e w5 ⟨rfl, rfl⟩))
                      | (go_at_call 36; ((with_reducible refine (cD _ (by (repeat (first | (with_reducible exact HBC.out) | (with_reducible exact Below.refl _ _) | (with_reducible refine Below.drew ?_))))).mono ?_); rintro e w5 ⟨rfl, rfl⟩))
                      | (go_at_call 34; ((with_reducible refine (cL _ (by (repeat (first | (with_reducible exact HBC.out) | (with_reducible exact Below.refl _ _) | (with_reducible refine Below.drew ?_))))).mono ?_); rintro e w5 ⟨rfl, rfl⟩))
                      | (go_at_call 63; ((with_reducible refine (cT _ (by (repeat (first | (with_reducible exact HBC.out) | (with_reducible exact Below.refl _ _) | (with_reducible refine Below.drew ?_))))).mono ?_); rintro e w5 ⟨rfl, rfl⟩)))
                    go_roundw
                    case rel => exact ⟨a + 1, m + 1, han, by omega, by go_num, by go_num, HM2, HBC⟩
                    case measure => simp [RowKit.intOf]; omega

              · have cHk := CH.out (k : Int)
                have cTk := CT.out (k : Int)
                have cLk := CL.out (k : Int)
                rw [k1] at cHk
                rw [k4] at cLk
                obtain ⟨Gk, hGk⟩ : ∃ q, tagT l (k : Int) = q := ⟨_, rfl⟩
                rw [hGk] at cTk k3
                have hGk2 : (Gk == 0) = false := by simpa using k3
                have hX1 : ¬ X < 0 := by omega
                have hX2 : decide (X < 0) = false := decide_eq_false hX1
                have hai : ((a : Int) == 0) = false := by simpa using hne
                have hk0 : ¬ (k : Int) < 0 := by omega
                have hk01 : (0 : Int) ≤ (k : Int) := by omega
                clear v1 v2 v3 v4 v5 v6 hGk k1 k4
                cases V with
                | false =>
                  as_aux_lemma =>
                    go_wp2_with (first
                      | (go_at_call 27; ((with_reducible refine (cP _ (by (repeat (first | (with_reducible exact HBC.out) | (with_reducible exact Below.refl _ _) | (with_reducible refine Below.drew ?_))))).mono ?_); rintro e w5 ⟨rfl, rfl⟩))
                      | (go_at_call 31; ((with_reducible refine (cHk _ (by (repeat (first | (with_reducible exact HBC.out) | (with_reducible exact Below.refl _ _) | (with_reducible refine Below.drew ?_))))).mono ?_); rintro e w5 ⟨rfl, rfl⟩))
                      | (go_at_call 28; ((with_reducible refine (cI _ (by (repeat (first | (with_reducible exact HBC.out) | (with_reducible exact Below.refl _ _) | (with_reducible refine Below.drew ?_))))).mono ?_); rintro e w5 ⟨rfl, rfl⟩))
                      | (go_at_call 63; ((with_reducible refine (cTk _ (by (repeat (first | (with_reducible exact HBC.out) | (with_reducible exact Below.refl _ _) | (with_reducible refine Below.drew ?_))))).mono ?_); rintro e w5 ⟨rfl, rfl⟩))
                      | (go_at_call 36; ((with_reducible refine (cD _ (by (repeat (first | (with_reducible exact HBC.out) | (with_reducible exact Below.refl _ _) | (with_reducible refine Below.drew ?_))))).mono ?_); rintro e w5 ⟨rfl, rfl⟩))
                      | (go_at_call 34; ((with_reducible refine (cL _ (by (repeat (first | (with_reducible exact HBC.out) | (with_reducible exact Below.refl _ _) | (with_reducible refine Below.drew ?_))))).mono ?_); rintro e w5 ⟨rfl, rfl⟩))
                      | (go_at_call 34; ((with_reducible refine (cLk _ (by (repeat (first | (with_reducible exact HBC.out) | (with_reducible exact Below.refl _ _) | (with_reducible refine Below.drew ?_))))).mono ?_); rintro e w5 ⟨rfl, rfl⟩))
                      | (go_at_call 63; ((with_reducible refine (cT _ (by (repeat (first | (with_reducible exact HBC.out) | (with_reducible exact Below.refl _ _) | (with_reducible refine Below.drew ?_))))).mono ?_); rintro e w5 ⟨rfl, rfl⟩)))
                    go_roundw
                    case rel => exact ⟨a + 1, m + 1, han, by omega, by go_num, by go_num, HM2, HBC⟩
                    case measure => simp [RowKit.intOf]; omega

                | true =>
                  as_aux_lemma =>
                    go_wp2_with (first
                      | (go_at_call 27; ((with_reducible refine (cP _ (by (repeat (first | (with_reducible exact HBC.out) | (with_reducible exact Below.refl _ _) | (with_reducible refine Below.drew ?_))))).mono ?_); rintro e w5 ⟨rfl, rfl⟩))
                      | (go_at_call 31; ((with_reducible refine (cHk _ (by (repeat (first | (with_reducible exact HBC.out) | (with_reducible exact Below.refl _ _) | (with_reducible refine Below.drew ?_))))).mono ?_); rintro e w5 ⟨rfl, rfl⟩))
                      | (go_at_call 28; ((with_reducible refine (cI _ (by (repeat (first | (with_reducible exact HBC.out) | (with_reducible exact Below.refl _ _) | (with_reducible refine Below.drew ?_))))).mono ?_); rintro e w5 ⟨rfl, rfl⟩))
                      | (go_at_call 63; ((with_reducible refine (cTk _ (by (repeat (first | (with_reducible exact HBC.out) | (with_reducible exact Below.refl _ _) | (with_reducible refine Below.drew ?_))))).mono ?_); rintro e w5 ⟨rfl, rfl⟩))
                      | (go_at_call 36; ((with_reducible refine (cD _ (by (repeat (first | (with_reducible exact HBC.out) | (with_reducible exact Below.refl _ _) | (with_reducible refine Below.drew ?_))))).mono ?_); rintro e w5 ⟨rfl, rfl⟩))
                      | (go_at_call 34; ((with_reducible refine (cL _ (by (repeat (first | (with_reducible exact HBC.out) | (with_reducible exact Below.refl _ _) | (with_reducible refine Below.drew ?_))))).mono ?_); rintro e w5 ⟨rfl, rfl⟩))
                      | (go_at_call 34; ((with_reducible refine (cLk _ (by (repeat (first | (with_reducible exact HBC.out) | (with_reducible exact Below.refl _ _) | (with_reducible refine Below.drew ?_))))).mono ?_); rintro e w5 ⟨rfl, rfl⟩))
                      | (go_at_call 63; ((with_reducible refine (cT _ (by (repeat (first | (with_reducible exact HBC.out) | (with_reducible exact Below.refl _ _) | (with_reducible refine Below.drew ?_))))).mono ?_); rintro e w5 ⟨rfl, rfl⟩)))
                    go_roundw
                    case rel => exact ⟨a + 1, m + 1, han, by omega, by go_num, by go_num, HM2, HBC⟩
                    case measure => simp [RowKit.intOf]; omega

            · have hGb : (G == 0) = false := by simpa using hG0
              rcases ho with ⟨rfl, rfl, rfl⟩ | ⟨k, rfl, hne, k1, k2, k3, k4⟩
              · clear v1 v2 v3 v4 v5 v6
                by_cases ha0 : a = 0
                · have hai : ((a : Int) == 0) = true := by simpa using ha0
                  have hai2 : decide (a = 0) = true := decide_eq_true ha0
                  rw [hai2] at cL
                  clear ha0
                  as_aux_lemma =>
                    go_wp2_with (first
                      | (go_at_call 27; ((with_reducible refine (cP _ (by (repeat (first | (with_reducible exact HBC.out) | (with_reducible exact Below.refl _ _) | (with_reducible refine Below.drew ?_))))).mono ?_); rintro e w5 ⟨rfl, rfl⟩))
                      | (go_at_call 36; ((with_reducible refine (cD _ (by (repeat (first | (with_reducible exact HBC.out) | (with_reducible exact Below.refl _ _) | (with_reducible refine Below.drew ?_))))).mono ?_); rintro e w5 ⟨rfl, rfl⟩))
                      | (go_at_call 34; ((with_reducible refine (cL _ (by (repeat (first | (with_reducible exact HBC.out) | (with_reducible exact Below.refl _ _) | (with_reducible refine Below.drew ?_))))).mono ?_); rintro e w5 ⟨rfl, rfl⟩))
                      | (go_at_call 63; ((with_reducible refine (cT _ (by (repeat (first | (with_reducible exact HBC.out) | (with_reducible exact Below.refl _ _) | (with_reducible refine Below.drew ?_))))).mono ?_); rintro e w5 ⟨rfl, rfl⟩)))
                    go_roundw
                    case rel => exact ⟨a + 1, m + 1, han, by omega, by go_num, by go_num, HM2, HBC⟩
                    case measure => simp [RowKit.intOf]; omega

                · have hai : ((a : Int) == 0) = false := by simpa using ha0
                  have hai2 : decide (a = 0) = false := decide_eq_false ha0
                  rw [hai2] at cL
                  as_aux_lemma =>
                    go_wp2_with (first
                      | (go_at_call 27; ((with_reducible refine (cP _ (by (repeat (first | (with_reducible exact HBC.out) | (with_reducible exact Below.refl _ _) | (with_reducible refine Below.drew ?_))))).mono ?_); rintro e w5 ⟨rfl, rfl⟩))
                      | (go_at_call 36; ((with_reducible refine (cD _ (by (repeat (first | (with_reducible exact HBC.out) | (with_reducible exact Below.refl _ _) | (with_reducible refine Below.drew ?_))))).mono ?_); rintro e w5 ⟨rfl, rfl⟩))
                      | (go_at_call 34; ((with_reducible refine (cL _ (by (repeat (first | (with_reducible exact HBC.out) | (with_reducible exact Below.refl _ _) | (with_reducible refine Below.drew ?_))))).mono ?_); rintro e w5 ⟨rfl, rfl⟩))
                      | (go_at_call 63; ((with_reducible refine (cT _ (by (repeat (first | (with_reducible exact HBC.out) | (with_reducible exact Below.refl _ _) | (with_reducible refine Below.drew ?_))))).mono ?_); rintro e w5 ⟨rfl, rfl⟩)))
                    go_roundw
                    case rel => exact ⟨a + 1, m + 1, han, by omega, by go_num, by go_num, HM2, HBC⟩
                    case measure => simp [RowKit.intOf]; omega

              · have cHk := CH.out (k : Int)
                have cTk := CT.out (k : Int)
                have cLk := CL.out (k : Int)
                rw [k1] at cHk
                rw [k4] at cLk
                obtain ⟨Gk, hGk⟩ : ∃ q, tagT l (k : Int) = q := ⟨_, rfl⟩
                rw [hGk] at cTk k3
                have hGk2 : (Gk == 0) = false := by simpa using k3
                have hX1 : ¬ X < 0 := by omega
                have hX2 : decide (X < 0) = false := decide_eq_false hX1
                have hai : ((a : Int) == 0) = false := by simpa using hne
                have hk0 : ¬ (k : Int) < 0 := by omega
                have hk01 : (0 : Int) ≤ (k : Int) := by omega
                clear v1 v2 v3 v4 v5 v6 hGk k1 k4
                cases V with
                | false =>
                  as_aux_lemma =>
                    go_wp2_with (first
                      | (go_at_call 27; ((with_reducible refine (cP _ (by (repeat (first | (with_reducible exact HBC.out) | (with_reducible exact Below.refl _ _) | (with_reducible refine Below.drew ?_))))).mono ?_); rintro e w5 ⟨rfl, rfl⟩))
                      | (go_at_call 31; ((with_reducible refine (cHk _ (by (repeat (first | (with_reducible exact HBC.out) | (with_reducible exact Below.refl _ _) | (with_reducible refine Below.drew ?_))))).mono ?_); rintro e w5 ⟨rfl, rfl⟩))
                      | (go_at_call 28; ((with_reducible refine (cI _ (by (repeat (first | (with_reducible exact HBC.out) | (with_reducible exact Below.refl _ _) | (with_reducible refine Below.drew ?_))))).mono ?_); rintro e w5 ⟨rfl, rfl⟩))
                      | (go_at_call 63; ((with_reducible refine (cTk _ (by (repeat (first | (with_reducible exact HBC.out) | (with_reducible exact Below.refl _ _) | (with_reducible refine Below.drew ?_))))).mono ?_); rintro e w5 ⟨rfl, rfl⟩))
                      | (go_at_call 36; ((with_reducible refine (cD _ (by (repeat (first | (with_reducible exact HBC.out) | (with_reducible exact Below.refl _ _) | (with_reducible refine Below.drew ?_))))).mono ?_); rintro e w5 ⟨rfl, rfl⟩))
                      | (go_at_call 34; ((with_reducible refine (cL _ (by (repeat (first | (with_reducible exact HBC.out) | (with_reducible exact Below.refl _ _) | (with_reducible refine Below.drew ?_))))).mono ?_); rintro e w5 ⟨rfl, rfl⟩))
                      | (go_at_call 34; ((with_reducible refine (cLk _ (by (repeat (first | (with_reducible exact HBC.out) | (with_reducible exact Below.refl _ _) | (with_reducible refine Below.drew ?_))))).mono ?_); rintro e w5 ⟨rfl, rfl⟩))
                      | (go_at_call 63; ((with_reducible refine (cT _ (by (repeat (first | (with_reducible exact HBC.out) | (with_reducible exact Below.refl _ _) | (with_reducible refine Below.drew ?_))))).mono ?_); rintro e w5 ⟨rfl, rfl⟩)))
                    go_roundw
                    case rel => exact ⟨a + 1, m + 1, han, by omega, by go_num, by go_num, HM2, HBC⟩
                    case measure => simp [RowKit.intOf]; omega

                | true =>
                  as_aux_lemma =>
                    go_wp2_with (first
                      | (go_at_call 27; ((with_reducible refine (cP _ (by (repeat (first | (with_reducible exact HBC.out) | (with_reducible exact Below.refl _ _) | (with_reducible refine Below.drew ?_))))).mono ?_); rintro e w5 ⟨rfl, rfl⟩))
                      | (go_at_call 31; ((with_reducible refine (cHk _ (by (repeat (first | (with_reducible exact HBC.out) | (with_reducible exact Below.refl _ _) | (with_reducible refine Below.drew ?_))))).mono ?_); rintro e w5 ⟨rfl, rfl⟩))
                      | (go_at_call 28; ((with_reducible refine (cI _ (by (repeat (first | (with_reducible exact HBC.out) | (with_reducible exact Below.refl _ _) | (with_reducible refine Below.drew ?_))))).mono ?_); rintro e w5 ⟨rfl, rfl⟩))
                      | (go_at_call 63; ((with_reducible refine (cTk _ (by (repeat (first | (with_reducible exact HBC.out) | (with_reducible exact Below.refl _ _) | (with_reducible refine Below.drew ?_))))).mono ?_); rintro e w5 ⟨rfl, rfl⟩))
                      | (go_at_call 36; ((with_reducible refine (cD _ (by (repeat (first | (with_reducible exact HBC.out) | (with_reducible exact Below.refl _ _) | (with_reducible refine Below.drew ?_))))).mono ?_); rintro e w5 ⟨rfl, rfl⟩))
                      | (go_at_call 34; ((with_reducible refine (cL _ (by (repeat (first | (with_reducible exact HBC.out) | (with_reducible exact Below.refl _ _) | (with_reducible refine Below.drew ?_))))).mono ?_); rintro e w5 ⟨rfl, rfl⟩))
                      | (go_at_call 34; ((with_reducible refine (cLk _ (by (repeat (first | (with_reducible exact HBC.out) | (with_reducible exact Below.refl _ _) | (with_reducible refine Below.drew ?_))))).mono ?_); rintro e w5 ⟨rfl, rfl⟩))
                      | (go_at_call 63; ((with_reducible refine (cT _ (by (repeat (first | (with_reducible exact HBC.out) | (with_reducible exact Below.refl _ _) | (with_reducible refine Below.drew ?_))))).mono ?_); rintro e w5 ⟨rfl, rfl⟩)))
                    go_roundw
                    case rel => exact ⟨a + 1, m + 1, han, by omega, by go_num, by go_num, HM2, HBC⟩
                    case measure => simp [RowKit.intOf]; omega

    · have hmI : ¬ (m : Int) < (cnt : Int) := by omega
      have hmI2 : decide ((m : Int) < (cnt : Int)) = false := decide_eq_false hmI
      have cH := CH.out 0
      have cP := CP.out 0
      have cT := CT.out 0
      rw [HO.out.1] at cH
      rw [HO.out.2.1] at cP
      rw [HO.out.2.2] at cT
      have hcI : (cnt : Int) ≤ (n : Int) := by omega
      have hcI2 : decide ((cnt : Int) ≤ (n : Int)) = true := decide_eq_true hcI
      go_wp2_with (first
        | (go_at_call 22; ((with_reducible refine (cC _ (by (repeat (first | (with_reducible exact HB.out) | (with_reducible exact Below.refl _ _) | (with_reducible refine Below.drew ?_))))).mono ?_); rintro e w5 ⟨rfl, rfl⟩))
        | (go_at_call 31; ((with_reducible refine (cH _ (by (repeat (first | (with_reducible exact HB.out) | (with_reducible exact Below.refl _ _) | (with_reducible refine Below.drew ?_))))).mono ?_); rintro e w5 ⟨rfl, rfl⟩))
        | (go_at_call 27; ((with_reducible refine (cP _ (by (repeat (first | (with_reducible exact HB.out) | (with_reducible exact Below.refl _ _) | (with_reducible refine Below.drew ?_))))).mono ?_); rintro e w5 ⟨rfl, rfl⟩))
        | (go_at_call 63; ((with_reducible refine (cT _ (by (repeat (first | (with_reducible exact HB.out) | (with_reducible exact Below.refl _ _) | (with_reducible refine Below.drew ?_))))).mono ?_); rintro e w5 ⟨rfl, rfl⟩)))
      go_ret
      exact ⟨rfl, HB.out⟩

end Go.Proofs.YtdegkcibadjogaaDoor
