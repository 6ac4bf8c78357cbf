/-
  The law OrderGoes, walked. WRITTEN BY gen_lawgo.py.
-/
import Derived.Test.YtggjoefhopoggaaDoorCFlowC
import Derived.BigGuardPart

namespace Go.Proofs.YtggjoefhopoggaaDoor
open Go.RowKit Go.Lib

section
variable {deep : Int} {l : List (Option Nd)}
theorem flow_at (L : Sk) : ∀ (A : List Int) (z : Int) (k : Nat), Flow L A z → k < A.length → nextS L 41 41 (A[k]!) = A[k + 1]?.getD z
  | x :: A, z, 0, h, _ => by rw [show (x :: A)[0]! = x from rfl, h.1, List.getElem?_cons_succ, List.head?_eq_getElem?]
  | x :: A, z, k + 1, h, hk => by
    have := flow_at L A z k h.2 (by simpa using hk)
    simpa using this
def atZ (A : List Int) (k : Nat) : Int := A[k]?.getD (-1)
theorem atZ_lt {A : List Int} {k : Nat} (h : k < A.length) : atZ A k = A[k]! := by unfold atZ; simp [h]
theorem atZ_end {A : List Int} {k : Nat} (h : A.length ≤ k) : atZ A k = -1 := by unfold atZ; rw [List.getElem?_eq_none h]; rfl
theorem inv_endsK (h : Inv deep l) (hd : deep ≤ 40) (id : Int) : endsK (sk l) 41 id := sk_endsK l 41 id (h.endsHa hd id)
theorem goes_at (h : Inv deep l) (hd : deep ≤ 40) {j : Nat} {y : Nd} (hj : l[j]? = some (some y)) (hu : y.up = -1) {A : List Int} (hA : downS (sk l) 41 (j : Int) = A) (k : Nat) (hk : k < A.length) :
    withinS (sk l) 41 (A[k]!) (j : Int) = true ∧ ((k + 1 < A.length ∧ 0 ≤ A[k + 1]! ∧ nextS (sk l) 41 41 (A[k]!) = A[k + 1]! ∧ prevS (sk l) 41 (A[k + 1]!) = A[k]! ∧ cmpS (sk l) 41 (A[k]!, 0) (A[k + 1]!, 0) = (-1, true)) ∨ (k + 1 = A.length ∧ nextS (sk l) 41 41 (A[k]!) = -1)) := by
  obtain ⟨r, hr⟩ := h.dep
  have hf := flow_root h hd hj hu
  rw [hA] at hf
  have hn := flow_at _ A (-1) k hf hk
  have hin := down_in h hd hr 41 j y hj
  rw [hA] at hin
  have hm : ∀ q, q < A.length → A[q]! ∈ A := fun q hq => by rw [getElem!_pos A q hq]; exact List.getElem_mem hq
  obtain ⟨i, x, e, hi, hw⟩ := hin _ (hm k hk)
  refine ⟨by unfold withinS; exact decide_eq_true hw, ?_⟩
  by_cases hlt : k + 1 < A.length
  · left
    have e2 : nextS (sk l) 41 41 (A[k]!) = A[k + 1]! := by rw [hn]; simp [hlt]
    obtain ⟨i2, x2, e3, _, _⟩ := hin _ (hm (k + 1) hlt)
    have hne : nextS (sk l) 41 41 (i : Int) ≠ -1 := by rw [← e, e2, e3]; omega
    refine ⟨hlt, by rw [e3]; omega, e2, ?_, ?_⟩
    · have := prev_of_next h hd hi hne
      rw [← e, e2] at this; exact this
    · have := cmp_next h hd hi hne
      rw [← e, e2] at this; exact this
  · right
    exact ⟨by omega, by rw [hn, List.getElem?_eq_none (by omega)]; rfl⟩
end

set_option maxRecDepth 100000 in
set_option maxHeartbeats 64000000 in
theorem lawGo_walk (w : World) (hT : OwnT w) (c d : Int) (v : Value) (ls : List Cl) (hv : ClsAt w v ls) (root : Int) :
    Calls Tryd.prog 5 #[.int .i64 c, .int .i64 d, v, .int .i64 root] w fun e w' => e = .returned (.bool true) ∧ Below w.heap.size w w' := by
  have HT := Lib.hid hT
  have hb := Lib.hid (Below.refl w.heap.size w)
  have cT := otree_any w hT c d v ls hv
  have cA := fun W' (hb : Below w.heap.size w W') => oawake_any W' (HT.out.below hb)
  obtain ⟨va0, vc0, rfl⟩ := hv.len
  clear hT hv
  go_enter Tryd.func5, Tryd.ntmps5
  go_upto_region 2 with (go_at_call 21; ((with_reducible refine (cT).mono ?_); rintro e w3 ⟨hb5, (rfl | ⟨p, rfl, hP⟩)⟩; (clear hb; have hb := Lib.hid hb5)))
  · clear cT
    go_wp2_with (go_at_call 7; ((with_reducible refine (cA _ (show Below w.heap.size w _ by (repeat (first | (with_reducible exact hb.out) | (with_reducible exact Below.refl _ _) | (with_reducible refine Below.drew ?_) | (with_reducible refine Below.alloc ?_ ?_ _) | (with_reducible refine Below.setCell ?_ ?_ _) | omega | (simp <;> omega))))).mono ?_); rintro e w5 ⟨rfl, hb5⟩; have hd2 := Lib.hid ((show Below w.heap.size w _ by (repeat (first | (with_reducible exact hb.out) | (with_reducible exact Below.refl _ _) | (with_reducible refine Below.drew ?_) | (with_reducible refine Below.alloc ?_ ?_ _) | (with_reducible refine Below.setCell ?_ ?_ _) | omega | (simp <;> omega)))).trans (hb5.mono (by first | exact hb.out.size | (simp; exact hb.out.size) | (have hq9 := hb.out.size; simp; omega)))); clear hb hb5; have hb := hd2; clear hd2))
    go_ret
    exact ⟨rfl, hb.out⟩
  · clear cT hb
    have HB3 := Lib.hid hb5
    have cA3 := fun W' (hb : Below w3.heap.size w3 W') => cA W' (HB3.out.trans (hb.mono HB3.out.size))
    have hb := Lib.hid (Below.refl w3.heap.size w3)
    clear cA hb5
    obtain ⟨deep, l, hd, hI, hV, hl2⟩ := hP.out
    have cH := fun W' (hb : Below w3.heap.size w3 W') => has_v (hV.below hb) root
    have cP := fun W' (hb : Below w3.heap.size w3 W') => parent_v (hV.below hb) root
    clear hP
    cases hh : hasS (sk l) root with
    | false =>
      rw [hh] at cH
      clear hI hV cP hd hl2 hh
      go_wp2_with (first
      | (go_at_call 22; ((with_reducible refine (cH _ (show Below w3.heap.size w3 _ by (repeat (first | (with_reducible exact hb.out) | (with_reducible exact Below.refl _ _) | (with_reducible refine Below.drew ?_) | (with_reducible refine Below.alloc ?_ ?_ _) | (with_reducible refine Below.setCell ?_ ?_ _) | omega | (simp <;> omega))))).mono ?_); rintro e w5 ⟨rfl, rfl⟩))
      | (go_at_call 7; ((with_reducible refine (cA3 _ (show Below w3.heap.size w3 _ by (repeat (first | (with_reducible exact hb.out) | (with_reducible exact Below.refl _ _) | (with_reducible refine Below.drew ?_) | (with_reducible refine Below.alloc ?_ ?_ _) | (with_reducible refine Below.setCell ?_ ?_ _) | omega | (simp <;> omega))))).mono ?_); rintro e w5 ⟨rfl, hb5⟩; have hd2 := Lib.hid ((show Below w3.heap.size w3 _ by (repeat (first | (with_reducible exact hb.out) | (with_reducible exact Below.refl _ _) | (with_reducible refine Below.drew ?_) | (with_reducible refine Below.alloc ?_ ?_ _) | (with_reducible refine Below.setCell ?_ ?_ _) | omega | (simp <;> omega)))).trans (hb5.mono (by first | exact hb.out.size | (simp; exact hb.out.size) | (have hq9 := hb.out.size; simp; omega)))); clear hb hb5; have hb := hd2; clear hd2)))
      go_ret
      exact ⟨rfl, HB3.out.trans (hb.out.mono HB3.out.size)⟩
    | true =>
      rw [hh] at cH
      by_cases hup : 0 ≤ upS (sk l) root
      · obtain ⟨u, hu⟩ : ∃ u, upS (sk l) root = u := ⟨_, rfl⟩
        rw [hu] at cP hup
        clear hI hV hd hl2 hh hu
        go_wp2_with (first
      | (go_at_call 22; ((with_reducible refine (cH _ (show Below w3.heap.size w3 _ by (repeat (first | (with_reducible exact hb.out) | (with_reducible exact Below.refl _ _) | (with_reducible refine Below.drew ?_) | (with_reducible refine Below.alloc ?_ ?_ _) | (with_reducible refine Below.setCell ?_ ?_ _) | omega | (simp <;> omega))))).mono ?_); rintro e w5 ⟨rfl, rfl⟩))
      | (go_at_call 23; ((with_reducible refine (cP _ (show Below w3.heap.size w3 _ by (repeat (first | (with_reducible exact hb.out) | (with_reducible exact Below.refl _ _) | (with_reducible refine Below.drew ?_) | (with_reducible refine Below.alloc ?_ ?_ _) | (with_reducible refine Below.setCell ?_ ?_ _) | omega | (simp <;> omega))))).mono ?_); rintro e w5 ⟨rfl, rfl⟩))
      | (go_at_call 7; ((with_reducible refine (cA3 _ (show Below w3.heap.size w3 _ by (repeat (first | (with_reducible exact hb.out) | (with_reducible exact Below.refl _ _) | (with_reducible refine Below.drew ?_) | (with_reducible refine Below.alloc ?_ ?_ _) | (with_reducible refine Below.setCell ?_ ?_ _) | omega | (simp <;> omega))))).mono ?_); rintro e w5 ⟨rfl, hb5⟩; have hd2 := Lib.hid ((show Below w3.heap.size w3 _ by (repeat (first | (with_reducible exact hb.out) | (with_reducible exact Below.refl _ _) | (with_reducible refine Below.drew ?_) | (with_reducible refine Below.alloc ?_ ?_ _) | (with_reducible refine Below.setCell ?_ ?_ _) | omega | (simp <;> omega)))).trans (hb5.mono (by first | exact hb.out.size | (simp; exact hb.out.size) | (have hq9 := hb.out.size; simp; omega)))); clear hb hb5; have hb := hd2; clear hd2)))
        go_ret
        exact ⟨rfl, HB3.out.trans (hb.out.mono HB3.out.size)⟩
      · have hroot : ∃ (j : Nat) (y : Nd), root = (j : Int) ∧ l[j]? = some (some y) ∧ y.up = -1 := by
          rw [← sk_has] at hh
          obtain ⟨y, hy⟩ := Option.isSome_iff_exists.1 hh
          obtain ⟨j, e, hj⟩ := nd_id hy
          refine ⟨j, y, e, hj, ?_⟩
          have h1 := (sk_node hj).2.1
          rcases hI.par j y hj with h2 | ⟨i, x, h2, _⟩
          · exact h2
          · rw [e, h1, h2] at hup; omega
        obtain ⟨j, y, rfl, hj, hu⟩ := hroot
        rw [(sk_node hj).2.1, hu] at cP
        obtain ⟨A, hA⟩ : ∃ A, downS (sk l) 41 (j : Int) = A := ⟨_, rfl⟩
        have hAl : A.length ≤ 2000 := by rw [← hA]; exact Nat.le_trans (down_len hI hd 41 hj) hl2
        have hA0 : ∃ A', A = (j : Int) :: A' := ⟨_, hA.symm.trans (down_eq 40 hj)⟩
        have HG := Lib.hid (goes_at hI hd hj hu hA)
        have HS := Lib.hid (inv_short hI)
        have HE := Lib.hid (inv_endsU hI hd)
        have HK := Lib.hid (inv_endsK hI hd)
        have HPR := Lib.hid (prev_root hj hu)
        have cAll := fun W' (hb : Below w3.heap.size w3 W') => all_v (hV.below hb) (j : Int) 41 (HK.out _) (by rw [hA]; omega)
        rw [hA] at cAll
        have HV := Lib.hid hV
        have hup2 : ¬ (0 : Int) ≤ -1 := by decide
        obtain ⟨root, hrt⟩ : ∃ z, (j : Int) = z := ⟨_, rfl⟩
        rw [hrt] at HG HPR cAll cP cH hA0 ⊢
        obtain ⟨L, hL⟩ : ∃ L, sk l = L := ⟨_, rfl⟩
        rw [hL] at HG HS HE HK HPR HV
        have HA0 := Lib.hid hA0
        obtain ⟨N, hN⟩ : ∃ N, A.length = N := ⟨_, rfl⟩
        have HN := Lib.hid hN
        clear hI hV hd hl2 hh hup hj hu hA hA0 hL hrt
        go_upto_region 5 with (first
      | (go_at_call 22; ((with_reducible refine (cH _ (show Below w3.heap.size w3 _ by (repeat (first | (with_reducible exact hb.out) | (with_reducible exact Below.refl _ _) | (with_reducible refine Below.drew ?_) | (with_reducible refine Below.alloc ?_ ?_ _) | (with_reducible refine Below.setCell ?_ ?_ _) | omega | (simp <;> omega))))).mono ?_); rintro e w5 ⟨rfl, rfl⟩))
      | (go_at_call 23; ((with_reducible refine (cP _ (show Below w3.heap.size w3 _ by (repeat (first | (with_reducible exact hb.out) | (with_reducible exact Below.refl _ _) | (with_reducible refine Below.drew ?_) | (with_reducible refine Below.alloc ?_ ?_ _) | (with_reducible refine Below.setCell ?_ ?_ _) | omega | (simp <;> omega))))).mono ?_); rintro e w5 ⟨rfl, rfl⟩))
      | (go_at_call 15; ((with_reducible refine (cAll _ (show Below w3.heap.size w3 _ by (repeat (first | (with_reducible exact hb.out) | (with_reducible exact Below.refl _ _) | (with_reducible refine Below.drew ?_) | (with_reducible refine Below.alloc ?_ ?_ _) | (with_reducible refine Below.setCell ?_ ?_ _) | omega | (simp <;> omega))))).mono ?_); rintro e w4 hO; obtain ⟨ka, kc, rfl, hka, _, hb5⟩ := hO.open; have hd2 := Lib.hid ((show Below w3.heap.size w3 _ by (repeat (first | (with_reducible exact hb.out) | (with_reducible exact Below.refl _ _) | (with_reducible refine Below.drew ?_) | (with_reducible refine Below.alloc ?_ ?_ _) | (with_reducible refine Below.setCell ?_ ?_ _) | omega | (simp <;> omega)))).trans (hb5.mono (by first | exact hb.out.size | (simp; exact hb.out.size) | (have hq9 := hb.out.size; simp; omega)))); clear hb hb5; have hb := hd2; clear hd2)))
        try rw [hN]
        have hb4 : Below w3.heap.size w3 w4 := hb.out
        have HB4 := Lib.hid hb4
        have HKA := Lib.hid hka
        have HV4 := Lib.hid (HV.out.below hb4)
        have cA4 := fun W' (hb : Below w4.heap.size w4 W') => cA3 W' (HB4.out.trans (hb.mono HB4.out.size))
        have hN2 : N ≤ 2000 := by omega
        clear hb cA3 hb4 hka cH cP cAll hN hAl
        go_wp2
        go_loopw [11, 12, 13, 14, 15] (fun at_ i _ _ _ wr => ∃ k : Nat, k ≤ N ∧ i = .int .i64 k ∧ at_ = .int .i64 (atZ A k) ∧ Hid (Below w4.heap.size w4 wr)) (fun _ i _ _ _ _ => N - (RowKit.intOf i).toNat)
        case atStart =>
          refine ⟨0, Nat.zero_le _, rfl, ?_, Lib.hid (Below.refl _ _)⟩
          obtain ⟨A', e⟩ := HA0.out
          rw [e]; rfl
        case round =>
          obtain ⟨k, hk, rfl, rfl, HB⟩ := hrel
          have hVr := HV4.out.below HB.out
          have hsz := HB.out.size
          have hb := Lib.hid (Below.refl wr.heap.size wr)
          have cAr := fun W' (hb : Below wr.heap.size wr W') => cA4 W' (HB.out.trans (hb.mono hsz))
          have HFI : Hid (∀ W', Below wr.heap.size wr W' → Below w.heap.size w W') := Lib.hid (fun W' h => HB3.out.trans ((HB4.out.trans ((HB.out.trans (h.mono hsz)).mono HB4.out.size)).mono HB3.out.size))
          by_cases hlt : k < N
          · have hkl : k < A.length := by rw [HN.out]; exact hlt
            have hkI : (k : Int) < (N : Int) := by omega
            obtain ⟨g1, g2⟩ := HG.out k hkl
            have hat : atZ A k = A[k]! := atZ_lt hkl
            obtain ⟨b, o, rfl, hc⟩ : ∃ b o, ka = some ⟨b, o, none⟩ ∧ wr.cell? ⟨b, o + k, none⟩ = some (.int .i64 (A[k]!)) := by
              rcases HKA.out with h0 | ⟨b, o, e, h0⟩
              · rw [h0] at hkl; simp at hkl
              · exact ⟨b, o, e, (HB.out.cell (lt_of_cell' (h0 k hkl))).trans (h0 k hkl)⟩
            have hw1 : IntKind.i64.wrap ((k : Int) + 1) = (k : Int) + 1 := IntWalk.i64_in _ (by omega)
            have cWi := fun W' (hb : Below wr.heap.size wr W') => within_v (hVr.below hb) (A[k]!) root 41 (HE.out _)
            have cNe := fun W' (hb : Below wr.heap.size wr W') => next_v (hVr.below hb) (A[k]!) 41 (HK.out _) 41 (HE.out _)
            rw [g1] at cWi
            rw [hat]
            obtain ⟨yk, hyk⟩ : ∃ z, A[k]! = z := ⟨_, rfl⟩
            rw [hyk] at hc cWi cNe g2 ⊢
            rcases g2 with ⟨k1, k2, k3, k4, k5⟩ | ⟨k1, k2⟩
            · have cPr := fun W' (hb : Below wr.heap.size wr W') => prev_v (hVr.below hb) (A[k + 1]!) 41 (fun q _ => HK.out q)
              have cCm := fun W' (hb : Below wr.heap.size wr W') => cmp_v (hVr.below hb) HS.out yk 0 (A[k + 1]!) 0 41 (by decide) HE.out
              have HAT := Lib.hid (atZ_lt k1)
              rw [k3] at cNe
              rw [k4] at cPr
              rw [k5] at cCm
              obtain ⟨zk, hzk⟩ : ∃ z, A[k + 1]! = z := ⟨_, rfl⟩
              rw [hzk] at cNe cPr cCm HAT k2
              have hkI2 : (k : Int) + 1 < (N : Int) := by have := HN.out; omega
              clear g1 hat hyk k1 k3 k4 k5 hzk hVr cAr hkl
              go_wp2_with (first
      | (go_at_call 19; ((with_reducible refine (cWi _ (show Below wr.heap.size wr _ by (repeat (first | (with_reducible exact hb.out) | (with_reducible exact Below.refl _ _) | (with_reducible refine Below.drew ?_) | (with_reducible refine Below.alloc ?_ ?_ _) | (with_reducible refine Below.setCell ?_ ?_ _) | omega | (simp <;> omega))))).mono ?_); rintro e w5 ⟨rfl, hb5⟩; have hd2 := Lib.hid ((show Below wr.heap.size wr _ by (repeat (first | (with_reducible exact hb.out) | (with_reducible exact Below.refl _ _) | (with_reducible refine Below.drew ?_) | (with_reducible refine Below.alloc ?_ ?_ _) | (with_reducible refine Below.setCell ?_ ?_ _) | omega | (simp <;> omega)))).trans (hb5.mono (by first | exact hb.out.size | (simp; exact hb.out.size) | (have hq9 := hb.out.size; simp; omega)))); clear hb hb5; have hb := hd2; clear hd2))
      | (go_at_call 12; ((with_reducible refine (cNe _ (show Below wr.heap.size wr _ by (repeat (first | (with_reducible exact hb.out) | (with_reducible exact Below.refl _ _) | (with_reducible refine Below.drew ?_) | (with_reducible refine Below.alloc ?_ ?_ _) | (with_reducible refine Below.setCell ?_ ?_ _) | omega | (simp <;> omega))))).mono ?_); rintro e w5 ⟨rfl, hb5⟩; have hd2 := Lib.hid ((show Below wr.heap.size wr _ by (repeat (first | (with_reducible exact hb.out) | (with_reducible exact Below.refl _ _) | (with_reducible refine Below.drew ?_) | (with_reducible refine Below.alloc ?_ ?_ _) | (with_reducible refine Below.setCell ?_ ?_ _) | omega | (simp <;> omega)))).trans (hb5.mono (by first | exact hb.out.size | (simp; exact hb.out.size) | (have hq9 := hb.out.size; simp; omega)))); clear hb hb5; have hb := hd2; clear hd2))
      | (go_at_call 13; ((with_reducible refine (cPr _ (show Below wr.heap.size wr _ by (repeat (first | (with_reducible exact hb.out) | (with_reducible exact Below.refl _ _) | (with_reducible refine Below.drew ?_) | (with_reducible refine Below.alloc ?_ ?_ _) | (with_reducible refine Below.setCell ?_ ?_ _) | omega | (simp <;> omega))))).mono ?_); rintro e w5 ⟨rfl, hb5⟩; have hd2 := Lib.hid ((show Below wr.heap.size wr _ by (repeat (first | (with_reducible exact hb.out) | (with_reducible exact Below.refl _ _) | (with_reducible refine Below.drew ?_) | (with_reducible refine Below.alloc ?_ ?_ _) | (with_reducible refine Below.setCell ?_ ?_ _) | omega | (simp <;> omega)))).trans (hb5.mono (by first | exact hb.out.size | (simp; exact hb.out.size) | (have hq9 := hb.out.size; simp; omega)))); clear hb hb5; have hb := hd2; clear hd2))
      | (go_at_call 8; ((with_reducible refine (cCm _ (show Below wr.heap.size wr _ by (repeat (first | (with_reducible exact hb.out) | (with_reducible exact Below.refl _ _) | (with_reducible refine Below.drew ?_) | (with_reducible refine Below.alloc ?_ ?_ _) | (with_reducible refine Below.setCell ?_ ?_ _) | omega | (simp <;> omega))))).mono ?_); rintro e w5 ⟨rfl, hb5⟩; have hd2 := Lib.hid ((show Below wr.heap.size wr _ by (repeat (first | (with_reducible exact hb.out) | (with_reducible exact Below.refl _ _) | (with_reducible refine Below.drew ?_) | (with_reducible refine Below.alloc ?_ ?_ _) | (with_reducible refine Below.setCell ?_ ?_ _) | omega | (simp <;> omega)))).trans (hb5.mono (by first | exact hb.out.size | (simp; exact hb.out.size) | (have hq9 := hb.out.size; simp; omega)))); clear hb hb5; have hb := hd2; clear hd2)))
              go_roundw
              case rel => exact ⟨k + 1, hlt, by go_num, by rw [HAT.out], Lib.hid (HB.out.trans (hb.out.mono hsz))⟩
              case measure => simp [RowKit.intOf]; omega
            · rw [k2] at cNe
              have hkI2 : ¬ (k : Int) + 1 < (N : Int) := by have := HN.out; omega
              have HAT := Lib.hid (atZ_end (A := A) (k := k + 1) (by omega))
              clear g1 hat hyk k1 k2 hVr cAr hkl
              go_wp2_with (first
      | (go_at_call 19; ((with_reducible refine (cWi _ (show Below wr.heap.size wr _ by (repeat (first | (with_reducible exact hb.out) | (with_reducible exact Below.refl _ _) | (with_reducible refine Below.drew ?_) | (with_reducible refine Below.alloc ?_ ?_ _) | (with_reducible refine Below.setCell ?_ ?_ _) | omega | (simp <;> omega))))).mono ?_); rintro e w5 ⟨rfl, hb5⟩; have hd2 := Lib.hid ((show Below wr.heap.size wr _ by (repeat (first | (with_reducible exact hb.out) | (with_reducible exact Below.refl _ _) | (with_reducible refine Below.drew ?_) | (with_reducible refine Below.alloc ?_ ?_ _) | (with_reducible refine Below.setCell ?_ ?_ _) | omega | (simp <;> omega)))).trans (hb5.mono (by first | exact hb.out.size | (simp; exact hb.out.size) | (have hq9 := hb.out.size; simp; omega)))); clear hb hb5; have hb := hd2; clear hd2))
      | (go_at_call 12; ((with_reducible refine (cNe _ (show Below wr.heap.size wr _ by (repeat (first | (with_reducible exact hb.out) | (with_reducible exact Below.refl _ _) | (with_reducible refine Below.drew ?_) | (with_reducible refine Below.alloc ?_ ?_ _) | (with_reducible refine Below.setCell ?_ ?_ _) | omega | (simp <;> omega))))).mono ?_); rintro e w5 ⟨rfl, hb5⟩; have hd2 := Lib.hid ((show Below wr.heap.size wr _ by (repeat (first | (with_reducible exact hb.out) | (with_reducible exact Below.refl _ _) | (with_reducible refine Below.drew ?_) | (with_reducible refine Below.alloc ?_ ?_ _) | (with_reducible refine Below.setCell ?_ ?_ _) | omega | (simp <;> omega)))).trans (hb5.mono (by first | exact hb.out.size | (simp; exact hb.out.size) | (have hq9 := hb.out.size; simp; omega)))); clear hb hb5; have hb := hd2; clear hd2)))
              go_roundw
              case rel => exact ⟨k + 1, hlt, by go_num, by rw [HAT.out], Lib.hid (HB.out.trans (hb.out.mono hsz))⟩
              case measure => simp [RowKit.intOf]; omega
          · have hkn : k = N := by omega
            subst hkn
            have hlt2 : ¬ (k : Int) < (k : Int) := by omega
            rw [atZ_end (by rw [HN.out]; exact Nat.le_refl _)]
            have cPr := fun W' (hb : Below wr.heap.size wr W') => prev_v (hVr.below hb) root 41 (fun q _ => HK.out q)
            rw [HPR.out] at cPr
            clear hVr
            go_wp2_with (first
      | (go_at_call 13; ((with_reducible refine (cPr _ (show Below wr.heap.size wr _ by (repeat (first | (with_reducible exact hb.out) | (with_reducible exact Below.refl _ _) | (with_reducible refine Below.drew ?_) | (with_reducible refine Below.alloc ?_ ?_ _) | (with_reducible refine Below.setCell ?_ ?_ _) | omega | (simp <;> omega))))).mono ?_); rintro e w5 ⟨rfl, hb5⟩; have hd2 := Lib.hid ((show Below wr.heap.size wr _ by (repeat (first | (with_reducible exact hb.out) | (with_reducible exact Below.refl _ _) | (with_reducible refine Below.drew ?_) | (with_reducible refine Below.alloc ?_ ?_ _) | (with_reducible refine Below.setCell ?_ ?_ _) | omega | (simp <;> omega)))).trans (hb5.mono (by first | exact hb.out.size | (simp; exact hb.out.size) | (have hq9 := hb.out.size; simp; omega)))); clear hb hb5; have hb := hd2; clear hd2))
      | (go_at_call 7; ((with_reducible refine (cAr _ (show Below wr.heap.size wr _ by (repeat (first | (with_reducible exact hb.out) | (with_reducible exact Below.refl _ _) | (with_reducible refine Below.drew ?_) | (with_reducible refine Below.alloc ?_ ?_ _) | (with_reducible refine Below.setCell ?_ ?_ _) | omega | (simp <;> omega))))).mono ?_); rintro e w5 ⟨rfl, hb5⟩; have hd2 := Lib.hid ((show Below wr.heap.size wr _ by (repeat (first | (with_reducible exact hb.out) | (with_reducible exact Below.refl _ _) | (with_reducible refine Below.drew ?_) | (with_reducible refine Below.alloc ?_ ?_ _) | (with_reducible refine Below.setCell ?_ ?_ _) | omega | (simp <;> omega)))).trans (hb5.mono (by first | exact hb.out.size | (simp; exact hb.out.size) | (have hq9 := hb.out.size; simp; omega)))); clear hb hb5; have hb := hd2; clear hd2)))
            go_ret
            exact ⟨rfl, HFI.out _ hb.out⟩

end Go.Proofs.YtggjoefhopoggaaDoor
