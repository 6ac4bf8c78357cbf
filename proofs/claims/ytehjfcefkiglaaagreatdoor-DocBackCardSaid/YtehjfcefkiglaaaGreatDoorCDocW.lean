/-
  The document's Offset, At, Step, May.
-/
import Derived.Test.YtehjfcefkiglaaaGreatDoorCDocV
import Derived.Test.YtehjfcefkiglaaaGreatDoorCDocD

namespace Go.Proofs.YtehjfcefkiglaaaGreatDoor
open Go.RowKit Go.Lib

/-- Where places of one's own lie. -/
theorem ownP_at {w : World} {B : Nat} {v : Value} {l : List Ps} (h : w.ownsRow B 24 2 v l.length (cellsP l)) (hl : 0 < l.length) :
    ∃ g cap, v = .slice (some ⟨g, 0, none⟩) l.length cap ∧ l.length ≤ cap ∧ cap ≤ maxLen ∧ g < w.heap.size ∧ ∀ j, j < l.length → w.cell? ⟨g, j * 2, none⟩ = some (.int .i64 (l[j]!).1) ∧ w.cell? ⟨g, j * 2 + 1, none⟩ = some (.int .i64 (l[j]!).2) := by
  have h0 := h
  obtain ⟨_, ⟨rfl, hn⟩ | ⟨g, cap, cur, rfl, _, hg, hnc, hcm, _, _⟩⟩ := h
  · omega
  · have hfl : ∀ j u, (cellsP l)[j]? = some u → w.cell? ⟨g, j, none⟩ = some u := fun j u hu => by
      have := h0.cells rfl j u hu
      rwa [Addr.add_lit, Nat.zero_add] at this
    exact ⟨g, cap, rfl, hnc, hcm, (Array.getElem?_eq_some_iff.1 hg).1, fun j hj => ⟨hfl _ _ (cellsP_at l j hj).1, hfl _ _ (cellsP_at l j hj).2⟩⟩
theorem places_bound {l : List Lw} (hf : Fine (pl l)) : (places (pl l)).length ≤ 1001000 := by
  rw [places_length, pl_length]
  have := hf.s
  have := hf.len
  omega
theorem findP_next (l : List Ps) (p : Ps) (n k : Nat) (h : k < n) : findP l p (n - k) k = if l[k]! = p then ((k : Int), 0) else findP l p (n - (k + 1)) (k + 1) := by
  obtain ⟨q, hq⟩ : ∃ q, n - k = q + 1 := ⟨n - k - 1, by omega⟩
  rw [hq, show n - (k + 1) = q by omega]
  rfl

set_option maxRecDepth 20000 in
set_option maxHeartbeats 8000000 in
theorem rdoffset_any (v : Value) (l : List Lw) (p1 p2 : Int) (w : World) (h : SliceAt w v l) (hf : Fine (pl l)) :
    Calls Tryz.prog 26 #[v, psV (p1, p2)] w fun e w' => e = .returned (.tuple #[.int .i64 (offsetD (pl l) (p1, p2)).1, .int .i64 (offsetD (pl l) (p1, p2)).2]) ∧ Below w.heap.size w w' := by
  obtain ⟨a, c, rfl⟩ := h.len
  have cP := places_any _ l (w.alloc (.cells #[.int .i64 p1, .int .i64 p2] 24)) (h.below (below_alloc1 _ _)) hf
  have hp : Tryz.prog.stoodInHeld 24 = false := by kernel_rfl
  have hS : Tryz.prog.underlying 24 = some (.struct (Tryz.prog.fieldsOf 24)) := by kernel_rfl
  have hq : ∀ (a b c d : Int) (W : World), (binOp .eql 24 (.agg #[.int .i64 a, .int .i64 b]) (.agg #[.int .i64 c, .int .i64 d])).run Tryz.prog W = .ok (.bool (decide (a = c) && decide (b = d))) W := fun a b c d W => by
    rw [run_eql_struct, show (10000 : Nat) = 9999 + 1 from rfl, run_equalIn_agg W 9999 24 _ _ hS hp]
    simp only [Program.fieldsOf, Tryz.underlying24]
    go_simp
    by_cases k1 : a = c <;> by_cases k2 : b = d <;> simp_all
  have hm : Tryz.prog.eqGuardType Tryz.prog.depth 24 = false := by kernel_rfl
  clear hp hS
  have hb0 := places_bound hf
  have hR := findP_is (pl l) (p1, p2)
  obtain ⟨L, hL⟩ : ∃ L, places (pl l) = L := ⟨_, rfl⟩
  rw [hL] at cP hR hb0
  obtain ⟨⟨R1, R2⟩, hRe⟩ : ∃ R, offsetD (pl l) (p1, p2) = R := ⟨_, rfl⟩
  rw [hRe] at hR ⊢
  obtain ⟨n0, hn0⟩ : ∃ n, l.length = n := ⟨_, rfl⟩
  rw [hn0] at cP ⊢
  obtain ⟨n, hn⟩ : ∃ n, L.length = n := ⟨_, rfl⟩
  have HR : Hid (findP L (p1, p2) (n - 0) 0 = (R1, R2)) := Lib.hid (by rw [Nat.sub_zero, ← hn]; exact hR)
  have N := Lib.hid hn
  rw [hn] at hb0
  unfold psV
  dsimp only
  have P0 := Lib.hid (ps_new w p1 p2)
  clear h hf hR hRe hL hn0 hn
  go_enter Tryz.func26, Tryz.ntmps26
  go_wp2_with (go_at_call 66; ((with_reducible refine cP.mono ?_); rintro e w2 ⟨s, rfl, hown, hb2⟩; have HP := Lib.hid (P0.out.below hb2); have hb := Lib.hid ((below_alloc1 w _).trans (hb2.mono (by simp))); have HO := Lib.hid hown; obtain ⟨u, cap, rfl⟩ := own_len hown; rw [N.out]; clear hown hb2))
  go_loopw [7] (fun i wr => ∃ k : Nat, k ≤ n ∧ i = .int .i64 k ∧ Hid (findP L (p1, p2) (n - k) k = (R1, R2)) ∧ ∃ z, wr = w2.drewN z) (fun i _ => n - (RowKit.intOf i).toNat)
  case atStart => exact ⟨0, Nat.zero_le _, rfl, HR, 0, rfl⟩
  case round =>
    obtain ⟨k, hk, rfl, HK, z, rfl⟩ := hrel
    by_cases hlt : k < n
    · have hkI : (k : Int) < (n : Int) := by omega
      obtain ⟨g, cap', e, hlc, hcm, hgl, hc⟩ := ownP_at HO.out (by rw [N.out]; omega)
      obtain ⟨rfl, _, rfl⟩ := Value.slice.inj e
      unfold maxLen at hcm
      rw [N.out] at hlc
      obtain ⟨x0, x1⟩ := hc k (by rw [N.out]; exact hlt)
      obtain ⟨_, y0, y1, _, _⟩ := HP.out
      have hst := findP_next L (p1, p2) n k hlt
      rw [HK.out] at hst
      obtain ⟨⟨X1, X2⟩, hX⟩ : ∃ X, L[k]! = X := ⟨_, rfl⟩
      rw [hX] at x0 x1 hst
      dsimp only at x0 x1
      clear hX hc e HK
      by_cases hq0 : X1 = p1 ∧ X2 = p2
      · obtain ⟨rfl, rfl⟩ := hq0
        rw [if_pos rfl] at hst
        simp only [Prod.mk.injEq] at hst
        obtain ⟨rfl, rfl⟩ := hst
        go_wp2
        go_quiet (fail)
        go_wp2
        go_ret2
        exact ⟨rfl, by (try rw [World.drewN_drewN]); exact hb.out.trans ((below_draws _ _).mono hb.out.size)⟩
      · rw [if_neg (fun e => hq0 (by simpa using e))] at hst
        have HS := Lib.hid hst.symm
        have hq1 : (decide (X1 = p1) && decide (X2 = p2)) = false := by
          cases h1 : decide (X1 = p1) <;> cases h2 : decide (X2 = p2) <;> simp_all
        clear hst hq0
        go_wp2
        go_quiet (fail)
        go_wp2
        go_roundw
        case rel => exact ⟨k + 1, hlt, by go_num, HS, _, rfl⟩
        case measure => simp [RowKit.intOf]; omega
    · have hkn : k = n := by omega
      subst hkn
      have hst := HK.out
      rw [Nat.sub_self] at hst
      unfold findP at hst
      simp only [Prod.mk.injEq] at hst
      obtain ⟨rfl, rfl⟩ := hst
      clear HK
      go_wp2
      go_ret2
      exact ⟨rfl, by (try rw [World.drewN_drewN]); exact hb.out.trans ((below_draws _ _).mono hb.out.size)⟩

set_option maxRecDepth 20000 in
set_option maxHeartbeats 8000000 in
theorem rdat_any (v : Value) (l : List Lw) (z : Int) (w : World) (h : SliceAt w v l) (hf : Fine (pl l)) :
    Calls Tryz.prog 28 #[v, .int .i64 z] w fun e w' => e = .returned (errZ (atD (pl l) z)) ∧ Below w.heap.size w w' := by
  obtain ⟨a, c, rfl⟩ := h.len
  have cP := places_any _ l (w.alloc (.cells #[.int .i64 0, .int .i64 0] 24)) (h.below (below_alloc1 _ _)) hf
  have hb0 := places_bound hf
  rw [← atP_is]
  unfold atP
  obtain ⟨L, hL⟩ : ∃ L, places (pl l) = L := ⟨_, rfl⟩
  rw [hL] at cP hb0 ⊢
  obtain ⟨n0, hn0⟩ : ∃ n, l.length = n := ⟨_, rfl⟩
  rw [hn0] at cP ⊢
  obtain ⟨n, hn⟩ : ∃ n, L.length = n := ⟨_, rfl⟩
  rw [hn] at hb0 ⊢
  have N := Lib.hid hn
  have P0 := Lib.hid (ps_new w 0 0)
  clear h hf hL hn0 hn
  have hC : z < 0 ∨ (¬ z < 0 ∧ (n : Int) ≤ z) ∨ ∃ k : Nat, z = (k : Int) ∧ k < n := by
    by_cases h1 : z < 0
    · exact .inl h1
    · by_cases h2 : (n : Int) ≤ z
      · exact .inr (.inl ⟨h1, h2⟩)
      · exact .inr (.inr ⟨z.toNat, by omega, by omega⟩)
  rcases hC with h1 | ⟨h1, h2⟩ | ⟨k, rfl, hk⟩
  · rw [if_pos (.inl h1)]
    go_enter Tryz.func28, Tryz.ntmps28
    go_wp2_with (go_at_call 66; ((with_reducible refine cP.mono ?_); rintro e w2 ⟨s, rfl, hown, hb2⟩; obtain ⟨_, y0, y1, g0, g1⟩ := P0.out.below hb2; have hb := Lib.hid ((below_alloc1 w _).trans (hb2.mono (by simp))); obtain ⟨u, cap, rfl⟩ := own_len hown; rw [N.out]; clear hown hb2))
    exact bodyPost_ret (v := errZ ((0, 0), 1)) (by simp [results, Tryz.results28, go_sem, errZ, *]) rfl ⟨rfl, by repeat (first | (with_reducible exact hb) | (with_reducible exact hb.out) | (with_reducible refine Below.drew ?_) | (with_reducible refine Below.setCell ?_ ?_ _) | (with_reducible refine Below.alloc ?_ ?_ _) | exact Nat.le_refl _ | exact Nat.le_succ _ | omega | (simp; done) | (simp; omega))⟩
  · rw [if_pos (.inr h2)]
    go_enter Tryz.func28, Tryz.ntmps28
    go_wp2_with (go_at_call 66; ((with_reducible refine cP.mono ?_); rintro e w2 ⟨s, rfl, hown, hb2⟩; obtain ⟨_, y0, y1, g0, g1⟩ := P0.out.below hb2; have hb := Lib.hid ((below_alloc1 w _).trans (hb2.mono (by simp))); obtain ⟨u, cap, rfl⟩ := own_len hown; rw [N.out]; clear hown hb2))
    exact bodyPost_ret (v := errZ ((0, 0), 1)) (by simp [results, Tryz.results28, go_sem, errZ, *]) rfl ⟨rfl, by repeat (first | (with_reducible exact hb) | (with_reducible exact hb.out) | (with_reducible refine Below.drew ?_) | (with_reducible refine Below.setCell ?_ ?_ _) | (with_reducible refine Below.alloc ?_ ?_ _) | exact Nat.le_refl _ | exact Nat.le_succ _ | omega | (simp; done) | (simp; omega))⟩
  · rw [if_neg (by omega), Int.toNat_natCast]
    have hkI : (k : Int) < (n : Int) := by omega
    have hkJ : ¬ (n : Int) ≤ (k : Int) := by omega
    obtain ⟨⟨X1, X2⟩, hX⟩ : ∃ X, L[k]! = X := ⟨_, rfl⟩
    rw [hX]
    have HX := Lib.hid hX
    clear hX
    go_enter Tryz.func28, Tryz.ntmps28
    go_wp2_with (go_at_call 66; ((with_reducible refine cP.mono ?_); rintro e w2 ⟨s, rfl, hown, hb2⟩; obtain ⟨_, y0, y1, g0, g1⟩ := P0.out.below hb2; have hb := Lib.hid ((below_alloc1 w _).trans (hb2.mono (by simp))); obtain ⟨g, cap, rfl, hlc, hcm, hgl, hc⟩ := ownP_at hown (by rw [N.out]; omega); obtain ⟨x0, x1⟩ := hc k (by rw [N.out]; exact hk); rw [HX.out] at x0 x1; dsimp only at x0 x1; rw [N.out] at hlc; unfold maxLen at hcm; rw [N.out]; clear hown hb2 hc))
    exact bodyPost_ret (v := errZ ((X1, X2), 0)) (by simp [results, Tryz.results28, go_sem, errZ, *]) rfl ⟨rfl, by repeat (first | (with_reducible exact hb) | (with_reducible exact hb.out) | (with_reducible refine Below.drew ?_) | (with_reducible refine Below.setCell ?_ ?_ _) | (with_reducible refine Below.alloc ?_ ?_ _) | exact Nat.le_refl _ | exact Nat.le_succ _ | omega | (simp; done) | (simp; omega))⟩

set_option maxRecDepth 20000 in
set_option maxHeartbeats 8000000 in
theorem rdstep_any (v : Value) (l : List Lw) (p1 p2 z : Int) (w : World) (h : SliceAt w v l) (hf : Fine (pl l)) :
    Calls Tryz.prog 30 #[v, psV (p1, p2), .int .i64 z] w fun e w' => e = .returned (.tuple #[psV (stepD (pl l) (p1, p2) z).1, .bool (stepD (pl l) (p1, p2) z).2]) ∧ Below w.heap.size w w' := by
  obtain ⟨a, c, rfl⟩ := h.len
  rw [← stepP_is]
  unfold stepP
  have hl := hf.len
  obtain ⟨⟨C1, C2⟩, hC⟩ : ∃ C, clampD (pl l) (p1, p2) = C := ⟨_, rfl⟩
  have hF := offsetD_bound (pl l) (C1, C2)
  have hbd := places_bound hf
  have cP : ∀ w1, Below w.heap.size w w1 → _ := fun w1 h1 => places_any _ l w1 (h.below h1) hf
  have cC : ∀ w1, Below w.heap.size w w1 → _ := fun w1 h1 => rdclamp_any _ l p1 p2 w1 (h.below h1) hl hf.cnt
  have cO : ∀ w1, Below w.heap.size w w1 → _ := fun w1 h1 => rdoffset_any _ l C1 C2 w1 (h.below h1) hf
  rw [hC] at cC ⊢
  have hPl := places_length (pl l)
  obtain ⟨⟨F1, F2⟩, hF1⟩ : ∃ F, offsetD (pl l) (C1, C2) = F := ⟨_, rfl⟩
  rw [hF1] at cO hF ⊢
  dsimp only at hF cO ⊢
  have hFb : 0 ≤ F1 ∧ F1 ≤ 1001000 := by omega
  have hin : 0 < (places (pl l)).length → F1 < (places (pl l)).length := fun h0 => by
    rw [places_length] at h0 ⊢
    have hp : 0 < (pl l).length := by
      cases hd : (pl l).length with
      | zero => rw [List.eq_nil_of_length_eq_zero hd] at h0; simp [sizeD] at h0
      | succ n => omega
    obtain ⟨i, k, e1, e2, e3⟩ := isD_nat (clampD_is hp (p1, p2))
    rw [hC] at e1
    rw [e1, offsetD_mk e2 e3] at hF1
    have := offN_lt e2 e3
    simp only [Prod.mk.injEq] at hF1
    omega
  obtain ⟨L, hL⟩ : ∃ L, places (pl l) = L := ⟨_, rfl⟩
  rw [hL] at cP hbd hin ⊢
  obtain ⟨n0, hn0⟩ : ∃ n, l.length = n := ⟨_, rfl⟩
  rw [hn0] at cP cC cO ⊢
  obtain ⟨n, hn⟩ : ∃ n, L.length = n := ⟨_, rfl⟩
  rw [hn] at hbd hin ⊢
  have N := Lib.hid hn
  unfold psV at *
  dsimp only at *
  have P0 := Lib.hid ((ps_new w p1 p2).below (below_alloc1 _ (.cells #[.int .i64 0, .int .i64 0] 24)))
  have P1 := Lib.hid (ps_new (w.alloc (.cells #[.int .i64 p1, .int .i64 p2] 24)) 0 0)
  rw [show (w.alloc (.cells #[.int .i64 p1, .int .i64 p2] 24)).heap.size = w.heap.size + 1 by simp] at P1
  have hX := two_allocs w (.cells #[.int .i64 p1, .int .i64 p2] 24) (.cells #[.int .i64 0, .int .i64 0] 24)
  have HX := Lib.hid hX
  have KW := Lib.hid (Below.refl ((w.alloc (.cells #[.int .i64 p1, .int .i64 p2] 24)).alloc (.cells #[.int .i64 0, .int .i64 0] 24)).heap.size ((w.alloc (.cells #[.int .i64 p1, .int .i64 p2] 24)).alloc (.cells #[.int .i64 0, .int .i64 0] 24)))
  have hb := hX
  clear h hf hl hC hF hPl hF1 hL hn0 hn hX
  obtain ⟨hF0, hF1⟩ := hFb
  by_cases h0 : n = 0
  · subst h0
    rw [if_pos rfl]
    clear hin
    go_enter Tryz.func30, Tryz.ntmps30
    go_wp2_with (go_at_call 66; ((with_reducible refine (cP _ hb).mono ?_); rintro e w2 ⟨s, rfl, hown, hb1⟩; have hk := KW.out.trans (hb1.mono KW.out.size); clear KW; have KW := Lib.hid hk; clear hb; have hb := HX.out.trans (hk.mono HX.out.size); (try obtain ⟨_, p0, q0, _, _⟩ := P0.out.below hk); obtain ⟨_, z0, z1, g0, g1⟩ := P1.out.below hk; obtain ⟨u, cap, rfl⟩ := own_len hown; rw [N.out]; clear hown hk hb1))
    exact bodyPost_ret (v := .tuple #[.agg #[.int .i64 0, .int .i64 0], .bool false]) (by simp [results, Tryz.results30, go_sem, *]) rfl ⟨rfl, by repeat (first | (with_reducible exact hb) | (with_reducible exact hb.out) | (with_reducible refine Below.drew ?_) | (with_reducible refine Below.setCell ?_ ?_ _) | (with_reducible refine Below.alloc ?_ ?_ _) | exact Nat.le_refl _ | exact Nat.le_succ _ | omega | (simp; done) | (simp; omega))⟩
  rw [if_neg h0]
  have h0I : ¬ (n : Int) = 0 := by omega
  have h0b : ((n : Int) == 0) = false := by simpa using h0I
  have hFn := hin (by omega)
  clear hin
  have W1 : IntKind.i64.wrap (-F1) = -F1 := IntWalk.i64_in _ (by omega)
  have W2 : IntKind.i64.wrap ((n : Int) - F1) = (n : Int) - F1 := IntWalk.i64_in _ (by omega)
  have hcase : ∃ (k : Nat) (B : Bool), k < n ∧ ((z < -F1 ∧ k = 0 ∧ B = false) ∨ (¬ z < -F1 ∧ (n : Int) - F1 ≤ z ∧ (n : Int) - 1 = k ∧ B = false) ∨ (¬ z < -F1 ∧ ¬ (n : Int) - F1 ≤ z ∧ F1 + z = k ∧ B = true)) ∧
      (if z < -F1 then (L[0]!, false) else if (n : Int) - F1 ≤ z then (L[n - 1]!, false) else (L[(F1 + z).toNat]!, true)) = (L[k]!, B) := by
    by_cases g1 : z < -F1
    · exact ⟨0, false, by omega, .inl ⟨g1, rfl, rfl⟩, by rw [if_pos g1]⟩
    · by_cases g2 : (n : Int) - F1 ≤ z
      · exact ⟨n - 1, false, by omega, .inr (.inl ⟨g1, g2, by omega, rfl⟩), by rw [if_neg g1, if_pos g2]⟩
      · exact ⟨(F1 + z).toNat, true, by omega, .inr (.inr ⟨g1, g2, by omega, rfl⟩), by rw [if_neg g1, if_neg g2]⟩
  obtain ⟨k, B, hkn, hcs, hres⟩ := hcase
  (try dsimp only at hres)
  rw [hres]
  obtain ⟨⟨X1, X2⟩, hX⟩ : ∃ X, L[k]! = X := ⟨_, rfl⟩
  rw [hX]
  have HXk := Lib.hid hX
  have HKn := Lib.hid hkn
  have HC := Lib.hid hcs
  clear hX hres h0 hcs hkn
  rcases HC.out with ⟨g1, rfl, rfl⟩ | ⟨g1, g2, g3, rfl⟩ | ⟨g1, g2, g3, rfl⟩
  · clear HC
    (try have W3 : IntKind.i64.wrap ((n : Int) - 1) = (k : Int) := by rw [← g3]; exact IntWalk.i64_in _ (by omega))
    (try have W4 : IntKind.i64.wrap (F1 + z) = (k : Int) := by rw [← g3]; exact IntWalk.i64_in _ (by omega))
    (try clear g3)
    have hkI : (0 : Int) < (n : Int) := by have := HKn.out; omega
    go_enter Tryz.func30, Tryz.ntmps30
    go_wp2_with (first
      | (go_at_call 66; ((with_reducible refine (cP _ hb).mono ?_); rintro e w2 ⟨s, rfl, hown, hb1⟩; have hk := KW.out.trans (hb1.mono KW.out.size); clear KW; have KW := Lib.hid hk; clear hb; have hb := HX.out.trans (hk.mono HX.out.size); (try obtain ⟨_, p0, q0, _, _⟩ := P0.out.below hk); obtain ⟨_, z0, z1, g0, g1⟩ := P1.out.below hk; have HO := Lib.hid hown; obtain ⟨g, cap, rfl, hlc, hcm, hgl, hc⟩ := ownP_at hown (by rw [N.out]; have := HKn.out; omega); have HC := Lib.hid (hc 0 (by rw [N.out]; exact HKn.out)); rw [HXk.out] at HC; rw [N.out] at hlc; unfold maxLen at hcm; rw [N.out]; have KV := Lib.hid (Below.refl w2.heap.size w2); clear hown hc hk hb1 HO))
      | (go_at_call 22; ((with_reducible refine (cC _ hb).mono ?_); rintro e w1 ⟨rfl, hb1⟩; have hk := KW.out.trans (hb1.mono KW.out.size); clear KW; have KW := Lib.hid hk; clear hb; have hb := HX.out.trans (hk.mono HX.out.size); (try obtain ⟨_, p0, q0, _, _⟩ := P0.out.below hk); obtain ⟨_, z0, z1, g0, g1⟩ := P1.out.below hk; have hv := Lib.hid (KV.out.trans (hb1.mono KV.out.size)); clear KV; have KV := hv; clear hv hk hb1))
      | (go_at_call 26; ((with_reducible refine (cO _ hb).mono ?_); rintro e w1 ⟨rfl, hb1⟩; have hk := KW.out.trans (hb1.mono KW.out.size); clear KW; have KW := Lib.hid hk; clear hb; have hb := HX.out.trans (hk.mono HX.out.size); (try obtain ⟨_, p0, q0, _, _⟩ := P0.out.below hk); obtain ⟨_, z0, z1, g0, g1⟩ := P1.out.below hk; have hv := Lib.hid (KV.out.trans (hb1.mono KV.out.size)); clear KV; have KV := hv; obtain ⟨c0, c1⟩ := HC.out; have x0 := (KV.out.cell (p := ⟨g, _, none⟩) hgl).trans c0; have x1 := (KV.out.cell (p := ⟨g, _, none⟩) hgl).trans c1; (try dsimp only at x0 x1); (try simp only [Nat.zero_mul, Nat.zero_add] at x0 x1); clear hv hk hb1 c0 c1)))
    exact bodyPost_ret (v := .tuple #[.agg #[.int .i64 X1, .int .i64 X2], .bool false]) (by simp [results, Tryz.results30, go_sem, *]) rfl ⟨rfl, by repeat (first | (with_reducible exact hb) | (with_reducible exact hb.out) | (with_reducible refine Below.drew ?_) | (with_reducible refine Below.setCell ?_ ?_ _) | (with_reducible refine Below.alloc ?_ ?_ _) | exact Nat.le_refl _ | exact Nat.le_succ _ | omega | (simp; done) | (simp; omega))⟩
  · clear HC
    (try have W3 : IntKind.i64.wrap ((n : Int) - 1) = (k : Int) := by rw [← g3]; exact IntWalk.i64_in _ (by omega))
    (try have W4 : IntKind.i64.wrap (F1 + z) = (k : Int) := by rw [← g3]; exact IntWalk.i64_in _ (by omega))
    (try clear g3)
    have hkI : (k : Int) < (n : Int) := by have := HKn.out; omega
    go_enter Tryz.func30, Tryz.ntmps30
    go_wp2_with (first
      | (go_at_call 66; ((with_reducible refine (cP _ hb).mono ?_); rintro e w2 ⟨s, rfl, hown, hb1⟩; have hk := KW.out.trans (hb1.mono KW.out.size); clear KW; have KW := Lib.hid hk; clear hb; have hb := HX.out.trans (hk.mono HX.out.size); (try obtain ⟨_, p0, q0, _, _⟩ := P0.out.below hk); obtain ⟨_, z0, z1, g0, g1⟩ := P1.out.below hk; have HO := Lib.hid hown; obtain ⟨g, cap, rfl, hlc, hcm, hgl, hc⟩ := ownP_at hown (by rw [N.out]; have := HKn.out; omega); have HC := Lib.hid (hc k (by rw [N.out]; exact HKn.out)); rw [HXk.out] at HC; rw [N.out] at hlc; unfold maxLen at hcm; rw [N.out]; have KV := Lib.hid (Below.refl w2.heap.size w2); clear hown hc hk hb1 HO))
      | (go_at_call 22; ((with_reducible refine (cC _ hb).mono ?_); rintro e w1 ⟨rfl, hb1⟩; have hk := KW.out.trans (hb1.mono KW.out.size); clear KW; have KW := Lib.hid hk; clear hb; have hb := HX.out.trans (hk.mono HX.out.size); (try obtain ⟨_, p0, q0, _, _⟩ := P0.out.below hk); obtain ⟨_, z0, z1, g0, g1⟩ := P1.out.below hk; have hv := Lib.hid (KV.out.trans (hb1.mono KV.out.size)); clear KV; have KV := hv; clear hv hk hb1))
      | (go_at_call 26; ((with_reducible refine (cO _ hb).mono ?_); rintro e w1 ⟨rfl, hb1⟩; have hk := KW.out.trans (hb1.mono KW.out.size); clear KW; have KW := Lib.hid hk; clear hb; have hb := HX.out.trans (hk.mono HX.out.size); (try obtain ⟨_, p0, q0, _, _⟩ := P0.out.below hk); obtain ⟨_, z0, z1, g0, g1⟩ := P1.out.below hk; have hv := Lib.hid (KV.out.trans (hb1.mono KV.out.size)); clear KV; have KV := hv; obtain ⟨c0, c1⟩ := HC.out; have x0 := (KV.out.cell (p := ⟨g, _, none⟩) hgl).trans c0; have x1 := (KV.out.cell (p := ⟨g, _, none⟩) hgl).trans c1; (try dsimp only at x0 x1); (try simp only [Nat.zero_mul, Nat.zero_add] at x0 x1); clear hv hk hb1 c0 c1)))
    exact bodyPost_ret (v := .tuple #[.agg #[.int .i64 X1, .int .i64 X2], .bool false]) (by simp [results, Tryz.results30, go_sem, *]) rfl ⟨rfl, by repeat (first | (with_reducible exact hb) | (with_reducible exact hb.out) | (with_reducible refine Below.drew ?_) | (with_reducible refine Below.setCell ?_ ?_ _) | (with_reducible refine Below.alloc ?_ ?_ _) | exact Nat.le_refl _ | exact Nat.le_succ _ | omega | (simp; done) | (simp; omega))⟩
  · clear HC
    (try have W3 : IntKind.i64.wrap ((n : Int) - 1) = (k : Int) := by rw [← g3]; exact IntWalk.i64_in _ (by omega))
    (try have W4 : IntKind.i64.wrap (F1 + z) = (k : Int) := by rw [← g3]; exact IntWalk.i64_in _ (by omega))
    (try clear g3)
    have hkI : (k : Int) < (n : Int) := by have := HKn.out; omega
    go_enter Tryz.func30, Tryz.ntmps30
    go_wp2_with (first
      | (go_at_call 66; ((with_reducible refine (cP _ hb).mono ?_); rintro e w2 ⟨s, rfl, hown, hb1⟩; have hk := KW.out.trans (hb1.mono KW.out.size); clear KW; have KW := Lib.hid hk; clear hb; have hb := HX.out.trans (hk.mono HX.out.size); (try obtain ⟨_, p0, q0, _, _⟩ := P0.out.below hk); obtain ⟨_, z0, z1, g0, g1⟩ := P1.out.below hk; have HO := Lib.hid hown; obtain ⟨g, cap, rfl, hlc, hcm, hgl, hc⟩ := ownP_at hown (by rw [N.out]; have := HKn.out; omega); have HC := Lib.hid (hc k (by rw [N.out]; exact HKn.out)); rw [HXk.out] at HC; rw [N.out] at hlc; unfold maxLen at hcm; rw [N.out]; have KV := Lib.hid (Below.refl w2.heap.size w2); clear hown hc hk hb1 HO))
      | (go_at_call 22; ((with_reducible refine (cC _ hb).mono ?_); rintro e w1 ⟨rfl, hb1⟩; have hk := KW.out.trans (hb1.mono KW.out.size); clear KW; have KW := Lib.hid hk; clear hb; have hb := HX.out.trans (hk.mono HX.out.size); (try obtain ⟨_, p0, q0, _, _⟩ := P0.out.below hk); obtain ⟨_, z0, z1, g0, g1⟩ := P1.out.below hk; have hv := Lib.hid (KV.out.trans (hb1.mono KV.out.size)); clear KV; have KV := hv; clear hv hk hb1))
      | (go_at_call 26; ((with_reducible refine (cO _ hb).mono ?_); rintro e w1 ⟨rfl, hb1⟩; have hk := KW.out.trans (hb1.mono KW.out.size); clear KW; have KW := Lib.hid hk; clear hb; have hb := HX.out.trans (hk.mono HX.out.size); (try obtain ⟨_, p0, q0, _, _⟩ := P0.out.below hk); obtain ⟨_, z0, z1, g0, g1⟩ := P1.out.below hk; have hv := Lib.hid (KV.out.trans (hb1.mono KV.out.size)); clear KV; have KV := hv; obtain ⟨c0, c1⟩ := HC.out; have x0 := (KV.out.cell (p := ⟨g, _, none⟩) hgl).trans c0; have x1 := (KV.out.cell (p := ⟨g, _, none⟩) hgl).trans c1; (try dsimp only at x0 x1); (try simp only [Nat.zero_mul, Nat.zero_add] at x0 x1); clear hv hk hb1 c0 c1)))
    exact bodyPost_ret (v := .tuple #[.agg #[.int .i64 X1, .int .i64 X2], .bool true]) (by simp [results, Tryz.results30, go_sem, *]) rfl ⟨rfl, by repeat (first | (with_reducible exact hb) | (with_reducible exact hb.out) | (with_reducible refine Below.drew ?_) | (with_reducible refine Below.setCell ?_ ?_ _) | (with_reducible refine Below.alloc ?_ ?_ _) | exact Nat.le_refl _ | exact Nat.le_succ _ | omega | (simp; done) | (simp; omega))⟩

set_option maxHeartbeats 4000000 in
theorem rdmay_any (v : Value) (l : List Lw) (w : World) (h : DocAt w v l) (hf : Fine (pl l)) :
    Calls Tryz.prog 14 #[v] w fun e w' => e = .returned (.bool (mayD (pl l))) ∧ Below w.heap.size w w' := by
  obtain ⟨a, c, rfl⟩ := h.s.len
  have hl := hf.len
  have hs := hf.s
  have cS := rdsize_any _ l w h.s hl hf.s
  unfold mayD
  rw [← any_notMay, pl_length]
  obtain ⟨R, hR⟩ : ∃ R, l.any notMay = R := ⟨_, rfl⟩
  rw [hR]
  obtain ⟨S, hS⟩ : ∃ S, sizeD (pl l) = S := ⟨_, rfl⟩
  rw [hS] at cS hs ⊢
  have V := Lib.hid h
  have F := Lib.hid hf
  obtain ⟨n, hn⟩ : ∃ n, l.length = n := ⟨_, rfl⟩
  rw [hn] at cS hl V ⊢
  have N := Lib.hid hn
  have HR : Hid ((l.drop 0).any notMay = R) := Lib.hid hR
  clear h hf hn hS hR
  by_cases h0 : n = 0
  · subst h0
    rw [decide_eq_false (show ¬ (1 ≤ 0 ∧ 0 ≤ 200) by omega), Bool.false_and, Bool.false_and]
    go_enter Tryz.func14, Tryz.ntmps14
    go_wp2
    go_ret
    exact ⟨rfl, Below.refl _ _⟩
  have h0J : ¬ (n : Int) < 1 := by omega
  by_cases h1 : 200 < n
  · rw [decide_eq_false (show ¬ (1 ≤ n ∧ n ≤ 200) by omega), Bool.false_and, Bool.false_and]
    have h1I : (200 : Int) < n := by omega
    go_enter Tryz.func14, Tryz.ntmps14
    go_wp2
    go_ret
    exact ⟨rfl, Below.refl _ _⟩
  rw [decide_eq_true (show 1 ≤ n ∧ n ≤ 200 by omega), Bool.true_and]
  have h1I : ¬ (200 : Int) < n := by omega
  by_cases h2 : 4000 < S
  · rw [decide_eq_false (show ¬ (S ≤ 4000) by omega), Bool.false_and]
    have h2I : (4000 : Int) < S := by omega
    go_enter Tryz.func14, Tryz.ntmps14
    go_wp2_with (go_at_call 16; ((with_reducible refine cS.mono ?_); rintro e w2 ⟨rfl, hb⟩))
    go_ret
    exact ⟨rfl, hb⟩
  rw [decide_eq_true (show S ≤ 4000 by omega), Bool.true_and]
  have h2I : ¬ (4000 : Int) < S := by omega
  go_enter Tryz.func14, Tryz.ntmps14
  go_wp2_with (go_at_call 16; ((with_reducible refine cS.mono ?_); rintro e w2 ⟨rfl, hb0⟩))
  go_loopw [3] (fun i wr => ∃ k : Nat, k ≤ n ∧ i = .int .i64 k ∧ Hid ((l.drop k).any notMay = R) ∧ Below w.heap.size w wr) (fun i _ => n - (RowKit.intOf i).toNat)
  case atStart => exact ⟨0, Nat.zero_le _, rfl, HR, hb0⟩
  case round =>
    obtain ⟨k, hk, rfl, HK, hb⟩ := hrel
    by_cases hlt : k < n
    · have hkl : k < l.length := by rw [N.out]; exact hlt
      obtain ⟨b, o, c2, e, hlc, hcm, hbl, hcs⟩ := V.out.s.lies (by omega)
      rw [N.out] at e hlc
      obtain ⟨rfl, _, rfl⟩ := Value.slice.inj e
      unfold maxLen at hcm
      obtain ⟨q, za, n1, zc, kk, ra, n2, rc, x0, x1, x2, x3, hag⟩ := (hcs.below hbl hb).agg hkl
      have cF := rlmayA l[k]! wr ((V.out.n _ (mem_get hkl)).below hb) (F.out.at (mem_get hkl))
      rw [hag] at cF
      have hst := anyD_step (P := notMay) hkl
      rw [HK.out] at hst
      change _ = ((!mayS (l[k]!).ln) || _) at hst
      obtain ⟨M, hM⟩ : ∃ M, mayS (l[k]!).ln = M := ⟨_, rfl⟩
      rw [hM] at hst cF
      have HS := Lib.hid hst
      have hkI : (k : Int) < (n : Int) := by omega
      have hbw : b < wr.heap.size := Nat.lt_of_lt_of_le hbl hb.size
      clear hst HK hcs e hkl hM hag hb0
      cases M with
      | false =>
        go_wp2_with (go_at_call 63; ((with_reducible refine cF.mono ?_); rintro e w2 ⟨rfl, hb3⟩))
        go_ret
        exact ⟨ret_bool (by rw [HS.out]; simp), hb.trans (hb3.mono hb.size)⟩
      | true =>
        go_wp2_with (go_at_call 63; ((with_reducible refine cF.mono ?_); rintro e w2 ⟨rfl, hb3⟩))
        go_roundw
        case rel => exact ⟨k + 1, hlt, by go_num, Lib.hid (by rw [HS.out]; simp), hb.trans (hb3.mono hb.size)⟩
        case measure => simp [RowKit.intOf]; omega
    · have hkn : k = n := by omega
      subst hkn
      have hR2 : R = false := by rw [← HK.out, List.drop_eq_nil_of_le (by rw [N.out]; omega)]; rfl
      have HR2 := Lib.hid hR2
      clear hR2 hb0
      go_wp2
      go_ret
      exact ⟨ret_bool (by rw [HR2.out]; rfl), hb⟩

end Go.Proofs.YtehjfcefkiglaaaGreatDoor
