/-
  The law of runs, told apart. (Written by gen_lawwhole.py.)
-/
import Derived.Test.YtiaoflagjaclmaaLawRuns
namespace Go.Proofs.Ytiaoflagjaclmaa
open Go.RowKit Go.Lib

/-- What the cells of a run have. -/
theorem run_alike {l : Row} {p j : Nat} (h1 : p ≤ j) (h2 : j < stopN l p) : (atR l j).2 = (atR l p).2 ∧ ((atR l j).1 = 10 ↔ (atR l p).1 = 10) := by
  by_cases e : j = p
  · subst e; exact ⟨rfl, Iff.rfl⟩
  · by_cases h10 : (atR l p).1 = 10
    · unfold stopN at h2; rw [if_pos h10] at h2; omega
    · have h := of_decide_eq_true (stop_all h10 (by omega) h2)
      exact ⟨h.2.symm, ⟨fun k => absurd k h.1, fun k => absurd k h10⟩⟩
theorem run_next {l : Row} {f : Nat} (hf : f < l.length) (h : stopN l f < l.length) (h1 : (atR l f).1 ≠ 10) (h2 : (atR l (stopN l f)).1 ≠ 10) : (atR l f).2 ≠ (atR l (stopN l f)).2 := by
  have h3 := of_decide_eq_false (stop_stop h1 hf h)
  exact fun e => h3 ⟨h2, e⟩
theorem drop_rn {Rs : List Rn} {k : Nat} (h : k < Rs.length) : Rs.drop k = Rs[k]! :: Rs.drop (k + 1) := by
  rw [List.drop_eq_getElem_cons h, List.getElem!_eq_getElem?_getD, List.getElem?_eq_getElem h]; rfl
theorem runs_take {l : Row} {Rs : List Rn} {k p : Nat} (h : Rs.drop k = runsR l p) (hk : k < Rs.length) : p < l.length ∧ Rs[k]! = runR l p ∧ Rs.drop (k + 1) = runsR l (stopN l p) := by
  have hp : p < l.length := by
    by_cases hp : p < l.length
    · exact hp
    · rw [runsR_end hp, drop_rn hk] at h; cases h
  rw [runsR_step hp, drop_rn hk] at h
  exact ⟨hp, (List.cons.inj h).1, (List.cons.inj h).2⟩
def RunOk (l : Row) (Rs : List Rn) (k p : Nat) : Prop := Rs.drop k = runsR l p ∧ (0 < k → ∃ f, f < l.length ∧ Rs[k - 1]! = runR l f ∧ p = stopN l f)

set_option maxHeartbeats 40000000 in
set_option maxRecDepth 20000 in
theorem lawWhole_walk (v : Value) (l : Row) (w : World) (hv : RowAt w v l) (hs : Sized l) :
    Calls Try.prog 7 #[v] w fun e w' => e = .returned (.bool true) ∧ Below w.heap.size w w' := by
  have haw := fun w => awake_any w
  have cL1 := long_any v l w hv hs
  by_cases b1 : longB l = true
  · rw [b1] at cL1
    clear hv hs
    go_enter Try.func7, Try.ntmps7
    go_wp2_with (first
      | (go_at_call 13; ((with_reducible refine cL1.mono ?_); rintro e w1 ⟨rfl, rfl⟩))
      | (go_at_call 9; ((with_reducible refine (haw _).mono ?_); rintro e w1 ⟨rfl, hb1⟩)))
    go_ret
    exact ⟨rfl, hb1⟩
  have b1' : longB l = false := by simpa using b1
  rw [b1'] at cL1
  have n1 := longB_false b1'
  have cR := Runs_any v l w hv (by omega)
  unfold RunsPost at cR
  have hrl := runsR_length l 0
  obtain ⟨Rs, hRs⟩ : ∃ R, runsR l 0 = R := ⟨_, rfl⟩
  have hok0 : RunOk l Rs 0 0 := ⟨by rw [← hRs]; rfl, fun h => by omega⟩
  rw [hRs] at cR hrl
  obtain ⟨a, c, rfl⟩ := hv.len
  have V := Lib.hid hv
  have OK0 := Lib.hid hok0
  obtain ⟨N, hN⟩ : ∃ N, Rs.length = N := ⟨_, rfl⟩
  rw [hN] at cR hrl
  have HN := Lib.hid hN
  obtain ⟨n, hn⟩ : ∃ n, l.length = n := ⟨_, rfl⟩
  rw [hn] at V hrl n1 cR cL1 ⊢
  have Hn := Lib.hid hn
  have hNb : N ≤ 20000 := by omega
  clear hv hs b1 b1' hRs hN hrl hn hok0
  go_enter Try.func7, Try.ntmps7
  go_wp2_with (first
    | (go_at_call 13; ((with_reducible refine cL1.mono ?_); rintro e w1 ⟨rfl, rfl⟩))
    | (go_at_call 22; ((with_reducible refine cR.mono ?_); rintro e w1 ⟨v1, rfl, own1, hb⟩; have A1 := Lib.hid own1; replace V := Lib.hid (V.out.below hb); obtain ⟨a1, c1, e1⟩ := own_len own1; subst e1; clear own1)))
  go_loopw [4, 5] (fun at_ i wr => ∃ (k p : Nat), k ≤ N ∧ i = .int .i64 k ∧ at_ = .int .i64 p ∧ p ≤ n ∧ Hid (RunOk l Rs k p) ∧ Hid (Below w1.heap.size w1 wr)) (fun _ i _ => N - (RowKit.intOf i).toNat)
  case atStart => exact ⟨0, 0, Nat.zero_le _, rfl, rfl, Nat.zero_le _, OK0, Lib.hid (Below.refl _ _)⟩
  case round =>
    obtain ⟨k, p, hk, rfl, rfl, hpn, HO, HB⟩ := hrel
    by_cases hlt : k < N
    · have hkR : k < Rs.length := by rw [HN.out]; exact hlt
      obtain ⟨hpl, hRk, hdr⟩ := runs_take HO.out.1 hkR
      obtain ⟨b, o, c2, e, hlc, hcm, hbl, hcs⟩ := V.out.lies (by omega)
      rw [Hn.out] at e hlc
      obtain ⟨rfl, _, rfl⟩ := Value.slice.inj e
      unfold maxLen at hcm
      have hcw := hcs.below hbl HB.out
      have hbw : b < wr.heap.size := Nat.lt_of_lt_of_le hbl HB.out.size
      have h1 := ownsRow_below A1.out HB.out
      rw [← HN.out] at h1
      obtain ⟨g1, rfl, hg1, hn1, hm1, x0, x1, x2, x3, x4⟩ := runs_at h1 hkR
      rw [hRk] at x0 x1 x2 x3 x4
      rw [HN.out] at hn1
      unfold maxLen at hm1
      have hS := stopN_le hpl
      rw [Hn.out] at hS
      obtain ⟨S, hSd⟩ : ∃ S, stopN l p = S := ⟨_, rfl⟩
      have HAl : Hid (∀ j, p ≤ j → j < S → (atR l j).2 = (atR l p).2 ∧ ((atR l j).1 = 10 ↔ (atR l p).1 = 10)) := Lib.hid (fun j h1 h2 => run_alike h1 (by rw [hSd]; exact h2))
      have HNx : Hid (0 < k → ∃ f, f < l.length ∧ Rs[k - 1]! = runR l f ∧ ((atR l f).1 ≠ 10 → (atR l p).1 ≠ 10 → (atR l f).2 ≠ (atR l p).2)) := Lib.hid (fun h => by
        obtain ⟨f, h1, h2, h3⟩ := HO.out.2 h
        exact ⟨f, h1, h2, fun k1 k2 => by rw [h3] at k2 ⊢; exact run_next h1 (by rw [← h3]; exact hpl) k1 k2⟩)
      have HOn : Hid (RunOk l Rs (k + 1) S) := Lib.hid ⟨by rw [hdr, hSd], fun _ => ⟨p, hpl, by rw [Nat.add_sub_cancel]; exact hRk, hSd.symm⟩⟩
      obtain ⟨hS1, hS2⟩ := hS
      have hr10 : (atR l p).1 = 10 → S = p + 1 := fun h => by rw [← hSd]; unfold stopN; rw [if_pos h]
      unfold runR at x0 x1 x2 x3 x4
      dsimp only at x0 x1 x2 x3 x4
      rw [hSd] at x1 hS1 hS2
      obtain ⟨P, hP⟩ : ∃ P, atR l p = P := ⟨_, rfl⟩
      rw [hP] at x2 x3 x4 hr10 HAl HNx
      obtain ⟨P1, P2, P3⟩ := P
      dsimp only at x2 x3 x4 hr10
      have HR := Lib.hid h1
      have HC := Lib.hid hcw
      clear hcw hcs hRk hdr hSd hP HO h1 e
      have hkI : (k : Int) < (N : Int) := by omega
      have hpS : (p : Int) < (S : Int) := by omega
      have hpS2 : p < S := by omega
      have hSn : (S : Int) ≤ (n : Int) := by omega
      have hSp : ¬ S ≤ p := by omega
      have hSq : ¬ n < S := by omega
      have hlk : ∀ j, p ≤ j → j < S → ∃ J1, (J1 = 10 ↔ P1 = 10) ∧ wr.cell? ⟨b, o + j * 3, none⟩ = some (.int .i32 J1) ∧ wr.cell? ⟨b, o + j * 3 + 1, none⟩ = some (.int .i64 P2) ∧ wr.cell? ⟨b, o + j * 3 + 2, none⟩ = some (.string P3) := fun j h1 h2 => by
        have hjl : j < l.length := by rw [Hn.out]; omega
        obtain ⟨y0, y1, y2⟩ := HC.out j hjl
        obtain ⟨e1, e2⟩ := HAl.out j h1 h2
        rw [← atR_in hjl] at y0 y1 y2
        rw [e1] at y1 y2
        exact ⟨_, e2, y0, y1, y2⟩
      have HLK := Lib.hid hlk
      clear hlk HC HAl
      by_cases h10 : P1 = 10
      · obtain rfl : S = p + 1 := hr10 h10
        rw [if_pos h10] at x4
        subst h10
        clear hr10
        rw [Int.natCast_add] at x1 hpS hSn
        go_wp2
        obtain ⟨W1, hW1⟩ : ∃ W, wr.alloc (.cells #[.int .i64 (p : Int), .int .i64 ((p : Int) + 1), .int .i64 P2, .string P3, .int .i64 1] 39) = W := ⟨_, rfl⟩
        rw [hW1]
        have B1 : W1.heap[wr.heap.size]? = some (.cells #[.int .i64 (p : Int), .int .i64 ((p : Int) + 1), .int .i64 P2, .string P3, .int .i64 1] 39) := by rw [← hW1]; exact World.alloc_heap_new wr _
        have bW : Below wr.heap.size wr W1 := by rw [← hW1]; exact (Below.refl _ wr).alloc (Nat.le_refl _) _
        clear hW1
        have z0 : W1.cell? ⟨wr.heap.size, 0, none⟩ = some (.int .i64 (p : Int)) := cell_blk B1 0 _ rfl
        have z1 : W1.cell? ⟨wr.heap.size, 1, none⟩ = some (.int .i64 ((p : Int) + 1)) := cell_blk B1 1 _ rfl
        have z2 : W1.cell? ⟨wr.heap.size, 2, none⟩ = some (.int .i64 P2) := cell_blk B1 2 _ rfl
        have z3 : W1.cell? ⟨wr.heap.size, 3, none⟩ = some (.string P3) := cell_blk B1 3 _ rfl
        have z4 : W1.cell? ⟨wr.heap.size, 4, none⟩ = some (.int .i64 1) := cell_blk B1 4 _ rfl
        clear B1
        go_loopw [7] (fun kk w2 => ∃ j : Nat, p ≤ j ∧ j ≤ (p + 1) ∧ kk = .int .i64 j ∧ ∃ q, w2 = W1.drewN q) (fun kk _ => (p + 1) - (RowKit.intOf kk).toNat)
        case atStart => exact ⟨p, Nat.le_refl _, by omega, rfl, 0, rfl⟩
        case round =>
          obtain ⟨j, hpj, hjS, rfl, q, rfl⟩ := hrel
          by_cases hjl : j < (p + 1)
          · have hjI : (j : Int) < ((p : Int) + 1) := by omega
            obtain ⟨J1, hJ, y0, y1, y2⟩ := HLK.out j hpj hjl
            replace y0 := (bW.cell (p := ⟨b, o + j * 3, none⟩) hbw).trans y0
            replace y1 := (bW.cell (p := ⟨b, o + j * 3 + 1, none⟩) hbw).trans y1
            replace y2 := (bW.cell (p := ⟨b, o + j * 3 + 2, none⟩) hbw).trans y2
            have hJB : (J1 == 10) = true := by have e : J1 = 10 := (by first | exact hJ.2 rfl | exact hJ.2 trivial); rw [e]; rfl
            have hjn : (j : Int) < (n : Int) := by omega
            clear hJ
            go_wp2
            go_quiet (fail)
            go_wp2
            go_roundw
            case rel => exact ⟨j + 1, by omega, by omega, by go_num, _, rfl⟩
            case measure => simp [RowKit.intOf]; omega
          · have hjE : j = (p + 1) := by omega
            subst hjE
            have hd := below_draws W1 q
            clear hpj hjS hjl
            rcases Nat.eq_zero_or_pos k with rfl | hk0
            · rw [show ((0 : Nat) : Int) = 0 from rfl]
              go_wp2
              go_quiet (fail)
              go_wp2
              go_roundw
              case rel => exact ⟨0 + 1, (p + 1), hlt, by go_num, by go_num, by omega, HOn, Lib.hid (HB.out.trans ((bW.trans ((below_draws W1 _).mono bW.size)).mono HB.out.size))⟩
              case measure => simp [RowKit.intOf]; omega
            · obtain ⟨f, hfl, hRf, hne⟩ := HNx.out hk0
              obtain ⟨i0, hi0⟩ : ∃ i, k - 1 = i := ⟨_, rfl⟩
              rw [hi0] at hRf
              have hiR : i0 < Rs.length := by rw [HN.out]; omega
              obtain ⟨g2, e2, _, _, _, u0, u1, u2, u3, u4⟩ := runs_at HR.out hiR
              simp only [Option.some.injEq, Addr.mk.injEq, and_true] at e2
              subst e2
              rw [hRf] at u0 u1 u2 u3 u4
              unfold runR at u0 u1 u2 u3 u4
              dsimp only at u0 u1 u2 u3 u4
              obtain ⟨F, hF⟩ : ∃ F, atR l f = F := ⟨_, rfl⟩
              rw [hF] at u2 u3 u4 hne
              obtain ⟨F1, F2, F3⟩ := F
              dsimp only at u2 u3 u4 hne
              replace u2 := (bW.cell (p := ⟨g1, i0 * 5 + 2, none⟩) hg1).trans u2
              replace u3 := (bW.cell (p := ⟨g1, i0 * 5 + 3, none⟩) hg1).trans u3
              replace u4 := (bW.cell (p := ⟨g1, i0 * 5 + 4, none⟩) hg1).trans u4
              have hi1 : (k : Int) - 1 = (i0 : Int) := by omega
              have hwi : IntKind.i64.wrap (i0 : Int) = (i0 : Int) := IntWalk.i64_in _ (by omega)
              have hk0I : (0 : Int) < (k : Int) := by omega
              have hi0I : (i0 : Int) < (N : Int) := by omega
              clear hi0 hRf hF u0 u1 hiR
              clear u2 u3 u4 hne
              go_wp2
              go_quiet (fail)
              go_wp2
              go_roundw
              case rel => exact ⟨k + 1, (p + 1), hlt, by go_num, by go_num, by omega, HOn, Lib.hid (HB.out.trans ((bW.trans ((below_draws W1 _).mono bW.size)).mono HB.out.size))⟩
              case measure => simp [RowKit.intOf]; omega
      · rw [if_neg h10] at x4
        clear hr10
        skip
        go_wp2
        obtain ⟨W1, hW1⟩ : ∃ W, wr.alloc (.cells #[.int .i64 (p : Int), .int .i64 (S : Int), .int .i64 P2, .string P3, .int .i64 0] 39) = W := ⟨_, rfl⟩
        rw [hW1]
        have B1 : W1.heap[wr.heap.size]? = some (.cells #[.int .i64 (p : Int), .int .i64 (S : Int), .int .i64 P2, .string P3, .int .i64 0] 39) := by rw [← hW1]; exact World.alloc_heap_new wr _
        have bW : Below wr.heap.size wr W1 := by rw [← hW1]; exact (Below.refl _ wr).alloc (Nat.le_refl _) _
        clear hW1
        have z0 : W1.cell? ⟨wr.heap.size, 0, none⟩ = some (.int .i64 (p : Int)) := cell_blk B1 0 _ rfl
        have z1 : W1.cell? ⟨wr.heap.size, 1, none⟩ = some (.int .i64 (S : Int)) := cell_blk B1 1 _ rfl
        have z2 : W1.cell? ⟨wr.heap.size, 2, none⟩ = some (.int .i64 P2) := cell_blk B1 2 _ rfl
        have z3 : W1.cell? ⟨wr.heap.size, 3, none⟩ = some (.string P3) := cell_blk B1 3 _ rfl
        have z4 : W1.cell? ⟨wr.heap.size, 4, none⟩ = some (.int .i64 0) := cell_blk B1 4 _ rfl
        clear B1
        go_loopw [7] (fun kk w2 => ∃ j : Nat, p ≤ j ∧ j ≤ S ∧ kk = .int .i64 j ∧ ∃ q, w2 = W1.drewN q) (fun kk _ => S - (RowKit.intOf kk).toNat)
        case atStart => exact ⟨p, Nat.le_refl _, by omega, rfl, 0, rfl⟩
        case round =>
          obtain ⟨j, hpj, hjS, rfl, q, rfl⟩ := hrel
          by_cases hjl : j < S
          · have hjI : (j : Int) < (S : Int) := by omega
            obtain ⟨J1, hJ, y0, y1, y2⟩ := HLK.out j hpj hjl
            replace y0 := (bW.cell (p := ⟨b, o + j * 3, none⟩) hbw).trans y0
            replace y1 := (bW.cell (p := ⟨b, o + j * 3 + 1, none⟩) hbw).trans y1
            replace y2 := (bW.cell (p := ⟨b, o + j * 3 + 2, none⟩) hbw).trans y2
            have hJB : (J1 == 10) = false := by have : ¬ J1 = 10 := fun h => h10 (hJ.1 h); simpa using this
            have hjn : (j : Int) < (n : Int) := by omega
            clear hJ
            go_wp2
            go_quiet (fail)
            go_wp2
            go_roundw
            case rel => exact ⟨j + 1, by omega, by omega, by go_num, _, rfl⟩
            case measure => simp [RowKit.intOf]; omega
          · have hjE : j = S := by omega
            subst hjE
            have hd := below_draws W1 q
            clear hpj hjS hjl
            rcases Nat.eq_zero_or_pos k with rfl | hk0
            · rw [show ((0 : Nat) : Int) = 0 from rfl]
              go_wp2
              go_quiet (fail)
              go_wp2
              go_roundw
              case rel => exact ⟨0 + 1, j, hlt, by go_num, by go_num, by omega, HOn, Lib.hid (HB.out.trans ((bW.trans ((below_draws W1 _).mono bW.size)).mono HB.out.size))⟩
              case measure => simp [RowKit.intOf]; omega
            · obtain ⟨f, hfl, hRf, hne⟩ := HNx.out hk0
              obtain ⟨i0, hi0⟩ : ∃ i, k - 1 = i := ⟨_, rfl⟩
              rw [hi0] at hRf
              have hiR : i0 < Rs.length := by rw [HN.out]; omega
              obtain ⟨g2, e2, _, _, _, u0, u1, u2, u3, u4⟩ := runs_at HR.out hiR
              simp only [Option.some.injEq, Addr.mk.injEq, and_true] at e2
              subst e2
              rw [hRf] at u0 u1 u2 u3 u4
              unfold runR at u0 u1 u2 u3 u4
              dsimp only at u0 u1 u2 u3 u4
              obtain ⟨F, hF⟩ : ∃ F, atR l f = F := ⟨_, rfl⟩
              rw [hF] at u2 u3 u4 hne
              obtain ⟨F1, F2, F3⟩ := F
              dsimp only at u2 u3 u4 hne
              replace u2 := (bW.cell (p := ⟨g1, i0 * 5 + 2, none⟩) hg1).trans u2
              replace u3 := (bW.cell (p := ⟨g1, i0 * 5 + 3, none⟩) hg1).trans u3
              replace u4 := (bW.cell (p := ⟨g1, i0 * 5 + 4, none⟩) hg1).trans u4
              have hi1 : (k : Int) - 1 = (i0 : Int) := by omega
              have hwi : IntKind.i64.wrap (i0 : Int) = (i0 : Int) := IntWalk.i64_in _ (by omega)
              have hk0I : (0 : Int) < (k : Int) := by omega
              have hi0I : (i0 : Int) < (N : Int) := by omega
              clear hi0 hRf hF u0 u1 hiR
              by_cases hF1 : F1 = 10
              · rw [if_pos hF1] at u4
                clear hne
                go_wp2
                go_quiet (fail)
                go_wp2
                go_roundw
                case rel => exact ⟨k + 1, j, hlt, by go_num, by go_num, by omega, HOn, Lib.hid (HB.out.trans ((bW.trans ((below_draws W1 _).mono bW.size)).mono HB.out.size))⟩
                case measure => simp [RowKit.intOf]; omega
              · rw [if_neg hF1] at u4
                have hne2 : ¬ (F2 = P2 ∧ F3 = P3) := fun h => hne hF1 h10 (by rw [h.1, h.2])
                clear hne
                by_cases hF2 : P2 = F2
                · subst hF2
                  have g3 : (P3.toList == F3.toList) = false := by rw [str_eq]; exact decide_eq_false (fun e => hne2 ⟨rfl, e.symm⟩)
                  clear hne2
                  go_wp2
                  go_quiet (fail)
                  go_wp2
                  go_roundw
                  case rel => exact ⟨k + 1, j, hlt, by go_num, by go_num, by omega, HOn, Lib.hid (HB.out.trans ((bW.trans ((below_draws W1 _).mono bW.size)).mono HB.out.size))⟩
                  case measure => simp [RowKit.intOf]; omega
                · have hF2b : (P2 == F2) = false := by simpa using hF2
                  clear hne2
                  go_wp2
                  go_quiet (fail)
                  go_wp2
                  go_roundw
                  case rel => exact ⟨k + 1, j, hlt, by go_num, by go_num, by omega, HOn, Lib.hid (HB.out.trans ((bW.trans ((below_draws W1 _).mono bW.size)).mono HB.out.size))⟩
                  case measure => simp [RowKit.intOf]; omega
    · have hkn : k = N := by omega
      subst hkn
      have hpn2 : p = n := by
        have h1 := HO.out.1
        rw [List.drop_eq_nil_of_le (by rw [HN.out]; omega)] at h1
        by_cases hp : p < l.length
        · rw [runsR_step hp] at h1; cases h1
        · have := Hn.out; omega
      subst hpn2
      have hb2 := hb.trans (HB.out.mono hb.size)
      clear HO
      go_wp2_with (go_at_call 9; ((with_reducible refine (haw _).mono ?_); rintro e w8 ⟨rfl, hb8⟩; replace hb2 := hb2.trans (hb8.mono hb2.size)))
      go_ret
      exact ⟨rfl, hb2⟩

end Go.Proofs.Ytiaoflagjaclmaa
