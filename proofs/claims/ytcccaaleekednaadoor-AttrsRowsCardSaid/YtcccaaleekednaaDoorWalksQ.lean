/-
  The contract of the document's Only.
-/
import Derived.Test.YtcccaaleekednaaDoorWalksO
import Derived.Deep.QuietTactic
import Derived.BigQuiet
namespace Go.Proofs.YtcccaaleekednaaDoor
open Go.RowKit Go.Lib

theorem any_take {ns : List ByteArray} {q : Nat} (h : q < ns.length) (A : ByteArray) : ((ns.take (q + 1)).any fun n => decide (n = A)) = (((ns.take q).any fun n => decide (n = A)) || (ns[q]!.toList == A.toList)) := by
  have e : ns.take (q + 1) = ns.take q ++ [ns[q]!] := by
    rw [List.take_succ_eq_append_getElem h, List.getElem!_eq_getElem?_getD, List.getElem?_eq_getElem h]; rfl
  rw [e, List.any_append, str_eq]
  simp

set_option maxHeartbeats 8000000 in
theorem ronly_any (v tv : Value) (l : Row) (ns : List ByteArray) (w : World) (hv : RowAt w v l) (ht : TextsAt w tv ns) (hl : l.length ≤ 1000) (hn : ns.length ≤ 1000) :
    Calls Tryd.prog 26 #[v, tv] w (OwnPost (onlyR l ns) w) := by
  obtain ⟨i0, hi, hz0, hz1, hz2⟩ := info_parts infoAttr
  obtain ⟨a1, c1, e1⟩ := hv.len
  have htl : ∃ a c, tv = .slice a ns.length c := by
    rcases ht with ⟨rfl, rfl⟩ | ⟨g, c, rfl, _⟩
    · exact ⟨none, 0, rfl⟩
    · exact ⟨_, c, rfl⟩
  obtain ⟨a2, c2, e2⟩ := htl
  have HV := Lib.hid hv
  have HT := Lib.hid ht
  clear hv ht
  subst e1 e2
  obtain ⟨N, hN⟩ : ∃ N, l.length = N := ⟨_, rfl⟩
  obtain ⟨Q, hQ⟩ : ∃ Q, ns.length = Q := ⟨_, rfl⟩
  rw [hN] at hl ⊢
  rw [hQ] at hn ⊢
  have HN := Lib.hid hN
  have HQ := Lib.hid hQ
  clear hN hQ
  go_enter Tryd.func26, Tryd.ntmps26
  go_wp2
  go_loopw [5, 6, 7, 8] (fun vr i v7 v8 wr => ∃ (k : Nat) (m : Row), k ≤ N ∧ i = .int .i64 k ∧ Hid (m = onlyR (l.take k) ns) ∧ m.length ≤ k ∧ wr.ownsRow w.heap.size 32 2 vr m.length (cellsR m) ∧ Below w.heap.size w wr)
    (fun _ i _ _ _ => N - (intOf i).toNat)
  case atStart => exact ⟨0, [], Nat.zero_le _, rfl, Lib.hid rfl, Nat.le_refl _, World.ownsRow_nil _ _ _ _, Below.refl _ _⟩
  case round =>
    obtain ⟨k, m, hk, rfl, HM, hmk, hown, hb⟩ := hrel
    by_cases hlt : k < N
    · have hkI : (k : Int) < (N : Int) := by omega
      have hbz := hb.size
      have q1 := HV.out.below hb
      rcases q1 with ⟨_, _, e, _, e2⟩ | ⟨b, o, d, e, _, _, hbb, hc⟩
      · have := HN.out; rw [e2] at this; simp at this; omega
      · obtain ⟨rfl, _, rfl⟩ := Value.slice.inj e
        clear e
        obtain ⟨x1, x2⟩ := hc k (by rw [HN.out]; exact hlt)
        have hsn := onlyR_snoc (l := l) (k := k) (by rw [HN.out]; exact hlt) ns
        rw [← HM.out] at hsn
        obtain ⟨A, hA⟩ : ∃ A, (l[k]!).1 = A := ⟨_, rfl⟩
        obtain ⟨B, hB⟩ : ∃ B, (l[k]!).2 = B := ⟨_, rfl⟩
        have hAB : l[k]! = (A, B) := by rw [← hA, ← hB]
        rw [hA] at x1 hsn
        rw [hB] at x2
        rw [hAB] at hsn
        have HSN := Lib.hid hsn
        clear hA hB hAB hc hsn HM
        go_wp2
        go_loopw [7, 8] (fun v7 v8 wx => ∃ q z : Nat, ∃ F : Bool, q ≤ Q ∧ v8 = .int .i64 q ∧ v7 = .bool F ∧ Hid (((ns.take q).any fun n => decide (n = A)) = F) ∧ wx = wr.drewN z) (fun _ v8 _ => Q - (intOf v8).toNat)
        case atStart => exact ⟨0, 0, false, Nat.zero_le _, rfl, rfl, Lib.hid rfl, rfl⟩
        case round =>
          obtain ⟨q, z, F, hq, rfl, rfl, HF, rfl⟩ := hrel
          by_cases hqt : q < Q
          · have hqI : (q : Int) < (Q : Int) := by omega
            have hat := any_take (ns := ns) (q := q) (by rw [HQ.out]; exact hqt) A
            rw [HF.out] at hat
            rcases HT.out.below hb with ⟨e, e2⟩ | ⟨g, d2, e, _, _, hg⟩
            · have := HQ.out; rw [e2] at this; simp at this; omega
            · have y1 := hg q (by rw [HQ.out]; exact hqt)
              obtain ⟨rfl, _, rfl⟩ := Value.slice.inj e
              clear e hg
              obtain ⟨C, hC⟩ : ∃ C, ns[q]! = C := ⟨_, rfl⟩
              rw [hC] at y1 hat
              clear hC HF
              cases F with
              | true =>
                rw [Bool.true_or] at hat
                have HA := Lib.hid hat
                clear hat
                go_wp2_with fail
                go_quiet (fail)
                go_wp2
                go_roundw
                case rel => exact ⟨q + 1, _, true, hqt, by go_num, rfl, HA, rfl⟩
                case measure => simp [intOf]; omega
              | false =>
                rw [Bool.false_or] at hat
                have HA := Lib.hid hat
                clear hat
                go_wp2_with fail
                go_quiet (fail)
                go_wp2
                go_roundw
                case rel => exact ⟨q + 1, _, _, hqt, by go_num, rfl, HA, rfl⟩
                case measure => simp [intOf]; omega
          · have hqe : (ns.take q) = ns := List.take_of_length_le (by rw [HQ.out]; omega)
            have hF := HF.out
            rw [hqe] at hF
            have hbd := below_draws wr z
            have x1' := (hbd.cell (p := ⟨b, o + k * 2, none⟩) hbb).trans x1
            have x2' := (hbd.cell (p := ⟨b, o + k * 2 + 1, none⟩) hbb).trans x2
            have hown2 := ownsRow_below hown hbd
            have hb2 := hb.trans (hbd.mono hb.size)
            obtain ⟨w2, hw2⟩ : ∃ w2, wr.drewN z = w2 := ⟨_, rfl⟩
            rw [hw2] at x1' x2' hown2 hb2 ⊢
            have hbz2 := hb2.size
            have hsn := HSN.out
            rw [hF] at hsn
            have HSN2 := Lib.hid hsn
            clear hqe hF hbd hw2 hsn HF HSN x1 x2 hown hb hbz
            cases F with
            | false =>
              go_wp2
              go_roundw
              case rel => exact ⟨k + 1, m, hlt, by go_num, Lib.hid (by rw [HSN2.out]; simp), by omega, hown2, hb2⟩
              case measure => simp [intOf]; omega
            | true =>
              go_wp2_with (at_builtin; refine wpList_append_own _ rfl _ _ 25 rfl w.heap.size 32 i0 _ 2 32 Tryd.underlying25 hi hz0 hz1 hz2 rfl (by decide) _ _ _ rfl (hown2.alloc (.cells #[.string A, .string B] 32)) ⟨w2.heap.size, 0, none⟩ 1 1 [.string A, .string B] rfl rfl (news_new w2 A B 32) (by simp [Value.oneCell']) (by unfold maxLen; omega) (by omega) (by simp; omega) ?_; intro v' w3 hown' hgrow _)
              go_roundw
              case rel => exact ⟨k + 1, m ++ [(A, B)], hlt, by go_num, Lib.hid (by rw [HSN2.out]; simp), by simp; omega, own_app (m := [(A, B)]) hown' rfl rfl, below_grown (hb2.alloc hbz2 _) (by simp; omega) (hown2.alloc (.cells #[.string A, .string B] 32)) hgrow⟩
              case measure => simp [intOf]; omega
    · have hkN : k = N := by omega
      subst hkN
      have hm := HM.out
      rw [List.take_of_length_le (by rw [HN.out]; omega)] at hm
      have HM2 := Lib.hid hm
      clear hm HM hlt
      go_wp2
      go_ret
      exact ⟨_, rfl, by rw [← HM2.out]; exact hown, hb⟩

end Go.Proofs.YtcccaaleekednaaDoor
