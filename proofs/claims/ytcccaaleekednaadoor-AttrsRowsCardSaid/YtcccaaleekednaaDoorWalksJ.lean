/-
  The contracts of the program's and the document's Same.
-/
import Derived.Test.YtcccaaleekednaaDoorWalksD
import Derived.Laws.StructEq
import Derived.Deep.QuietTactic
import Derived.BigQuiet
namespace Go.Proofs.YtcccaaleekednaaDoor
open Go.RowKit Go.Lib

def eqA (x y : At) : Bool := decide (x.1 = y.1) && decide (x.2 = y.2)
def sameR (l m : Row) : Bool := decide (l = m)
theorem eqA_iff (x y : At) : eqA x y = decide (x = y) := by
  unfold eqA
  rw [Bool.eq_iff_iff]
  simp only [Bool.and_eq_true, decide_eq_true_eq]
  exact Prod.ext_iff.symm
theorem allEq_same : ∀ l m : Row, allEq eqA l m = sameR l m
  | [], [] => rfl
  | [], _ :: _ => by simp [allEq, sameR]
  | _ :: _, [] => by simp [allEq, sameR]
  | x :: l, y :: m => by
    have ih := allEq_same l m
    unfold allEq
    rw [ih, eqA_iff]
    unfold sameR
    rw [Bool.eq_iff_iff]
    simp

theorem neqA : NeqAt Tryd.prog 32 (fun (x : At) => .agg (encA x).toArray) eqA := by
  refine ⟨fun x y w => ?_, GuardAt.agg _ (by kernel_rfl)⟩
  have u3 := Tryd.underlying9
  have a3 := Tryd.isAgg9
  have z3 := Tryd.sizeOf9
  have hS : Tryd.prog.underlying 32 = some (.struct (Tryd.prog.fieldsOf 32)) := by kernel_rfl
  have hp : Tryd.prog.stoodInHeld 32 = false := by kernel_rfl
  simp only [encA]
  rw [run_neq_struct, show (10000 : Nat) = 9999 + 1 from rfl, run_equalIn_agg w 9999 32 _ _ hS hp]
  simp only [Program.fieldsOf, Tryd.underlying32]
  unfold eqA
  rw [← str_eq, ← str_eq]
  go_simp
  cases h1 : x.fst.toList == y.fst.toList <;> cases h2 : x.snd.toList == y.snd.toList <;> simp_all

set_option maxHeartbeats 1000000 in
theorem equal_off (a b : Option Addr) (n m c d : Nat) (w : World) (h : n ≠ m) :
    Calls Tryd.prog 44 #[.slice a n c, .slice b m d] w fun e w' => e = .returned (.bool false) ∧ w = w' := by
  have h1 : ((n : Int) != (m : Int)) = true := by simp; omega
  have h2 : ¬ (n : Int) = (m : Int) := by omega
  go_enter Tryd.func44, Tryd.ntmps44
  go_wp2
  go_ret
  exact ⟨rfl, rfl⟩

set_option maxHeartbeats 1000000 in
theorem equal_zero (a b : Option Addr) (c d : Nat) (w : World) :
    Calls Tryd.prog 44 #[.slice a 0 c, .slice b 0 d] w fun e w' => e = .returned (.bool true) ∧ w = w' := by
  go_enter Tryd.func44, Tryd.ntmps44
  go_wp2
  go_loop [5, 13] (fun _ i => i = .int .i64 0) (fun _ _ => 0)
  case atStart => rfl
  case round =>
    subst hrel
    go_wp2
    go_ret
    exact ⟨rfl, rfl⟩

theorem equal_any (v1 v2 : Value) (l m : Row) (w : World) (h1 : RowAt w v1 l) (h2 : RowAt w v2 m) :
    Calls Tryd.prog 44 #[v1, v2] w fun e w' => e = .returned (.bool (sameR l m)) ∧ Below w.heap.size w w' := by
  by_cases hn : l.length = m.length
  · by_cases h0 : l.length = 0
    · have el : l = [] := List.eq_nil_of_length_eq_zero h0
      have em : m = [] := List.eq_nil_of_length_eq_zero (by omega)
      subst el em
      obtain ⟨a, c, rfl⟩ := h1.len
      obtain ⟨b, d, rfl⟩ := h2.len
      refine (equal_zero a b c d w).mono ?_
      rintro e w' ⟨rfl, rfl⟩
      exact ⟨rfl, Below.refl _ _⟩
    · rcases h1 with ⟨a, c, rfl, _, rfl⟩ | ⟨b1, o1, c1, rfl, _, hm1, _, hc1⟩
      · simp at h0
      · rcases h2 with ⟨a, c, rfl, _, rfl⟩ | ⟨b2, o2, c2, rfl, _, hm2, _, hc2⟩
        · simp at hn; simp [hn] at h0
        · unfold maxLen at hm1 hm2
          have h := AnyQ.slices_Equal Tryd.laysEqual 2 Tryd.isAgg32 Tryd.sizeOf32 encA (fun _ => rfl) eqA neqA b1 o1 l.length c1 b2 o2 m.length c2 l m w (Nat.le_refl _) (Nat.le_refl _) (by omega) (by omega) hc1.enc hc2.enc
          rw [List.take_length, List.take_length, allEq_same] at h
          refine h.mono ?_
          rintro e w' ⟨rfl, q, rfl⟩
          exact ⟨rfl, below_draws w q⟩
  · have e0 : sameR l m = false := decide_eq_false (fun e => hn (by rw [e]))
    rw [e0]
    obtain ⟨a, c, rfl⟩ := h1.len
    obtain ⟨b, d, rfl⟩ := h2.len
    refine (equal_off a b _ _ c d w hn).mono ?_
    rintro e w' ⟨rfl, rfl⟩
    exact ⟨rfl, Below.refl _ _⟩

set_option maxHeartbeats 1000000 in
theorem same_any (v1 v2 : Value) (l m : Row) (w : World) (h1 : RowAt w v1 l) (h2 : RowAt w v2 m) :
    Calls Tryd.prog 29 #[v1, v2] w fun e w' => e = .returned (.bool (sameR l m)) ∧ Below w.heap.size w w' := by
  have hc := equal_any v1 v2 l m w h1 h2
  obtain ⟨S, hS⟩ : ∃ S, sameR l m = S := ⟨_, rfl⟩
  rw [hS] at hc ⊢
  clear hS h1 h2
  go_enter Tryd.func29, Tryd.ntmps29
  go_wp2_with (go_at_call 44; ((with_reducible refine hc.mono ?_); rintro e w1 ⟨rfl, hb1⟩))
  go_ret
  exact ⟨rfl, hb1⟩

/-! ### the document's -/
theorem dropR_cons {l : Row} {k : Nat} (h : k < l.length) : l.drop k = l[k]! :: l.drop (k + 1) := by
  rw [List.drop_eq_getElem_cons h, List.getElem!_eq_getElem?_getD, List.getElem?_eq_getElem h]; rfl
theorem same_step {l m : Row} {k : Nat} (h1 : k < l.length) (h2 : k < m.length) : sameR (l.drop k) (m.drop k) = ((decide ((l[k]!).1 = (m[k]!).1) && decide ((l[k]!).2 = (m[k]!).2)) && sameR (l.drop (k + 1)) (m.drop (k + 1))) := by
  rw [dropR_cons h1, dropR_cons h2]
  have := eqA_iff l[k]! m[k]!
  unfold eqA at this
  rw [this]
  unfold sameR
  rw [Bool.eq_iff_iff]
  simp only [List.cons.injEq, decide_eq_true_eq, Bool.and_eq_true]

set_option maxHeartbeats 4000000 in
theorem rsame_any (v1 v2 : Value) (l m : Row) (w : World) (h1 : RowAt w v1 l) (h2 : RowAt w v2 m) (hln : l.length ≤ 100000) :
    Calls Tryd.prog 27 #[v1, v2] w fun e w' => e = .returned (.bool (sameR l m)) ∧ Below w.heap.size w w' := by
  obtain ⟨a1, c1, e1⟩ := h1.len
  obtain ⟨a2, c2, e2⟩ := h2.len
  have H1 := Lib.hid h1
  have H2 := Lib.hid h2
  clear h1 h2
  subst e1 e2
  obtain ⟨n1, hn1⟩ : ∃ n1, l.length = n1 := ⟨_, rfl⟩
  obtain ⟨n2, hn2⟩ : ∃ n2, m.length = n2 := ⟨_, rfl⟩
  rw [hn1] at hln ⊢
  rw [hn2]
  by_cases hn : n1 = n2
  · subst hn
    obtain ⟨S, hS⟩ : ∃ S, sameR l m = S := ⟨_, rfl⟩
    rw [hS]
    have HS := Lib.hid hS
    have N1 := Lib.hid hn1
    have N2 := Lib.hid hn2
    clear hS hn1 hn2
    go_enter Tryd.func27, Tryd.ntmps27
    go_wp2
    go_loopw [5] (fun i wr => ∃ k : Nat, k ≤ n1 ∧ i = .int .i64 k ∧ Hid (sameR (l.drop k) (m.drop k) = S) ∧ ∃ z, wr = w.drewN z) (fun i _ => n1 - (intOf i).toNat)
    case atStart => exact ⟨0, Nat.zero_le _, rfl, HS, 0, rfl⟩
    case round =>
      obtain ⟨k, hk, rfl, HK, z, rfl⟩ := hrel
      by_cases hlt : k < n1
      · have hkI : (k : Int) < (n1 : Int) := by omega
        have hst := same_step (l := l) (m := m) (k := k) (by rw [N1.out]; exact hlt) (by rw [N2.out]; exact hlt)
        rw [HK.out] at hst
        have q1 := H1.out
        have q2 := H2.out
        rcases q1 with ⟨_, _, e, _, e2⟩ | ⟨b1, o1, d1, e, _, _, _, hc1⟩
        · have := N1.out; rw [e2] at this; simp at this; omega
        · rcases q2 with ⟨_, _, e', _, e2'⟩ | ⟨b2, o2, d2, e', _, _, _, hc2⟩
          · have := N2.out; rw [e2'] at this; simp at this; omega
          · obtain ⟨rfl, _, rfl⟩ := Value.slice.inj e
            obtain ⟨rfl, _, rfl⟩ := Value.slice.inj e'
            clear e e'
            obtain ⟨x1, x2⟩ := hc1 k (by rw [N1.out]; exact hlt)
            obtain ⟨y1, y2⟩ := hc2 k (by rw [N2.out]; exact hlt)
            obtain ⟨A, hA⟩ : ∃ A, (l[k]!).1 = A := ⟨_, rfl⟩
            obtain ⟨B, hB⟩ : ∃ B, (l[k]!).2 = B := ⟨_, rfl⟩
            obtain ⟨C, hC⟩ : ∃ C, (m[k]!).1 = C := ⟨_, rfl⟩
            obtain ⟨D, hD⟩ : ∃ D, (m[k]!).2 = D := ⟨_, rfl⟩
            rw [hA] at x1 hst
            rw [hB] at x2 hst
            rw [hC] at y1 hst
            rw [hD] at y2 hst
            rw [← str_eq, ← str_eq] at hst
            clear hA hB hC hD hc1 hc2 HK
            cases g1 : A.toList == C.toList with
            | false =>
              rw [g1] at hst
              have HT := Lib.hid hst
              clear hst
              go_wp2_with fail
              go_quiet (fail)
              go_wp2
              go_ret
              exact ⟨ret_bool (by rw [HT.out]; rfl), by rw [World.drewN_drewN]; exact below_draws w _⟩
            | true =>
              cases g2 : B.toList == D.toList with
              | false =>
                rw [g1, g2] at hst
                have HT := Lib.hid hst
                clear hst
                go_wp2_with fail
                go_quiet (fail)
                go_wp2
                go_ret
                exact ⟨ret_bool (by rw [HT.out]; rfl), by rw [World.drewN_drewN]; exact below_draws w _⟩
              | true =>
                rw [g1, g2] at hst
                have HT := Lib.hid hst
                clear hst
                go_wp2_with fail
                go_quiet (fail)
                go_wp2
                go_roundw
                case rel => exact ⟨k + 1, hlt, by go_num, Lib.hid (by rw [HT.out]; rfl), _, rfl⟩
                case measure => simp [intOf]; omega
      · have hkn : k = n1 := by omega
        subst hkn
        have hl : S = true := by rw [← HK.out, List.drop_eq_nil_of_le (by rw [N1.out]; omega), List.drop_eq_nil_of_le (by rw [N2.out]; omega)]; rfl
        have HL := Lib.hid hl
        clear hl HK
        go_wp2
        go_ret
        exact ⟨ret_bool HL.out.symm, below_draws w z⟩
  · have e0 : sameR l m = false := decide_eq_false (fun e => hn (by rw [← hn1, ← hn2, e]))
    rw [e0]
    have g1 : ((n1 : Int) != (n2 : Int)) = true := by simp; omega
    have g2 : ¬ (n1 : Int) = (n2 : Int) := by omega
    clear hn1 hn2 e0 hn
    go_enter Tryd.func27, Tryd.ntmps27
    go_wp2
    go_ret
    exact ⟨rfl, Below.refl _ _⟩

end Go.Proofs.YtcccaaleekednaaDoor
