/-
  May a line be: the program's upTo, mayLists, mayKind.
-/
import Derived.Test.YtmlipcedkgfmiaaDoorIConcat
namespace Go.Proofs.YtmlipcedkgfmiaaDoor
open Go.RowKit Go.Lib

def upB (z m : Int) : Bool := decide (0 ≤ z ∧ z ≤ m)
def wrongB (z : Int) : Bool := !upB z 1
def listsB (ls : IRow) : Bool := decide (ls.length ≤ 6) && !ls.any wrongB
def kindB (ls : IRow) (k : Int) : Bool := if ls.length = 0 then upB k 3 else decide (k = 0)

theorem upTo_any (z m : Int) (w : World) : Calls Tryd.prog 37 #[.int .i64 z, .int .i64 m] w fun e w' => e = .returned (.bool (upB z m)) ∧ w = w' := by
  go_enter Tryd.func37, Tryd.ntmps37
  go_wp2
  all_goals go_ret
  all_goals (refine ⟨ret_bool ?_, rfl⟩; unfold upB; rw [Bool.eq_iff_iff]; first | (simp_all; done) | (simp_all; omega))
theorem wrong_any (z : Int) (w : World) : Calls Tryd.prog 58 #[.int .i64 z] w fun e w' => e = .returned (.bool (wrongB z)) ∧ w = w' := by
  have hc := upTo_any z 1
  unfold wrongB
  obtain ⟨U, hU⟩ : ∃ U, upB z 1 = U := ⟨_, rfl⟩
  rw [hU] at hc ⊢
  clear hU
  go_enter Tryd.func58, Tryd.ntmps58
  go_wp2_with (go_at_call 37; ((with_reducible refine (hc _).mono ?_); rintro e w1 ⟨rfl, rfl⟩))
  go_ret
  exact ⟨rfl, rfl⟩
theorem anyZ_step {P : Int → Bool} {l : IRow} {k : Nat} (hk : k < l.length) : (l.drop k).any P = (P l[k]! || (l.drop (k + 1)).any P) := by
  have e : l.drop k = l[k]! :: l.drop (k + 1) := by
    rw [List.drop_eq_getElem_cons hk, List.getElem!_eq_getElem?_getD, List.getElem?_eq_getElem hk]; rfl
  rw [e]
  rfl

set_option maxHeartbeats 4000000 in
theorem indexZ_any (v : Value) (l : IRow) (w : World) (hv : IntsAt w v l) (hl : l.length ≤ 100000) :
    Calls Tryd.prog 68 #[v, .func (.func 58) #[] #[]] w fun e w' => (∃ z : Int, e = .returned (.int .i64 z) ∧ decide (0 ≤ z) = l.any wrongB) ∧ w = w' := by
  obtain ⟨a, c, rfl⟩ := hv.len
  have V := Lib.hid hv
  obtain ⟨n, hn⟩ : ∃ n, l.length = n := ⟨_, rfl⟩
  rw [hn] at hl V ⊢
  have N := Lib.hid hn
  obtain ⟨R, hR⟩ : ∃ R, l.any wrongB = R := ⟨_, rfl⟩
  rw [hR]
  have HR : Hid ((l.drop 0).any wrongB = R) := Lib.hid hR
  have cF := wrong_any
  clear hv hn hR
  go_enter Tryd.func68, Tryd.ntmps68
  go_wp2
  go_loop [8] (fun i => ∃ k : Nat, k ≤ n ∧ i = .int .i64 k ∧ Hid ((l.drop k).any wrongB = R)) (fun i => n - (RowKit.intOf i).toNat)
  case atStart => exact ⟨0, Nat.zero_le _, rfl, HR⟩
  case round =>
    obtain ⟨k, hk, rfl, HK⟩ := hrel
    by_cases hlt : k < n
    · have hkl : k < l.length := by rw [N.out]; exact hlt
      obtain ⟨b, o, c2, e, hlc, hcm, hbl, hcs⟩ := V.out.lies (by omega)
      rw [N.out] at e hlc
      obtain ⟨rfl, _, rfl⟩ := Value.slice.inj e
      unfold maxLen at hcm
      have x1 := hcs k hkl
      have hst := anyZ_step (P := wrongB) hkl
      rw [HK.out] at hst
      obtain ⟨X, hX⟩ : ∃ X, l[k]! = X := ⟨_, rfl⟩
      rw [hX] at x1 hst
      have cF2 := cF X
      obtain ⟨M, hM⟩ : ∃ M, wrongB X = M := ⟨_, rfl⟩
      rw [hM] at hst cF2
      have HS := Lib.hid hst
      have hkI : (k : Int) < (n : Int) := by omega
      clear hst HK hX hcs e hkl hM cF
      cases M with
      | true =>
        go_wp2_with (go_at_call 58; ((with_reducible refine (cF2 _).mono ?_); rintro e w2 ⟨rfl, rfl⟩))
        go_ret
        exact ⟨⟨_, rfl, by rw [HS.out]; simp⟩, rfl⟩
      | false =>
        go_wp2_with (go_at_call 58; ((with_reducible refine (cF2 _).mono ?_); rintro e w2 ⟨rfl, rfl⟩))
        go_round
        case rel => exact ⟨k + 1, hlt, by go_num, Lib.hid (by rw [HS.out, Bool.false_or])⟩
        case measure => simp [RowKit.intOf]; omega
    · have hkn : k = n := by omega
      subst hkn
      have hR2 : R = false := by rw [← HK.out, List.drop_eq_nil_of_le (by rw [N.out]; omega)]; rfl
      have HR2 := Lib.hid hR2
      clear hR2
      go_wp2
      go_ret
      exact ⟨⟨_, rfl, by rw [HR2.out]; decide⟩, rfl⟩
theorem containsZ_any (v : Value) (l : IRow) (w : World) (hv : IntsAt w v l) (hl : l.length ≤ 100000) :
    Calls Tryd.prog 59 #[v, .func (.func 58) #[] #[]] w fun e w' => e = .returned (.bool (l.any wrongB)) ∧ w = w' := by
  have hc := indexZ_any v l w hv hl
  obtain ⟨R, hR⟩ : ∃ R, l.any wrongB = R := ⟨_, rfl⟩
  rw [hR] at hc ⊢
  clear hR hv
  go_enter Tryd.func59, Tryd.ntmps59
  go_wp2_with (go_at_call 68; ((with_reducible refine hc.mono ?_); rintro e w1 ⟨⟨z, rfl, hz⟩, rfl⟩))
  go_ret
  exact ⟨rfl, rfl⟩
theorem mayLists_any (v : Value) (l : IRow) (w : World) (hv : IntsAt w v l) (hl : l.length ≤ 100000) :
    Calls Tryd.prog 38 #[v] w fun e w' => e = .returned (.bool (listsB l)) ∧ w = w' := by
  have hc := containsZ_any v l w hv hl
  obtain ⟨a, c, rfl⟩ := hv.len
  unfold listsB
  obtain ⟨n, hn⟩ : ∃ n, l.length = n := ⟨_, rfl⟩
  obtain ⟨R, hR⟩ : ∃ R, l.any wrongB = R := ⟨_, rfl⟩
  rw [hR, hn] at hc ⊢
  clear hR hv hn hl
  by_cases h : n ≤ 6
  · have hI : (n : Int) ≤ 6 := by omega
    rw [decide_eq_true h]
    clear h
    go_enter Tryd.func38, Tryd.ntmps38
    go_wp2_with (go_at_call 59; ((with_reducible refine hc.mono ?_); rintro e w1 ⟨rfl, rfl⟩))
    all_goals go_ret
    all_goals exact ⟨ret_bool (by cases R <;> rfl), rfl⟩
  · have hI : ¬ (n : Int) ≤ 6 := by omega
    rw [decide_eq_false h]
    clear h hc
    go_enter Tryd.func38, Tryd.ntmps38
    go_wp2
    all_goals go_ret
    all_goals exact ⟨rfl, rfl⟩
theorem mayKind_any (q k : Int) (v sc : Value) (l : IRow) (w : World) (hv : IntsAt w v l) :
    Calls Tryd.prog 39 #[.agg #[.int .i64 q, v, .int .i64 k, sc]] w fun e w' => e = .returned (.bool (kindB l k)) ∧ Below w.heap.size w w' := by
  have hc := upTo_any k 3
  obtain ⟨a, c, rfl⟩ := hv.len
  unfold kindB
  obtain ⟨n, hn⟩ : ∃ n, l.length = n := ⟨_, rfl⟩
  rw [hn]
  clear hv hn
  have ba : ∀ o, Below w.heap.size w (w.alloc o) := fun o => (Below.refl _ w).alloc (Nat.le_refl _) _
  by_cases h : n = 0
  · subst h
    obtain ⟨U, hU⟩ : ∃ U, upB k 3 = U := ⟨_, rfl⟩
    rw [hU] at hc
    simp only [if_true, hU]
    clear hU
    go_enter Tryd.func39, Tryd.ntmps39
    go_wp2_with (go_at_call 37; ((with_reducible refine (hc _).mono ?_); rintro e w1 ⟨rfl, rfl⟩))
    all_goals go_ret
    all_goals exact ⟨rfl, ba _⟩
  · have hI : (0 : Int) < (n : Int) := by omega
    simp only [if_neg h]
    clear h hc
    go_enter Tryd.func39, Tryd.ntmps39
    go_wp2
    all_goals go_ret
    all_goals exact ⟨ret_bool (by rw [Bool.eq_iff_iff]; simp), ba _⟩

end Go.Proofs.YtmlipcedkgfmiaaDoor
