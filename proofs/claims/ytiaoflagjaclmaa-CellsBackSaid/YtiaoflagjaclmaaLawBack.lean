/-
  The law of what was put in and cut out again.
-/
import Derived.Test.YtiaoflagjaclmaaAwake
import Derived.Test.YtiaoflagjaclmaaLong
import Derived.Test.YtiaoflagjaclmaaSame
import Derived.Test.YtiaoflagjaclmaaDocCuts
namespace Go.Proofs.Ytiaoflagjaclmaa
open Go.RowKit Go.Lib

theorem back_part (l m : Row) (k : Nat) (hk : k ≤ l.length) : ((l.take k ++ m ++ l.drop k).drop k).take (k + m.length - k) = m := by
  have h : (l.take k).length = k := by rw [List.length_take]; omega
  have e : k + m.length - k = m.length := by omega
  rw [e, List.append_assoc, List.drop_append, h, Nat.sub_self, List.drop_eq_nil_of_le (by omega)]
  simp
theorem back_cut (l m : Row) (k : Nat) (hk : k ≤ l.length) : (l.take k ++ m ++ l.drop k).take k ++ (l.take k ++ m ++ l.drop k).drop (k + m.length) = l := by
  have h : (l.take k).length = k := by rw [List.length_take]; omega
  have h2 : (l.take k ++ m).length = k + m.length := by rw [List.length_append, h]
  have e1 : (l.take k ++ m ++ l.drop k).take k = l.take k := by
    rw [List.append_assoc, List.take_append, h, Nat.sub_self, List.take_zero, List.append_nil, List.take_take, Nat.min_self]
  have e2 : (l.take k ++ m ++ l.drop k).drop (k + m.length) = l.drop k := by
    rw [List.drop_append, h2, Nat.sub_self, List.drop_eq_nil_of_le (by omega)]; simp
  rw [e1, e2, List.take_append_drop]

set_option maxHeartbeats 16000000 in
theorem lawBack_walk (v : Value) (l : Row) (u : Value) (m : Row) (z : Int) (w : World) (hv : RowAt w v l) (hs : Sized l) (hu : RowAt w u m) (hs2 : Sized m) :
    Calls Try.prog 6 #[v, u, .int .i64 z] w fun e w' => e = .returned (.bool true) ∧ Below w.heap.size w w' := by
  have haw := fun w => awake_any w
  have cL1 := long_any v l w hv hs
  have cL2 := long_any u m w hu hs2
  by_cases b1 : longB l = true
  · rw [b1] at cL1
    clear hv hs hu hs2 cL2
    go_enter Try.func6, Try.ntmps6
    go_wp2_with (first
      | (go_at_call 13; ((with_reducible refine cL1.mono ?_); rintro e w1 ⟨rfl, rfl⟩))
      | (go_at_call 9; ((with_reducible refine (haw _).mono ?_); rintro e w1 ⟨rfl, hb1⟩)))
    go_ret
    exact ⟨rfl, hb1⟩
  have b1' : longB l = false := by simpa using b1
  rw [b1'] at cL1
  by_cases b2 : longB m = true
  · rw [b2] at cL2
    clear hv hs hu hs2
    go_enter Try.func6, Try.ntmps6
    go_wp2_with (first
      | (go_at_call 13; ((with_reducible refine cL1.mono ?_); rintro e w1 ⟨rfl, rfl⟩))
      | (go_at_call 13; ((with_reducible refine cL2.mono ?_); rintro e w1 ⟨rfl, rfl⟩))
      | (go_at_call 9; ((with_reducible refine (haw _).mono ?_); rintro e w1 ⟨rfl, hb1⟩)))
    go_ret
    exact ⟨rfl, hb1⟩
  have b2' : longB m = false := by simpa using b2
  rw [b2'] at cL2
  have n1 := longB_false b1'
  have n2 := longB_false b2'
  by_cases hk : 0 ≤ z ∧ z ≤ l.length
  · obtain ⟨k, rfl⟩ := Int.eq_ofNat_of_zero_le hk.1
    have hkl : k ≤ l.length := by omega
    have e1 := back_part l m k hkl
    have e2 := back_cut l m k hkl
    have cI := insert_on v u l m k w hv hu (by omega) (by omega) hkl
    have hIl : (l.take k ++ m ++ l.drop k).length = l.length + m.length := by simp only [List.length_append, List.length_take, List.length_drop]; omega
    obtain ⟨I, hI⟩ : ∃ I, l.take k ++ m ++ l.drop k = I := ⟨_, rfl⟩
    rw [hI] at cI e1 e2 hIl
    have cP : ∀ v1 w, RowAt w v1 I → Calls Try.prog 19 #[v1, .int .i64 (k : Int), .int .i64 ((k : Int) + (m.length : Int))] w (RowPost m w) := fun v1 w h => by
      have h2 := part_on v1 I k (k + m.length) w h (by omega) (by omega) (by omega)
      rw [e1, Int.natCast_add] at h2
      exact h2
    have cC : ∀ v1 w, RowAt w v1 I → Calls Try.prog 17 #[v1, .int .i64 (k : Int), .int .i64 ((k : Int) + (m.length : Int))] w (RowPost l w) := fun v1 w h => by
      have h2 := cut_on v1 I k (k + m.length) w h (by omega) (by omega) (by omega)
      rw [e2, Int.natCast_add] at h2
      exact h2
    have cA : ∀ w, RowAt w v l → Calls Try.prog 19 #[v, .int .i64 0, .int .i64 (k : Int)] w (RowPost (l.take k) w) := fun w h => by
      have h2 := part_on v l 0 k w h (by omega) (by omega) (by omega)
      rw [List.drop_zero, Nat.sub_zero] at h2
      exact h2
    have cB : ∀ w, RowAt w v l → Calls Try.prog 19 #[v, .int .i64 (k : Int), .int .i64 (l.length : Int)] w (RowPost (l.drop k) w) := fun w h => by
      have h2 := part_on v l k l.length w h (by omega) (by omega) (by omega)
      rw [List.take_of_length_le (by simp)] at h2
      exact h2
    have hT : l.take k ++ l.drop k = l := List.take_append_drop k l
    have hz1 : (l.take k).length ≤ 20000 := by rw [List.length_take]; omega
    have hz2 : (l.drop k).length ≤ 20000 := by rw [List.length_drop]; omega
    obtain ⟨R1, hR1⟩ : ∃ R, l.take k = R := ⟨_, rfl⟩
    obtain ⟨R2, hR2⟩ : ∃ R, l.drop k = R := ⟨_, rfl⟩
    rw [hR1] at cA hT hz1
    rw [hR2] at cB hT hz2
    have sM : ∀ v1 w, RowAt w v1 m → RowAt w u m → Calls Try.prog 28 #[v1, u] w fun e w' => e = .returned (.bool true) ∧ Below w.heap.size w w' := fun v1 w h1 h2 => by
      have h := same_any v1 u m m w h1 h2
      rwa [show sameR m m = true from decide_eq_true rfl] at h
    have sL : ∀ v1 w, RowAt w v1 l → RowAt w v l → Calls Try.prog 28 #[v1, v] w fun e w' => e = .returned (.bool true) ∧ Below w.heap.size w w' := fun v1 w h1 h2 => by
      have h := same_any v1 v l l w h1 h2
      rwa [show sameR l l = true from decide_eq_true rfl] at h
    have V := Lib.hid hv
    have U := Lib.hid hu
    obtain ⟨a1, c1, ev⟩ := hv.len
    obtain ⟨a2, c2, eu⟩ := hu.len
    obtain ⟨n, hn⟩ : ∃ n, l.length = n := ⟨_, rfl⟩
    obtain ⟨q, hq⟩ : ∃ q, m.length = q := ⟨_, rfl⟩
    rw [hn] at ev cB hIl n1 hkl
    rw [hq] at eu cP cC hIl n2
    subst ev eu
    unfold RowPost at cI cP cC cA cB
    have hTl : R1.length + R2.length = n := by rw [← hn, ← hT, List.length_append]
    have HT := Lib.hid hT
    clear hv hs hu hs2 b1 b2 b1' b2' hI hIl e1 e2 hR1 hR2 hn hq hT hk
    have hkI : (k : Int) ≤ (n : Int) := by omega
    go_enter Try.func6, Try.ntmps6
    go_wp2_with (first
      | (go_at_call 13; ((with_reducible refine cL1.mono ?_); rintro e w1 ⟨rfl, rfl⟩))
      | (go_at_call 13; ((with_reducible refine cL2.mono ?_); rintro e w1 ⟨rfl, rfl⟩))
      | (go_at_call 15; ((with_reducible refine cI.mono ?_); rintro e w1 ⟨v1, rfl, own1, hb⟩; have A1 := Lib.hid (rowAt_of_own own1); clear own1; replace V := Lib.hid (V.out.below hb); replace U := Lib.hid (U.out.below hb)))
      | (go_at_call 19; ((with_reducible refine (cP _ _ A1.out).mono ?_); rintro e w2 ⟨v2, rfl, own2, hb2⟩; have A2 := Lib.hid (rowAt_of_own own2); clear own2; replace V := Lib.hid (V.out.below hb2); replace U := Lib.hid (U.out.below hb2); replace A1 := Lib.hid (A1.out.below hb2); replace hb := hb.trans (hb2.mono hb.size)))
      | (go_at_call 17; ((with_reducible refine (cC _ _ A1.out).mono ?_); rintro e w3 ⟨v3, rfl, own3, hb3⟩; have A3 := Lib.hid (rowAt_of_own own3); clear own3; replace V := Lib.hid (V.out.below hb3); replace U := Lib.hid (U.out.below hb3); replace A2 := Lib.hid (A2.out.below hb3); replace hb := hb.trans (hb3.mono hb.size)))
      | (go_at_call 19; ((with_reducible refine (cA _ V.out).mono ?_); rintro e w4 ⟨v4, rfl, own4, hb4⟩; have A4 := Lib.hid (rowAt_of_own own4); clear own4; replace V := Lib.hid (V.out.below hb4); replace U := Lib.hid (U.out.below hb4); replace A2 := Lib.hid (A2.out.below hb4); replace A3 := Lib.hid (A3.out.below hb4); replace hb := hb.trans (hb4.mono hb.size)))
      | (go_at_call 19; ((with_reducible refine (cB _ V.out).mono ?_); rintro e w5 ⟨v5, rfl, own5, hb5⟩; have A5 := Lib.hid (rowAt_of_own own5); clear own5; replace V := Lib.hid (V.out.below hb5); replace U := Lib.hid (U.out.below hb5); replace A2 := Lib.hid (A2.out.below hb5); replace A3 := Lib.hid (A3.out.below hb5); replace A4 := Lib.hid (A4.out.below hb5); replace hb := hb.trans (hb5.mono hb.size)))
      | (go_at_call 28; ((with_reducible refine (sM v2 _ A2.out U.out).mono ?_); rintro e w6 ⟨rfl, hb6⟩; replace V := Lib.hid (V.out.below hb6); replace A3 := Lib.hid (A3.out.below hb6); replace A4 := Lib.hid (A4.out.below hb6); replace A5 := Lib.hid (A5.out.below hb6); replace hb := hb.trans (hb6.mono hb.size)))
      | (go_at_call 28; ((with_reducible refine (sL v3 _ A3.out V.out).mono ?_); rintro e w7 ⟨rfl, hb7⟩; replace V := Lib.hid (V.out.below hb7); replace A4 := Lib.hid (A4.out.below hb7); replace A5 := Lib.hid (A5.out.below hb7); replace hb := hb.trans (hb7.mono hb.size); have hc := Below.refl w7.heap.size w7))
      | (at_builtin; refine wpList_append_rowG (by first | rfl | go_simp) _ _ rfl w7.heap.size _ [] rfl (World.ownsRow_made w7 #[] 0 (Nat.le_refl _) (Nat.zero_le _) (by simp)) _ R1 rfl (A4.out.below ((Below.refl _ w7).alloc (Nat.le_refl _) _)) (by simp; omega) (by simp) ?_; intro v8 w8 own8 grow8; replace hc := (hc.alloc hc.size _).grown grow8 (by simp) (fun k e => by cases e; exact Nat.le_refl _))
      | (at_builtin; refine wpList_append_rowG (by first | rfl | go_simp) _ _ rfl w7.heap.size _ ([] ++ R1) rfl own8 _ R2 rfl (A5.out.below hc) (by simp; omega) hc.size ?_; intro v9 w9 own9 grow9; replace hc := hc.grown grow9 hc.size (fun k e => (own8.lt k e).1); have A9 := Lib.hid (show RowAt w9 v9 l from by have h := rowAt_of_own own9; rw [List.nil_append, HT.out] at h; exact h))
      | (go_at_call 28; ((with_reducible refine (sL v9 _ A9.out (V.out.below hc)).mono ?_); rintro e w10 ⟨rfl, hb10⟩; replace hc := hc.trans (hb10.mono hc.size)))
      | (go_at_call 9; ((with_reducible refine (haw _).mono ?_); rintro e w11 ⟨rfl, hb11⟩; replace hc := hc.trans (hb11.mono hc.size))))
    go_ret
    exact ⟨rfl, hb.trans (hc.mono hb.size)⟩
  · have hB : insB l.length z = false := decide_eq_false hk
    have cI := insert_off v u l z w hv hB
    unfold errV at cI
    obtain ⟨a1, c1, ev⟩ := hv.len
    obtain ⟨n, hn⟩ : ∃ n, l.length = n := ⟨_, rfl⟩
    rw [hn] at ev hk n1
    subst ev
    clear hv hs hu hs2 b1 b2 b1' b2' hB hn
    by_cases hk0 : z < 0
    · clear hk
      go_enter Try.func6, Try.ntmps6
      go_wp2_with (first
        | (go_at_call 13; ((with_reducible refine cL1.mono ?_); rintro e w1 ⟨rfl, rfl⟩))
        | (go_at_call 13; ((with_reducible refine cL2.mono ?_); rintro e w1 ⟨rfl, rfl⟩))
        | (go_at_call 15; ((with_reducible refine cI.mono ?_); rintro e w1 ⟨rfl, hb⟩))
        | (go_at_call 9; ((with_reducible refine (haw _).mono ?_); rintro e w2 ⟨rfl, hb2⟩; replace hb := hb.trans (hb2.mono hb.size))))
      go_ret
      exact ⟨rfl, hb⟩
    · have hk1 : (n : Int) < z := by omega
      clear hk
      go_enter Try.func6, Try.ntmps6
      go_wp2_with (first
        | (go_at_call 13; ((with_reducible refine cL1.mono ?_); rintro e w1 ⟨rfl, rfl⟩))
        | (go_at_call 13; ((with_reducible refine cL2.mono ?_); rintro e w1 ⟨rfl, rfl⟩))
        | (go_at_call 15; ((with_reducible refine cI.mono ?_); rintro e w1 ⟨rfl, hb⟩))
        | (go_at_call 9; ((with_reducible refine (haw _).mono ?_); rintro e w2 ⟨rfl, hb2⟩; replace hb := hb.trans (hb2.mono hb.size))))
      go_ret
      exact ⟨rfl, hb⟩

end Go.Proofs.Ytiaoflagjaclmaa
