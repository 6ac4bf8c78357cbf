/-
  The contract of the document's tags of classes.
-/
import Derived.Test.YteiaolejoangnaaDoorWalksL
namespace Go.Proofs.YteiaolejoangnaaDoor
open Go.RowKit

/-- Is it among the first j? -/
def seen (zs : List Int) (c : Int) (j : Nat) : Bool := hasI (zs.take j) c

theorem seen_zero (zs : List Int) (c : Int) : seen zs c 0 = false := by simp [seen, hasI]
theorem seen_step {zs : List Int} {c : Int} {j : Nat} (h : j < zs.length) : seen zs c (j + 1) = (seen zs c j || zs.getD j 0 == c) := by
  unfold seen hasI
  rw [List.take_add_one, List.getElem?_eq_getElem h, getDI h, Bool.eq_iff_iff]
  simp only [Option.toList_some, List.mem_append, List.mem_singleton, decide_eq_true_eq, Bool.or_eq_true, beq_iff_eq]
  constructor
  · rintro (h | h)
    · exact Or.inl h
    · exact Or.inr h.symm
  · rintro (h | h)
    · exact Or.inl h
    · exact Or.inr h.symm
theorem seen_on {zs : List Int} {c : Int} {j : Nat} (h : j < zs.length) (hs : seen zs c j = true) : seen zs c (j + 1) = true := by rw [seen_step h, hs]; rfl
theorem seen_off {zs : List Int} {c x : Int} {j : Nat} (h : j < zs.length) (hs : seen zs c j = false) (hx : x = zs.getD j 0) : seen zs c (j + 1) = (x == c) := by rw [seen_step h, hs, hx]; rfl
theorem seen_end (zs : List Int) (c : Int) : seen zs c zs.length = hasI zs c := by unfold seen; rw [List.take_length]

theorem rclass_at (t c : Int) (w : World) (h : cls t = c) :
    Calls Tryd.prog 14 #[.int .i64 t] w fun e w' => e = .returned (.int .i64 c) ∧ w' = w := by
  subst h; exact (rclass_any t w).mono fun _ _ h => ⟨h.1, h.2.symm⟩

theorem bool_val {a b : Bool} (h : a = b) : Value.bool a = .bool b := by rw [h]

set_option maxHeartbeats 4000000 in
theorem rtags_any (a : Option Addr) (cap : Nat) (zs : List Int) (w : World) (hc : IntsIn w a zs) (hl : zs.length ≤ 100000) :
    Calls Tryd.prog 24 #[.slice a zs.length cap] w (TagsPost zs w) := by
  obtain ⟨i0, hi, hz0, hz1, hz2⟩ := info_parts (infoI ())
  obtain ⟨n, hn⟩ : ∃ n, n = zs.length := ⟨_, rfl⟩
  rw [← hn] at hl ⊢
  have HN := Lib.hid hn
  clear hn
  go_enter Tryd.func24, Tryd.ntmps24
  go_wp2
  go_loopw [3, 4] (fun v i wr => ∃ k : Nat, k ≤ 17 ∧ i = .int .i64 k ∧ Owns w.heap.size v (tagsL zs k) wr ∧ Below w.heap.size w wr) (fun _ i _ => 17 - (intOf i).toNat)
  case atStart => exact ⟨0, Nat.zero_le _, rfl, World.ownsRow_nil _ _ _ _, Below.refl _ _⟩
  case round =>
    obtain ⟨k, hk, rfl, hown, hb⟩ := hrel
    obtain ⟨wo, rfl⟩ : ∃ wo : World, wo = wr := ⟨_, rfl⟩
    by_cases hlt : k ≤ 16
    · have hlen := tagsL_len zs k
      have hdk : decide ((k : Int) ≤ 16) = true := by simp; omega
      obtain ⟨C, hC⟩ : ∃ C, cls k = C := ⟨_, rfl⟩
      have HC := Lib.hid hC
      clear hC
      go_wp2
      go_loopw [5, 6] (fun b i wi => ∃ j : Nat, j ≤ n ∧ i = .int .i64 j ∧ b = .bool (seen zs C j) ∧ Owns w.heap.size u3 (tagsL zs k) wi ∧ Below w.heap.size w wi) (fun _ i _ => n - (intOf i).toNat)
      case atStart => exact ⟨0, Nat.zero_le _, rfl, bool_val (seen_zero _ _).symm, hown, hb⟩
      case round =>
        obtain ⟨j, hj, rfl, hbv, hown2, hb2⟩ := hrel
        by_cases hjn : j < n
        · have hjz : j < zs.length := by rw [← HN.out]; exact hjn
          obtain ⟨b1, o1, ha, hc1⟩ := (hc.below hb2) j hjz
          subst ha
          obtain ⟨x, hx⟩ : ∃ x, x = zs.getD j 0 := ⟨_, rfl⟩
          rw [← hx] at hc1
          have hji : (j : Int) < n := by omega
          by_cases hs : seen zs C j = true
          · have S := Lib.hid (seen_on hjz hs)
            rw [hs] at hbv
            subst hbv
            clear hx hjz hs
            go_wp2
            go_quiet (fail)
            go_wp2
            go_roundw
            case rel => first | exact ⟨j + 1, by omega, by go_num, bool_val S.out.symm, hown2, drewN_below hb2 _⟩ | (repeat apply Exists.intro; refine ⟨?_, rfl⟩; exact ⟨j + 1, by omega, by go_num, bool_val S.out.symm, hown2, drewN_below hb2 _⟩)
            case measure => simp [intOf]; omega
          · have hs2 : seen zs C j = false := by simpa using hs
            have S := Lib.hid (seen_off hjz hs2 hx)
            rw [hs2] at hbv
            subst hbv
            clear hx hjz hs hs2
            go_wp2
            go_quiet ((go_at_call 14; exact Calls.quiet_of_same (rclass_at k C _ HC.out)))
            go_wp2
            go_roundw
            case rel => first | exact ⟨j + 1, by omega, by go_num, bool_val S.out.symm, hown2, drewN_below hb2 _⟩ | (repeat apply Exists.intro; refine ⟨?_, rfl⟩; exact ⟨j + 1, by omega, by go_num, bool_val S.out.symm, hown2, drewN_below hb2 _⟩)
            case measure => simp [intOf]; omega
        · have hjn2 : j = zs.length := by rw [← HN.out]; omega
          have hse : seen zs C j = hasI zs (cls k) := by rw [hjn2, seen_end, HC.out]
          have hbs := hb2.size
          by_cases hh : hasI zs (cls k) = true
          · have Y := Lib.hid hh
            rw [hse.trans hh] at hbv
            subst hbv
            clear hh hse hjn2
            go_wp2_with (at_builtin; refine wpList_append_own _ rfl _ _ 30 rfl w.heap.size 3 i0 (.int .i64 0) 1 8 Tryd.underlying30 hi hz0 hz1 hz2 rfl (by decide) _ _ _ rfl (World.ownsRow.alloc hown2 _) ⟨wr.heap.size, 0, none⟩ 1 1 [.int .i64 (k : Int)] rfl rfl (cell_one_new _ _ _) (by simp [Value.oneCell']) (by unfold maxLen; omega) (by omega) (by simp; omega) ?_; intro v' w1 hown' hgrow _)
            go_roundw
            case rel => first | exact ⟨k + 1, by omega, by go_num, Owns.yes Y.out hown', hown2.below_append hb2 hbs hgrow⟩ | (repeat apply Exists.intro; refine ⟨?_, rfl⟩; exact ⟨k + 1, by omega, by go_num, Owns.yes Y.out hown', hown2.below_append hb2 hbs hgrow⟩)
            case measure => simp [intOf]; omega
          · have hh2 : hasI zs (cls k) = false := by simpa using hh
            have Y := Lib.hid hh2
            rw [hse.trans hh2] at hbv
            subst hbv
            clear hh hh2 hse hjn2
            go_wp2
            go_roundw
            case rel => first | exact ⟨k + 1, by omega, by go_num, Owns.no Y.out hown2, hb2⟩ | (repeat apply Exists.intro; refine ⟨?_, rfl⟩; exact ⟨k + 1, by omega, by go_num, Owns.no Y.out hown2, hb2⟩)
            case measure => simp [intOf]; omega
    · have hk17 : k = 17 := by omega
      subst hk17
      go_wp2
      go_ret
      exact ⟨_, rfl, hown, hb⟩

end Go.Proofs.YteiaolejoangnaaDoor
