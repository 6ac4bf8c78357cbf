/-
  The walk of the statement of layer 2 on names, there and back.
-/
import Derived.Test.YteiaolejoangnaaDoorLawsA
import Derived.Test.YteiaolejoangnaaDoorWalksJ
namespace Go.Proofs.YteiaolejoangnaaDoor
open Go.RowKit

theorem own_facts {k : Nat} (h0 : 0 < k) (h : k < 17) : fndT (lowL (nm k).data.toList) = k ∧ fndB (lowL (nm k).data.toList) = true ∧ (nm k).toList.isEmpty = false ∧ (nm k).size ≤ 100 ∧ 2 ≤ cls k := by
  have h1 := low_own k h
  have h2 := fnd_own k h h0
  have e : lowL (nm k).data.toList = tab.getD k [] := h1
  rw [e]
  refine ⟨h2.1, h2.2, ?_, ?_, ?_⟩
  · have : ∀ j : Nat, j < 17 → 0 < j → (nm j).data.toList.isEmpty = false := by decide
    rw [ByteArray.toList_eq]
    exact this k h h0
  · have : ∀ j : Nat, j < 17 → (nm j).size ≤ 100 := by decide
    exact this k h
  · have : ∀ j : Nat, j < 17 → 0 < j → 2 ≤ cls j := by decide
    exact this k h h0

set_option maxHeartbeats 4000000 in
/-- What is said of any name, behind what is said of the number. -/
theorem lawNames_no (t C : Int) (bits : Int) (s : ByteArray) (w : World) (hT : OwnT w) (hs : s.size ≤ maxLen) (hn : nameOf t = ⟨#[]⟩) (hc : cls t = C) (h01 : C = 0 ∨ C = 1) :
    Calls Tryd.prog 7 #[.int .i64 t, .int .u32 bits, .string s] w fun e w' => e = .returned (.bool true) ∧ Below w.heap.size w w' := by
  have hb : Below w.heap.size w w := Below.refl _ _
  have HN := Lib.hid hn
  have HC := Lib.hid hc
  clear hn hc
  by_cases hl : 1000 < s.size
  · rcases h01 with rfl | rfl
    all_goals
      go_enter Tryd.func7, Tryd.ntmps7
      go_wp2_with (first
        | (go_at_call 11; (with_reducible refine (name_at t _ _ hT HN.out).mono ?_); rintro e w1 ⟨rfl, rfl⟩)
        | (go_at_call 13; (with_reducible refine (class_at t _ _ HC.out).mono ?_); rintro e w1 ⟨rfl, rfl⟩)
        | (go_at_call 17; (with_reducible refine (awake_any _ hT).mono ?_); rintro e w1 ⟨rfl, hb1⟩; have hb := hb.trans (hb1.mono hb.size)))
      go_ret
      exact ⟨rfl, hb⟩
  · have hsg : s.size ≤ 100000 := by omega
    by_cases hf : fndB (lowL s.data.toList) = true
    · obtain ⟨D, hD⟩ : ∃ D, cls (fndT (lowL s.data.toList)) = D := ⟨_, rfl⟩
      have hD2 : 2 ≤ D := by rw [← hD]; exact fnd_class hf
      obtain ⟨T, hT0⟩ : ∃ T, fndT (lowL s.data.toList) = T := ⟨_, rfl⟩
      rw [hT0] at hD
      have HD := Lib.hid hD
      have HF := Lib.hid hf
      have HT := Lib.hid hT0
      clear hD hf hT0
      rcases h01 with rfl | rfl
      all_goals
        go_enter Tryd.func7, Tryd.ntmps7
        go_wp2_with (first
          | (go_at_call 11; (with_reducible refine (name_at t _ _ hT HN.out).mono ?_); rintro e w1 ⟨rfl, rfl⟩)
          | (go_at_call 13; (with_reducible refine (class_at t _ _ HC.out).mono ?_); rintro e w1 ⟨rfl, rfl⟩)
          | (go_at_call 13; (with_reducible refine (class_at T _ _ HD.out).mono ?_); rintro e w1 ⟨rfl, rfl⟩)
          | (go_at_call 18; (with_reducible refine (find_at s T true _ hT hs HT.out HF.out).mono ?_); rintro e w1 ⟨rfl, hb1⟩; have hT := hT.in hb1; have hb := hb.trans (hb1.mono hb.size))
          | (go_at_call 25; (with_reducible refine (great_any s bits _ hsg).mono ?_); rintro e w1 ⟨r, rfl, hr1, hr2, hb1⟩; have hT := hT.in hb1; have hb := hb.trans (hb1.mono hb.size); have hrs : r.size ≤ maxLen := (by rw [hr1]; exact hs); have HR := Lib.hid hr2; clear hr1 hr2)
          | (go_at_call 18; (with_reducible refine (find_at r T true _ hT hrs (by rw [HR.out]; exact HT.out) (by rw [HR.out]; exact HF.out)).mono ?_); rintro e w1 ⟨rfl, hb1⟩; have hT := hT.in hb1; have hb := hb.trans (hb1.mono hb.size))
          | (go_at_call 17; (with_reducible refine (awake_any _ hT).mono ?_); rintro e w1 ⟨rfl, hb1⟩; have hb := hb.trans (hb1.mono hb.size)))
        go_ret
        exact ⟨rfl, hb⟩
    · have hf' : fndB (lowL s.data.toList) = false := by simpa using hf
      have HF := Lib.hid hf'
      have HT := Lib.hid (fndT_none hf')
      clear hf hf'
      rcases h01 with rfl | rfl
      all_goals
        go_enter Tryd.func7, Tryd.ntmps7
        go_wp2_with (first
          | (go_at_call 11; (with_reducible refine (name_at t _ _ hT HN.out).mono ?_); rintro e w1 ⟨rfl, rfl⟩)
          | (go_at_call 13; (with_reducible refine (class_at t _ _ HC.out).mono ?_); rintro e w1 ⟨rfl, rfl⟩)
          | (go_at_call 18; (with_reducible refine (find_at s 0 false _ hT hs HT.out HF.out).mono ?_); rintro e w1 ⟨rfl, hb1⟩; have hT := hT.in hb1; have hb := hb.trans (hb1.mono hb.size))
          | (go_at_call 17; (with_reducible refine (awake_any _ hT).mono ?_); rintro e w1 ⟨rfl, hb1⟩; have hb := hb.trans (hb1.mono hb.size)))
        go_ret
        exact ⟨rfl, hb⟩

set_option maxHeartbeats 4000000 in
theorem lawNames_yes (t C : Int) (x : ByteArray) (bits : Int) (s : ByteArray) (w : World) (hT : OwnT w) (hs : s.size ≤ maxLen) (hn : nameOf t = x) (hc : cls t = C) (hC : 2 ≤ C)
    (hx1 : fndT (lowL x.data.toList) = t) (hx2 : fndB (lowL x.data.toList) = true) (hx3 : x.toList.isEmpty = false) (hx4 : x.size ≤ 100) :
    Calls Tryd.prog 7 #[.int .i64 t, .int .u32 bits, .string s] w fun e w' => e = .returned (.bool true) ∧ Below w.heap.size w w' := by
  have hb : Below w.heap.size w w := Below.refl _ _
  have HN := Lib.hid hn
  have HC := Lib.hid hc
  have HX1 := Lib.hid hx1
  have HX2 := Lib.hid hx2
  have c0 : (C == 0) = false := by simp; omega
  have c1 : (C == 1) = false := by simp; omega
  have hxg : x.size ≤ 100000 := by omega
  clear hn hc hx1 hx2
  by_cases hl : 1000 < s.size
  · go_enter Tryd.func7, Tryd.ntmps7
    go_wp2_with (first
      | (go_at_call 11; (with_reducible refine (name_at t _ _ hT HN.out).mono ?_); rintro e w1 ⟨rfl, rfl⟩)
      | (go_at_call 13; (with_reducible refine (class_at t _ _ HC.out).mono ?_); rintro e w1 ⟨rfl, rfl⟩)
      | (go_at_call 25; (with_reducible refine (great_any x bits _ hxg).mono ?_); rintro e w1 ⟨rx, rfl, hr1, hr2, hb1⟩; have hT := hT.in hb1; have hb := hb.trans (hb1.mono hb.size); have hrx : rx.size ≤ maxLen := (by unfold maxLen; omega); have HRX := Lib.hid hr2; clear hr1 hr2)
      | (go_at_call 18; (with_reducible refine (find_at rx t true _ hT hrx (by rw [HRX.out]; exact HX1.out) (by rw [HRX.out]; exact HX2.out)).mono ?_); rintro e w1 ⟨rfl, hb1⟩; have hT := hT.in hb1; have hb := hb.trans (hb1.mono hb.size))
      | (go_at_call 17; (with_reducible refine (awake_any _ hT).mono ?_); rintro e w1 ⟨rfl, hb1⟩; have hb := hb.trans (hb1.mono hb.size)))
    go_ret
    exact ⟨rfl, hb⟩
  · have hsg : s.size ≤ 100000 := by omega
    by_cases hf : fndB (lowL s.data.toList) = true
    · obtain ⟨D, hD⟩ : ∃ D, cls (fndT (lowL s.data.toList)) = D := ⟨_, rfl⟩
      have hD2 : 2 ≤ D := by rw [← hD]; exact fnd_class hf
      obtain ⟨T, hT0⟩ : ∃ T, fndT (lowL s.data.toList) = T := ⟨_, rfl⟩
      rw [hT0] at hD
      have HD := Lib.hid hD
      have HF := Lib.hid hf
      have HT := Lib.hid hT0
      clear hD hf hT0
      go_enter Tryd.func7, Tryd.ntmps7
      go_wp2_with (first
        | (go_at_call 11; (with_reducible refine (name_at t _ _ hT HN.out).mono ?_); rintro e w1 ⟨rfl, rfl⟩)
        | (go_at_call 13; (with_reducible refine (class_at t _ _ HC.out).mono ?_); rintro e w1 ⟨rfl, rfl⟩)
        | (go_at_call 25; (with_reducible refine (great_any x bits _ hxg).mono ?_); rintro e w1 ⟨rx, rfl, hr1, hr2, hb1⟩; have hT := hT.in hb1; have hb := hb.trans (hb1.mono hb.size); have hrx : rx.size ≤ maxLen := (by unfold maxLen; omega); have HRX := Lib.hid hr2; clear hr1 hr2)
        | (go_at_call 18; (with_reducible refine (find_at rx t true _ hT hrx (by rw [HRX.out]; exact HX1.out) (by rw [HRX.out]; exact HX2.out)).mono ?_); rintro e w1 ⟨rfl, hb1⟩; have hT := hT.in hb1; have hb := hb.trans (hb1.mono hb.size))
        | (go_at_call 13; (with_reducible refine (class_at T _ _ HD.out).mono ?_); rintro e w1 ⟨rfl, rfl⟩)
        | (go_at_call 18; (with_reducible refine (find_at s T true _ hT hs HT.out HF.out).mono ?_); rintro e w1 ⟨rfl, hb1⟩; have hT := hT.in hb1; have hb := hb.trans (hb1.mono hb.size))
        | (go_at_call 25; (with_reducible refine (great_any s bits _ hsg).mono ?_); rintro e w1 ⟨r, rfl, hr1, hr2, hb1⟩; have hT := hT.in hb1; have hb := hb.trans (hb1.mono hb.size); have hrs : r.size ≤ maxLen := (by rw [hr1]; exact hs); have HR := Lib.hid hr2; clear hr1 hr2)
        | (go_at_call 18; (with_reducible refine (find_at r T true _ hT hrs (by rw [HR.out]; exact HT.out) (by rw [HR.out]; exact HF.out)).mono ?_); rintro e w1 ⟨rfl, hb1⟩; have hT := hT.in hb1; have hb := hb.trans (hb1.mono hb.size))
        | (go_at_call 17; (with_reducible refine (awake_any _ hT).mono ?_); rintro e w1 ⟨rfl, hb1⟩; have hb := hb.trans (hb1.mono hb.size)))
      go_ret
      exact ⟨rfl, hb⟩
    · have hf' : fndB (lowL s.data.toList) = false := by simpa using hf
      have HF := Lib.hid hf'
      have HT := Lib.hid (fndT_none hf')
      clear hf hf'
      go_enter Tryd.func7, Tryd.ntmps7
      go_wp2_with (first
        | (go_at_call 11; (with_reducible refine (name_at t _ _ hT HN.out).mono ?_); rintro e w1 ⟨rfl, rfl⟩)
        | (go_at_call 13; (with_reducible refine (class_at t _ _ HC.out).mono ?_); rintro e w1 ⟨rfl, rfl⟩)
        | (go_at_call 25; (with_reducible refine (great_any x bits _ hxg).mono ?_); rintro e w1 ⟨rx, rfl, hr1, hr2, hb1⟩; have hT := hT.in hb1; have hb := hb.trans (hb1.mono hb.size); have hrx : rx.size ≤ maxLen := (by unfold maxLen; omega); have HRX := Lib.hid hr2; clear hr1 hr2)
        | (go_at_call 18; (with_reducible refine (find_at rx t true _ hT hrx (by rw [HRX.out]; exact HX1.out) (by rw [HRX.out]; exact HX2.out)).mono ?_); rintro e w1 ⟨rfl, hb1⟩; have hT := hT.in hb1; have hb := hb.trans (hb1.mono hb.size))
        | (go_at_call 18; (with_reducible refine (find_at s 0 false _ hT hs HT.out HF.out).mono ?_); rintro e w1 ⟨rfl, hb1⟩; have hT := hT.in hb1; have hb := hb.trans (hb1.mono hb.size))
        | (go_at_call 17; (with_reducible refine (awake_any _ hT).mono ?_); rintro e w1 ⟨rfl, hb1⟩; have hb := hb.trans (hb1.mono hb.size)))
      go_ret
      exact ⟨rfl, hb⟩

theorem lawNames_walk (t bits : Int) (s : ByteArray) (w : World) (hT : OwnT w) (hs : s.size ≤ maxLen) :
    Calls Tryd.prog 7 #[.int .i64 t, .int .u32 bits, .string s] w fun e w' => e = .returned (.bool true) ∧ Below w.heap.size w w' := by
  by_cases h : t < 0 ∨ 16 < t
  · exact lawNames_no t 0 bits s w hT hs (by unfold nameOf; rw [if_pos h]; rfl) (cls_out h) (Or.inl rfl)
  · obtain ⟨k, rfl⟩ : ∃ a : Nat, t = a := ⟨t.toNat, by omega⟩
    have e : nameOf k = nm k := by unfold nameOf; rw [if_neg h]; simp
    by_cases h0 : k = 0
    · subst h0
      exact lawNames_no _ 1 bits s w hT hs e (by decide) (Or.inr rfl)
    · obtain ⟨f1, f2, f3, f4, f5⟩ := own_facts (k := k) (by omega) (by omega)
      exact lawNames_yes k (cls k) (nm k) bits s w hT hs e rfl f5 f1 f2 f3 f4

end Go.Proofs.YteiaolejoangnaaDoor
