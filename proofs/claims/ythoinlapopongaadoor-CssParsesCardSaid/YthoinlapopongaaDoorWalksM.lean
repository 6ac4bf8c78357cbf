/-
  The document's split.
-/
import Derived.Test.YthoinlapopongaaDoorWalksL
import Derived.RegionTactic
import Derived.BigRegion
import Derived.ChangeAlike
import Derived.IntWalk
namespace Go.Proofs.YthoinlapopongaaDoor
open Go.RowKit Go.Lib

def partsOf (c : UInt8) (s : ByteArray) : List ByteArray := (partsB c s.data.toList).map asB
/-- A list of texts of the call's own. -/
def TextsOwn (w : World) (B : Nat) (v : Value) (ps : List ByteArray) : Prop := w.ownsRow B 9 1 v ps.length (ps.map Value.string)
def SplitPost (B : Nat) (ps : List ByteArray) (w : World) (e : Ending) (w' : World) : Prop := ∃ v, e = .returned v ∧ TextsOwn w' B v ps ∧ Below w.heap.size w w'

theorem parts_same (c : UInt8) : ∀ l : List UInt8, partsB c (l ++ [c]) = partsB c l ++ [[]]
  | [] => by simp [partsB]
  | b :: t => by
    rw [List.cons_append, partsB_cons, partsB_cons, parts_same c t]
    by_cases h : b = c
    · rw [if_pos h, if_pos h]; rfl
    · rw [if_neg h, if_neg h]
      cases hp : partsB c t with
      | nil => exact absurd hp (partsB_ne c t)
      | cons a r => rfl
theorem parts_more {c b : UInt8} (hb : b ≠ c) : ∀ l : List UInt8, ∃ init last, partsB c l = init ++ [last] ∧ partsB c (l ++ [b]) = init ++ [last ++ [b]]
  | [] => ⟨[], [], rfl, by rw [List.nil_append, partsB_cons, if_neg hb]; rfl⟩
  | a :: t => by
    obtain ⟨init, last, h1, h2⟩ := parts_more hb t
    rw [List.cons_append, partsB_cons, partsB_cons, h1, h2]
    by_cases h : a = c
    · rw [if_pos h, if_pos h]; exact ⟨[] :: init, last, rfl, rfl⟩
    · rw [if_neg h, if_neg h]
      cases init with
      | nil => exact ⟨[], a :: last, rfl, rfl⟩
      | cons x r => exact ⟨(a :: x) :: r, last, rfl, rfl⟩
theorem parts_count (c : UInt8) : ∀ l : List UInt8, (partsB c l).length ≤ l.length + 1
  | [] => by simp [partsB]
  | b :: t => by
    have ih := parts_count c t
    rw [partsB_cons]
    split
    · simp; omega
    · have := congrArg List.length (partsB_eq c t)
      simp only [List.length_cons] at this ⊢
      omega
theorem asB_list (l : List UInt8) : (asB l).data.toList = l := rfl
theorem asB_snoc (l : List UInt8) (s : ByteArray) (k : Nat) (h : k < s.size) : asB (l ++ [s[k]]) = asB l ++ s.extract k (k + 1) := by
  apply bytes_list
  rw [append_list, asB_list, asB_list, extract_list]
  congr 1
  rw [drop_cons _ k (by rw [← size_eq]; exact h), getD_byte s k h, show k + 1 - k = 1 by omega]
  rfl
theorem str_new (w : World) (x : ByteArray) : (w.alloc (.cells #[.string x] 9)).ownsRow w.heap.size 9 1 (.slice (some ⟨w.heap.size, 0, none⟩) 1 1) 1 [.string x] :=
  World.ownsRow_lit w #[.string x] 1 (Nat.le_refl _) (by decide) rfl

theorem texts_set {w : World} {B m : Nat} {v : Value} {I : List ByteArray} {z u : ByteArray} (hm : I.length = m) (h : w.ownsRow B 9 1 v (m + 1) ((I.map Value.string ++ [Value.string z]).set m (Value.string u))) : TextsOwn w.drew B v (I ++ [u]) := by
  have e : (I.map Value.string ++ [Value.string z]).set m (.string u) = (I ++ [u]).map Value.string := by
    rw [List.set_append_right _ _ (by rw [List.length_map, hm]; exact Nat.le_refl _), List.length_map, hm, Nat.sub_self]
    simp
  rw [e] at h
  unfold TextsOwn
  rw [List.length_append, hm]
  exact h

set_option maxHeartbeats 8000000 in
theorem rsplit_any (s : ByteArray) (c : UInt8) (w : World) (hs : s.size ≤ 1000000) :
    Calls Tryd.prog 17 #[.string s, .int .u8 (c.toNat : Int)] w (SplitPost w.heap.size (partsOf c s) w) := by
  obtain ⟨i0, hi, hz0, hz1, hz2⟩ := info_parts infoStr
  obtain ⟨C, hC⟩ : ∃ C : Int, (c.toNat : Int) = C := ⟨_, rfl⟩
  rw [hC]
  have HC := Lib.hid hC
  clear hC
  have hown0 := str_new w ⟨#[]⟩
  have hb0 := (Below.refl w.heap.size w).alloc (Nat.le_refl _) (.cells #[.string ⟨#[]⟩] 9)
  go_enter Tryd.func17, Tryd.ntmps17
  go_wp2
  go_loopg [5, 6] s.size (fun gk s5 s6 wx => ∃ k : Nat, s6 = .int .i64 (k : Int) ∧ k + gk = s.size ∧ TextsOwn wx w.heap.size s5 ((partsB c (s.data.toList.take k)).map asB) ∧ Below w.heap.size w wx)
  case atStart => exact ⟨0, rfl, by omega, hown0, hb0⟩
  case round =>
    obtain ⟨k, rfl, hgk, hown, hbw⟩ := hrel
    by_cases hlt : k < s.size
    · obtain ⟨g3, rfl⟩ : ∃ g3, gk = g3 + 1 := ⟨gk - 1, by omega⟩
      have hsn := take_one s.data.toList k (by rw [← size_eq]; exact hlt)
      rw [getD_byte s k hlt] at hsn
      have hcnt := parts_count c (s.data.toList.take k)
      rw [List.length_take] at hcnt
      have hbs := hbw.size
      by_cases hc : s[k] = c
      · have hq : (((s[k].toNat : Nat) : Int) == C) = true := by rw [← HC.out, hc]; simp
        have hps : (partsB c (s.data.toList.take (k + 1))).map asB = (partsB c (s.data.toList.take k)).map asB ++ [⟨#[]⟩] := by
          rw [hsn, hc, parts_same, List.map_append]; rfl
        have HPS := Lib.hid hps
        clear hps hsn hc
        unfold TextsOwn at hown
        rw [List.length_map] at hown
        generalize partsB c (s.data.toList.take k) = P at *
        go_wp2_with (
          at_builtin
          refine wpList_append_lies _ rfl _ _ 37 rfl w.heap.size 9 i0 _ 1 16 Tryd.underlying37 hi hz0 hz1 hz2 rfl (by decide) _ _ _ rfl (hown.alloc _) ⟨wr.heap.size, 0, none⟩ 1 1 [.string ⟨#[]⟩] rfl rfl (one_new _ _ _) (by simp [Value.oneCell']) (by decide) (by unfold maxLen; omega) (by omega) (by simp; omega) _ rfl ?_
          intro g cap w2 hown2 hgrow hat hlt2)
        go_roundg g3
        case measure => omega
        case rel => exact ⟨k + 1, by simp, by omega, by rw [HPS.out]; unfold TextsOwn; simpa using hown2, (hbw.alloc hbs _).grown hgrow (by simp; omega) (fun r e => own_block_ge hown r e)⟩
      · have hq : (((s[k].toNat : Nat) : Int) == C) = false := by
          rw [← HC.out, beq_eq_false_iff_ne]
          intro e
          exact hc (UInt8.toNat_inj.1 (by omega))
        obtain ⟨init, last, h1, h2⟩ := parts_more hc (s.data.toList.take k)
        rw [← hsn] at h2
        have hll := partsB_len c (s.data.toList.take k) last (by rw [h1]; simp)
        rw [List.length_take] at hll
        rw [h1] at hown hcnt
        obtain ⟨z, hz⟩ : ∃ z, asB last = z := ⟨_, rfl⟩
        have hzs : z.size ≤ 1000000 := by rw [← hz]; show (asB last).size ≤ _; rw [show (asB last).size = last.length from size_eq _]; omega
        obtain ⟨I, hI⟩ : ∃ I, init.map asB = I := ⟨_, rfl⟩
        obtain ⟨m, hm⟩ : ∃ m, I.length = m := ⟨_, rfl⟩
        have hps : (partsB c (s.data.toList.take (k + 1))).map asB = I ++ [z ++ s.extract k (k + 1)] := by
          rw [h2, List.map_append, hI, ← hz, List.map_cons, List.map_nil, asB_snoc last s k hlt]
        have HPS := Lib.hid hps
        clear hps h2
        have hmc : m + 1 ≤ s.size + 1 := by
          rw [← hm, ← hI, List.length_map]
          rw [List.length_append] at hcnt
          simp only [List.length_cons, List.length_nil] at hcnt
          omega
        unfold TextsOwn at hown
        rw [List.map_append, hI, List.map_cons, List.map_nil, hz, List.length_append, hm, List.map_append] at hown
        replace hown : wr.ownsRow w.heap.size 9 1 _ (m + 1) (I.map Value.string ++ [.string z]) := hown
        obtain ⟨g, cap, rfl, hgB, hgW⟩ := hown.form (by simp)
        have hcap : m + 1 ≤ cap := by
          rcases hown.2 with ⟨h, _⟩ | ⟨g', cap', cur, h, _, _, hn, _⟩
          · cases h
          · cases h; exact hn
        have hcell : wr.cell? ⟨g, m, none⟩ = some (.string z) := by
          rw [hown.cellAt m (by simp), List.getElem?_append_right (by rw [List.length_map, hm]; exact Nat.le_refl _), List.length_map, hm]
          simp
        have hfz := hown.frozenAt m
        have hst := hown.stored m (.string (z ++ s.extract k (k + 1)))
        have HM := Lib.hid hm
        have HST := Lib.hid hst
        clear hown hst hm hI hz h1 hll hcnt hsn hc
        have hx1 : IntKind.i64.wrap ((m : Int) + 1 - 1) = (m : Int) := by rw [show (m : Int) + 1 - 1 = (m : Int) by omega]; exact IntWalk.i64_in _ (by omega)
        go_wp2
        go_region
        all_goals go_wp2
        all_goals
          go_roundg g3
          case measure => omega
          case rel => exact ⟨k + 1, by simp, by omega, by rw [HPS.out]; exact texts_set HM.out HST.out.1, (hbw.setCell (p := ⟨g, m, none⟩) hgB _).drew⟩
    · obtain rfl : k = s.size := by omega
      rw [List.take_of_length_le (by rw [size_eq]; exact Nat.le_refl _)] at hown
      go_wp2
      go_ret
      exact ⟨_, rfl, hown, hbw⟩

end Go.Proofs.YthoinlapopongaaDoor
