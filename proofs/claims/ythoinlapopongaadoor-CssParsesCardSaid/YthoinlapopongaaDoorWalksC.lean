/-
  strings.SplitSeq at ";": what its iterator does.
-/
import Derived.Test.YthoinlapopongaaDoorWalksB
import Derived.Shelf.Abstract
import Derived.Shelf.RegionOpen
import Derived.OwnWalkIn
import Derived.TacticsInMore
import Derived.LoopNIn
import Derived.LoopIn
import Derived.Sort.LoopGhostIn
namespace Go.Proofs.YthoinlapopongaaDoor
open Go.RowKit Go.Lib Go.Shelf
attribute [local go_sem] Oper.semAt_some

theorem index_cases (c : UInt8) : ∀ l : List UInt8, (indexByte l c = -1 ∧ c ∉ l) ∨ ∃ i : Nat, indexByte l c = (i : Int) ∧ i < l.length ∧ l = l.take i ++ c :: l.drop (i + 1)
  | [] => .inl ⟨rfl, by simp⟩
  | b :: l => by
    by_cases h : b = c
    · subst h
      exact .inr ⟨0, by simp [indexByte], by simp, by simp⟩
    · have hb : (b == c) = false := by simpa using h
      rcases index_cases c l with ⟨h1, h2⟩ | ⟨i, h1, h2, h3⟩
      · exact .inl ⟨by simp [indexByte, hb, h1], by simp [h2, Ne.symm h]⟩
      · refine .inr ⟨i + 1, ?_, by simp; omega, by simpa using h3⟩
        have hn : ¬ ((i : Int) = -1) := by omega
        simp [indexByte, hb, h1, hn]

def asB (l : List UInt8) : ByteArray := ⟨l.toArray⟩
def splitS (s : ByteArray) : List ByteArray := (partsB 59 s.data.toList).map asB
theorem asB_self (s : ByteArray) : asB s.data.toList = s := Lib.mk_data s
theorem extract_list (t : ByteArray) (a b : Nat) : (t.extract a b).data.toList = (t.data.toList.drop a).take (b - a) := by
  rw [ByteArray.data_extract, Array.toList_extract]
theorem splitS_none {t : ByteArray} (h : (59 : UInt8) ∉ t.data.toList) : splitS t = [t] := by
  unfold splitS; rw [partsB_none _ _ h]; simp [asB_self]
theorem splitS_some {t : ByteArray} {i : Nat} (h : t.data.toList = t.data.toList.take i ++ 59 :: t.data.toList.drop (i + 1)) (h0 : (59 : UInt8) ∉ t.data.toList.take i) :
    splitS t = t.extract 0 i :: splitS (t.extract (i + 1) t.size) := by
  have e1 : t.extract 0 i = asB (t.data.toList.take i) := by
    rw [← asB_self (t.extract 0 i), extract_list t 0 i]; simp
  have e2 : (t.extract (i + 1) t.size).data.toList = t.data.toList.drop (i + 1) := by
    rw [extract_list t (i + 1) t.size]
    apply List.take_of_length_le
    rw [List.length_drop, size_eq]; omega
  unfold splitS
  rw [e2, e1]
  conv => lhs; rw [h, partsB_append, partsB_none _ _ h0]
  rfl
theorem not_in_take (c : UInt8) : ∀ (l : List UInt8) (i : Nat), indexByte l c = (i : Int) → c ∉ l.take i
  | [], i, h => by simp
  | b :: l, i, h => by
    by_cases hb : b = c
    · subst hb
      have : (0 : Int) = i := by simpa [indexByte] using h
      have : i = 0 := by omega
      subst this; simp
    · have hb' : (b == c) = false := by simpa using hb
      rcases index_cases c l with ⟨h1, _⟩ | ⟨j, h1, _, _⟩
      · simp [indexByte, hb', h1] at h
      · have hn : ¬ ((j : Int) = -1) := by omega
        simp [indexByte, hb', h1, hn] at h
        have : i = j + 1 := by omega
        subst this
        have := not_in_take c l j h1
        simp [this, Ne.symm hb]

set_option maxHeartbeats 4000000 in
theorem split_goes (B : Nat) (s : ByteArray) (hs : s.size ≤ 1000000000) (Lv : Prop) (Kg : World → Prop) (w : World) (hB : w.heap.size = B + 3)
    (h1 : w.cell? ⟨B, 0, none⟩ = some (.string s)) (f1 : w.frozen? ⟨B, 0, none⟩ = false) (h2 : w.cell? ⟨B + 1, 0, none⟩ = some (.string ⟨#[59]⟩)) (h3 : w.cell? ⟨B + 2, 0, none⟩ = some (.int .i64 0)) :
    Goes Tryd.prog 42 #[.pointer (some ⟨B + 1, 0, none⟩), .pointer (some ⟨B, 0, none⟩), .pointer (some ⟨B + 2, 0, none⟩)] (fun x : ByteArray => #[.string x]) Lv (fun xs => xs = splitS s) (fun pre => pre <+: splitS s) (fun pre x => pre ++ [x] <+: splitS s) Kg B w := fun l J Jx W hW hJ hJx _ hY h0 => by
  replace h1 := (hW.cell (p := ⟨B, 0, none⟩) (by simp; omega)).trans h1
  replace f1 := (hW.frozen (p := ⟨B, 0, none⟩) (by simp; omega)).trans f1
  replace h2 := (hW.cell (p := ⟨B + 1, 0, none⟩) (by simp; omega)).trans h2
  replace h3 := (hW.cell (p := ⟨B + 2, 0, none⟩) (by simp; omega)).trans h3
  have hWs := hW.size
  rw [hB] at hWs hJ hJx hY
  have own0 : ∀ k, B ≤ k → k < B + 3 → Mine B (B + 3) W.heap.size k := fun k ha hb => .inl ⟨ha, hb⟩
  refine callsIn_of_wp Tryd.func42 rfl trivial ?_ rfl
  simp only [Tryd.ntmps42, List.size_toArray, List.length_cons, List.length_nil, Nat.reduceAdd, Nat.reduceSub, Array.replicate_succ, Array.replicate_zero, List.push_toArray, List.append_toArray, List.nil_append, List.cons_append]
  gi_wp2
  gi_loopg [7] s.size (fun gk s7 wx => ∃ (pre : List ByteArray) (t : ByteArray), splitS s = pre ++ splitS t ∧ t.size ≤ gk ∧ t.size ≤ 1000000000 ∧ J pre wx ∧ W.heap.size ≤ wx.heap.size ∧ wx.cell? ⟨B, 0, none⟩ = some (.string t) ∧ wx.frozen? ⟨B, 0, none⟩ = false ∧ wx.cell? ⟨B + 1, 0, none⟩ = some (.string ⟨#[59]⟩) ∧ wx.cell? ⟨B + 2, 0, none⟩ = some (.int .i64 0))
  case atStart => exact ⟨[], s, rfl, Nat.le_refl _, hs, h0, Nat.le_refl _, h1, f1, h2, h3⟩
  case round =>
    obtain ⟨pre, t, hsp, hgk, hts, hj, hsz, c1, g1, c2, c3⟩ := hrel
    have hix := Tryd.strings_Index_one t 59 wr
    rcases index_cases 59 t.data.toList with ⟨hi, hno⟩ | ⟨i, hi, hlt, heq⟩
    · rw [hi] at hix
      obtain ⟨fn, tmps, assign, body, hy, hR⟩ := yield_any (m' := 8) (hY pre t wr hsz hj (by rw [hsp, splitS_none hno]; exact List.prefix_refl _))
      rw [splitS_none hno] at hsp
      gi_wp2_with (refine ⟨trivial, ?_⟩; gi_at_call 44; refine (callsIn_wide.2 hix).mono ?_; rintro e w' ⟨rfl, rfl⟩)
      refine hR.mono ?_
      rintro e W3 (⟨rfl, hJ3, hk3⟩ | ⟨hlv, rfl, hJ3⟩)
      · gi_wp2
        go_end0
        exact ⟨⟨_, rfl⟩, .inl ⟨_, hsp.symm, hJ3⟩⟩
      · gi_wp2
        go_end0
        exact ⟨⟨_, rfl⟩, .inr ⟨hlv, _, by rw [hsp]; exact List.prefix_refl _, hJ3⟩⟩
    · have hnt := not_in_take 59 _ i hi
      have hlt' : i < t.size := by rw [size_eq]; exact hlt
      have hs2 := splitS_some heq hnt
      rw [hi] at hix
      rw [hs2] at hsp
      obtain ⟨u, hu⟩ : ∃ u, t.extract (i + 1) t.size = u := ⟨_, rfl⟩
      have hus : u.size + i + 1 = t.size := by rw [← hu]; simp; omega
      rw [hu] at hsp
      obtain ⟨fn, tmps, assign, body, hy, hR⟩ := yield_any (m' := 8) (hY pre (t.extract 0 i) wr hsz hj (by rw [hsp]; exact ⟨splitS u, by simp⟩))
      obtain ⟨g', rfl⟩ : ∃ g', gk = g' + 1 := ⟨gk - 1, by omega⟩
      gi_wp2_with (refine ⟨trivial, ?_⟩; gi_at_call 44; refine (callsIn_wide.2 hix).mono ?_; rintro e w' ⟨rfl, rfl⟩)
      refine hR.mono ?_
      rintro e W3 (⟨rfl, hJ3, hk3⟩ | ⟨hlv, rfl, hJ3⟩)
      · have d1 := hk3.cell (own0 B (Nat.le_refl _) (by omega)) c1
        have e1 := (hk3.frozen (own0 B (Nat.le_refl _) (by omega)) c1).trans g1
        have d2 := hk3.cell (own0 (B + 1) (by omega) (by omega)) c2
        have d3 := hk3.cell (own0 (B + 2) (by omega) (by omega)) c3
        have hsz3 := hk3.size
        gi_wp2
        gi_roundg g'
        case measure => omega
        case rel =>
          refine ⟨pre ++ [t.extract 0 i], u, by rw [hsp]; simp, by omega, by omega, hJ _ _ _ _ hJ3 (grownBy_setCell' W3 B _) (fun r e => by cases e; exact own0 B (Nat.le_refl _) (by omega)), by simp; omega, World.cell?_setCell_same' _ _ _ (by rw [d1]; rfl), by rw [World.frozen?_setCell]; exact e1, ?_, ?_⟩
          · rw [World.cell?_setCell_other _ _ _ _ (by intro e; cases e)]; exact d2
          · rw [World.cell?_setCell_other _ _ _ _ (by intro e; cases e)]; exact d3
      · gi_wp2
        refine bodyPost_ret (results_none rfl _ _ _) rfl ?_
        exact ⟨⟨_, rfl⟩, .inr ⟨hlv, pre ++ [t.extract 0 i], by rw [hsp]; exact ⟨splitS u, by simp⟩, hJ3⟩⟩

end Go.Proofs.YthoinlapopongaaDoor
