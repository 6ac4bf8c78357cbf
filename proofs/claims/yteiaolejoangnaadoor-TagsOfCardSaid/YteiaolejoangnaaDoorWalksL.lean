/-
  The contracts of the tags of classes, the program's and the document's: both gather the tags whose class is among those named.
-/
import Derived.Test.YteiaolejoangnaaDoorWalksK
import Derived.BigGuardPart
namespace Go.Proofs.YteiaolejoangnaaDoor
open Go.RowKit

theorem infoI (_ : Unit) : (Tryd.prog.info? 3).map (fun i => (i.zero, i.size, i.bytes)) = some (some (.int .i64 0), 1, 8) := by kernel_rfl

/-- The tags below k of these classes. -/
def tagsL (zs : List Int) : Nat → List Int
  | 0 => []
  | k + 1 => tagsL zs k ++ (if hasI zs (cls k) = true then [(k : Int)] else [])

def i64s (l : List Int) : List Value := l.map (Value.int .i64)

theorem tagsL_yes {zs : List Int} {k : Nat} (h : hasI zs (cls k) = true) : tagsL zs (k + 1) = tagsL zs k ++ [(k : Int)] := by
  show tagsL zs k ++ _ = _
  rw [if_pos h]
theorem tagsL_no {zs : List Int} {k : Nat} (h : hasI zs (cls k) = false) : tagsL zs (k + 1) = tagsL zs k := by
  show tagsL zs k ++ _ = _
  rw [if_neg (by rw [h]; decide), List.append_nil]
theorem tagsL_len (zs : List Int) : ∀ k, (tagsL zs k).length ≤ k
  | 0 => Nat.le_refl _
  | k + 1 => by
    have := tagsL_len zs k
    by_cases h : hasI zs (cls k) = true
    · rw [tagsL_yes h, List.length_append, List.length_singleton]; omega
    · rw [tagsL_no (by simpa using h)]; omega

/-- A slice of the call's own holds these numbers. -/
def Owns (B : Nat) (v : Value) (l : List Int) (w : World) : Prop := w.ownsRow B 3 1 v l.length (i64s l)

theorem Owns.yes {zs : List Int} {k B : Nat} {v : Value} {w : World} (h : hasI zs (cls k) = true) (ho : w.ownsRow B 3 1 v ((tagsL zs k).length + 1) (i64s (tagsL zs k) ++ [Value.int .i64 k])) : Owns B v (tagsL zs (k + 1)) w := by
  unfold Owns
  rw [tagsL_yes h, List.length_append, List.length_singleton]
  unfold i64s
  rw [List.map_append, List.map_singleton]
  exact ho
theorem Owns.no {zs : List Int} {k B : Nat} {v : Value} {w : World} (h : hasI zs (cls k) = false) (ho : Owns B v (tagsL zs k) w) : Owns B v (tagsL zs (k + 1)) w := by
  rw [tagsL_no h]; exact ho

theorem Owns.below_append {B : Nat} {v : Value} {l : List Int} {w wr w1 : World} {o : Obj} (ho : Owns B v l wr) (hb : Below B w wr) (hB : B ≤ wr.heap.size) (hgrow : (wr.alloc o).grownBy w1 v.ownBlock) : Below B w w1 := by
  refine (hb.alloc hB o).grown hgrow (by simp; omega) (fun j hj => ?_)
  exact (ho.lt j hj).1

/-- What is owned, as the walks take a slice. -/
theorem Owns.ints {B : Nat} {v : Value} {l : List Int} {w : World} (h : Owns B v l w) : ∃ a cap, v = .slice a l.length cap ∧ IntsIn w a l := by
  obtain ⟨hlen, h0 | ⟨g, cap, cur, rfl, hB, hg, hn, hm, hs, ht⟩⟩ := h
  · obtain ⟨rfl, h0⟩ := h0
    refine ⟨none, 0, by rw [h0], fun j hj => ?_⟩
    rw [h0] at hj
    exact absurd hj (Nat.not_lt_zero _)
  · refine ⟨_, cap, rfl, fun j hj => ⟨g, 0, rfl, ?_⟩⟩
    have h2 : cur.toList[j]? = some (Value.int .i64 (l.getD j 0)) := by
      have h3 : (cur.toList.take (l.length * 1))[j]? = some (Value.int .i64 (l.getD j 0)) := by
        rw [ht]
        unfold i64s
        rw [List.getElem?_map, List.getElem?_eq_getElem hj, getDI hj]
        rfl
      rwa [List.getElem?_take_of_lt (by omega)] at h3
    simp only [World.cell?, hg, Nat.zero_add]
    simpa using h2

/-- What both answer. -/
def TagsPost (zs : List Int) (w : World) (e : Ending) (w' : World) : Prop := ∃ v, e = .returned v ∧ Owns w.heap.size v (tagsL zs 17) w' ∧ Below w.heap.size w w'

set_option maxHeartbeats 2000000 in
theorem tags_any (a : Option Addr) (cap : Nat) (zs : List Int) (w : World) (hc : IntsIn w a zs) (hl : zs.length ≤ 100000) :
    Calls Tryd.prog 22 #[.slice a zs.length cap] w (TagsPost zs w) := by
  obtain ⟨i0, hi, hz0, hz1, hz2⟩ := info_parts (infoI ())
  obtain ⟨n, hn⟩ : ∃ n, n = zs.length := ⟨_, rfl⟩
  have hcall : ∀ (c : Int) (wx : World), IntsIn wx a zs → Calls Tryd.prog 32 #[.slice a n cap, .int .i64 c] wx fun e w' => e = .returned (.bool (hasI zs c)) ∧ wx = w' := fun c wx h => by
    rw [hn]; exact contains_any a cap zs c wx h hl
  rw [← hn]
  clear hn
  go_enter Tryd.func22, Tryd.ntmps22
  go_wp2
  go_loopw [3, 5] (fun v i wr => ∃ k : Nat, k ≤ 17 ∧ i = .int .i64 k ∧ Owns w.heap.size v (tagsL zs k) wr ∧ Below w.heap.size w wr) (fun _ i _ => 17 - (intOf i).toNat)
  case atStart => exact ⟨0, Nat.zero_le _, rfl, World.ownsRow_nil _ _ _ _, Below.refl _ _⟩
  case round =>
    obtain ⟨k, hk, rfl, hown, hb⟩ := hrel
    by_cases hlt : k < 17
    · have hin := hc.below hb
      have hbs := hb.size
      have hlen := tagsL_len zs k
      obtain ⟨C, hC⟩ : ∃ C, cls k = C := ⟨_, rfl⟩
      have HC := Lib.hid hC
      by_cases hh : hasI zs (cls k) = true
      · have Y := Lib.hid hh
        have hh' : hasI zs C = true := by rw [← hC]; exact hh
        clear hC hh
        go_wp2_with (first
          | (go_at_call 13; (with_reducible refine (class_at k C _ HC.out).mono ?_); rintro e w1 ⟨rfl, rfl⟩)
          | (go_at_call 32; (with_reducible refine (hcall C _ hin).mono ?_); rintro e w1 ⟨rfl, rfl⟩)
          | (at_builtin; refine wpList_append_own _ rfl _ _ 30 rfl w.heap.size 3 i0 (.int .i64 0) 1 8 Tryd.underlying30 hi hz0 hz1 hz2 rfl (by decide) _ _ _ rfl (World.ownsRow.alloc hown _) ⟨wr.heap.size, 0, none⟩ 1 1 [.int .i64 (k : Int)] rfl rfl (cell_one_new _ _ _) (by simp [Value.oneCell']) (by unfold maxLen; omega) (by omega) (by simp; omega) ?_; intro v' w1 hown' hgrow _))
        go_roundw
        case rel => exact ⟨k + 1, by omega, by go_num, Owns.yes Y.out hown', hown.below_append hb hbs hgrow⟩
        case measure => simp [intOf]; omega
      · have hh2 : hasI zs (cls k) = false := by simpa using hh
        have Y := Lib.hid hh2
        have hh' : hasI zs C = false := by rw [← hC]; exact hh2
        clear hC hh hh2
        go_wp2_with (first
          | (go_at_call 13; (with_reducible refine (class_at k C _ HC.out).mono ?_); rintro e w1 ⟨rfl, rfl⟩)
          | (go_at_call 32; (with_reducible refine (hcall C _ hin).mono ?_); rintro e w1 ⟨rfl, rfl⟩))
        go_roundw
        case rel => exact ⟨k + 1, by omega, by go_num, Owns.no Y.out hown, hb⟩
        case measure => simp [intOf]; omega
    · have hk17 : k = 17 := by omega
      subst hk17
      go_wp2
      go_ret
      exact ⟨_, rfl, hown, hb⟩

end Go.Proofs.YteiaolejoangnaaDoor
