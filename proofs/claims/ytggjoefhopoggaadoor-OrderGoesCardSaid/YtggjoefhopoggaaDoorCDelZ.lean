/-
  slices.Delete of one int, in a row of one's own.
-/
import Derived.Test.YtggjoefhopoggaaDoorCInsZ
import Derived.Test.YtggjoefhopoggaaDoorShelf

namespace Go.Proofs.YtggjoefhopoggaaDoor
open Go.RowKit Go.Lib

def delZ (K : List Int) (i : Nat) : List Int := K.take i ++ K.drop (i + 1)
theorem delZ_len {K : List Int} {i : Nat} (h : i < K.length) : (delZ K i).length = K.length - 1 := by unfold delZ; simp; omega
theorem setMany_all (xs vs : List Value) (h : vs.length = xs.length) : setMany xs 0 vs = vs := by
  apply List.ext_getElem?
  intro j
  by_cases hj : j < xs.length
  · rw [setMany_get _ _ _ _ hj, if_pos (by omega), Nat.sub_zero]
  · rw [List.getElem?_eq_none (by rw [setMany_len]; omega), List.getElem?_eq_none (by omega)]
theorem own_shrink {w : World} {B g cap n m : Nat} {e : TypeId} {xs : List Value} (h : w.ownsRow B e 1 (.slice (some ⟨g, 0, none⟩) n cap) n xs) (hm : m ≤ n) : w.ownsRow B e 1 (.slice (some ⟨g, 0, none⟩) m cap) m (xs.take m) := by
  have hl := h.1
  rcases h.2 with ⟨h', _⟩ | ⟨g', cap', cur, h', hb, hg, hnc, hcm, hcs, ht⟩
  · simp at h'
  · simp only [Value.slice.injEq, Option.some.injEq, Addr.mk.injEq, and_true, true_and] at h'
    obtain ⟨rfl, rfl⟩ := h'
    refine ⟨by rw [List.length_take]; omega, .inr ⟨g, cap, cur, rfl, hb, hg, by omega, hcm, hcs, ?_⟩⟩
    rw [← ht, List.take_take]
    congr 1; omega
theorem heap_drewN (w : World) : ∀ q : Nat, (w.drewN q).heap = w.heap
  | 0 => rfl
  | q + 1 => heap_drewN w q
theorem sdel_any (B : Nat) (w : World) (g cap : Nat) (K : List Int) (i : Nat) (hown : w.ownsRow B 3 1 (.slice (some ⟨g, 0, none⟩) K.length cap) K.length (cellsZ K)) (hi : i < K.length) :
    Calls Tryd.prog 76 #[.slice (some ⟨g, 0, none⟩) K.length cap, .int .i64 i, .int .i64 ((i : Int) + 1)] w fun e w' => e = .returned (.slice (some ⟨g, 0, none⟩) (delZ K i).length cap) ∧ w'.ownsRow B 3 1 (.slice (some ⟨g, 0, none⟩) (delZ K i).length cap) (delZ K i).length (cellsZ (delZ K i)) ∧ w.grownBy w' (some g) := by
  have hcl := cellsZ_length K
  obtain ⟨hnc, hcm, hcell, hfz⟩ : K.length ≤ cap ∧ cap ≤ maxLen ∧ (∀ j, j < K.length → w.cell? ⟨g, 0 + j, none⟩ = some (.int .i64 (K.getD j 0))) ∧ ∀ j, j < K.length → w.frozen? ⟨g, 0 + j, none⟩ = false := by
    rcases hown.2 with ⟨h', _⟩ | ⟨g', cap', cur, h', hb, hg, hnc, hcm, hcs, ht⟩
    · simp at h'
    · simp only [Value.slice.injEq, Option.some.injEq, Addr.mk.injEq, and_true, true_and] at h'
      obtain ⟨rfl, rfl⟩ := h'
      refine ⟨hnc, hcm, fun j hj => ?_, fun j hj => by simp [World.frozen?, hg]⟩
      have h2 := cellsZ_at hj
      rw [← ht, List.getElem?_take, if_pos (by omega), Array.getElem?_toList] at h2
      have e : K[j]! = K.getD j 0 := by rw [List.getElem!_eq_getElem?_getD, List.getD_eq_getElem?_getD]; rfl
      rw [← e, Nat.zero_add]
      simp only [World.cell?, hg]
      simpa using h2
  have h := Tryd.slices_Delete_int_cells g 0 K.length cap i (i + 1) K w (Nat.le_refl _) hnc (by unfold maxLen at hcm; omega) (by omega) (by omega) hcell hfz
  rw [show (((i + 1 : Nat)) : Int) = (i : Int) + 1 by omega] at h
  refine h.mono ?_
  rintro e w' ⟨rfl, q, rfl⟩
  have hdl := delZ_len hi
  have e1 : K.length - (i + 1 - i) = (delZ K i).length := by omega
  rw [e1, List.take_of_length_le (Nat.le_refl K.length)]
  have hV : ((K.take i ++ K.drop (i + 1) ++ List.replicate (i + 1 - i) (0 : Int)).map (Value.int .i64)).length = (cellsZ K).length := by
    rw [hcl]; simp; omega
  have own1 : (w.drewN q).ownsRow B 3 1 (.slice (some ⟨g, 0, none⟩) K.length cap) K.length (cellsZ K) := by
    have e := heap_drewN w q
    unfold World.ownsRow
    rw [e]
    exact hown
  obtain ⟨own2, gr⟩ := own_setCells _ 0 _ _ own1
  rw [setMany_all _ _ hV] at own2
  have own3 := own_shrink own2 (m := (delZ K i).length) (by omega)
  have e3 : ((K.take i ++ K.drop (i + 1) ++ List.replicate (i + 1 - i) (0 : Int)).map (Value.int .i64)).take (delZ K i).length = cellsZ (delZ K i) := by
    have e4 : K.take i ++ K.drop (i + 1) ++ List.replicate (i + 1 - i) (0 : Int) = delZ K i ++ List.replicate (i + 1 - i) (0 : Int) := rfl
    rw [e4, List.map_append, List.take_append_of_le_length (by simp), List.take_of_length_le (by simp)]
    rfl
  rw [e3] at own3
  have gr0 : w.grownBy (w.drewN q) (some g) := ⟨(bdraws w q).os, (bdraws w q).tape, (bdraws w q).output, (bdraws w q).size, fun k hk _ => (bdraws w q).block k hk⟩
  exact ⟨rfl, own3, gr0.trans gr⟩

end Go.Proofs.YtggjoefhopoggaaDoor
