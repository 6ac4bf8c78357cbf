/-
  The contract of the program's map of names: a new map that reads as the dictionary.
-/
import Derived.Test.YteiaolejoangnaaDoorWalksB
import Derived.Test.YteiaolejoangnaaDoorDict
import Derived.Maps.OwnSet
import Derived.Maps.OwnOps
import Derived.Lib.Hide
namespace Go.Proofs.YteiaolejoangnaaDoor
open Go.RowKit Go.Maps Go.WideMaps

theorem lawS : Keyed Tryd.prog 9 := string_keyed Tryd.underlying9
theorem zeroI (w : World) : (zeroValue 3).run Tryd.prog w = .ok (.int .i64 0) w := by kernel_rfl

/-- An entry of a map's literal: the same law as at a store. -/
theorem wpList_insert_own {H : Type} {P : Program} (w : World) {ops : Array Oper} {rest : List Oper} {o : Oper} {a : Act} {Q : Exit → Act → World → Prop}
    (hg : o.guard = none) (m x v : Operand) (t : TypeId) (hop : o.op = Op.insert t m x v)
    (k e : TypeId) (K : Keyed P k) (ht : P.underlying t = some (.map k e)) (R : Value → Option (DataW H × List MemPlace)) (b n : Nat) (D : DataW H)
    (hm : a.eval m = .map (some b)) (hown : w.ownsMap P k R b n D) (hn : n < maxLen) (key val : Value) (kl : Lit) (hx : a.eval x = key) (hv : a.eval v = val) (hkey : keyOf P k key = some kl)
    (d : DataW H) (ps : List MemPlace) (hval : R val = some (d, ps))
    (hK : ∀ w', w'.ownsMap P k R b (n + 1) (D.put kl d) → w.grownBy w' (some b) → wpList P ops Q rest (a.put o.dst undef) w') :
    wpList P ops Q (o :: rest) a w := by
  refine wpList_plain hg fun K' hK' => ?_
  obtain ⟨w', hrun, r1, r2⟩ := hown.update K ht hn hkey hval
  unfold Oper.wp
  simp [execOp, hop, hm, hx, hv, hrun, Result.andThen]
  exact hK' _ _ (hK w' r1 r2)

theorem index_own : ∀ k : Nat, k < 17 → ∀ w : World, (Instr.index 38 (.agg ownCells) (.int .i64 k)).run Tryd.prog w = .ok (.string (nm k)) w := by
  intro k hk
  have hc : k = 0 ∨ k = 1 ∨ k = 2 ∨ k = 3 ∨ k = 4 ∨ k = 5 ∨ k = 6 ∨ k = 7 ∨ k = 8 ∨ k = 9 ∨ k = 10 ∨ k = 11 ∨ k = 12 ∨ k = 13 ∨ k = 14 ∨ k = 15 ∨ k = 16 := by omega
  rcases hc with rfl | rfl | rfl | rfl | rfl | rfl | rfl | rfl | rfl | rfl | rfl | rfl | rfl | rfl | rfl | rfl | rfl <;> (intro w; kernel_rfl)

theorem key_own (k : Nat) (hk : k < 17) : keyOf Tryd.prog 9 (.string (nm k)) = some (sk (tab.getD k [])) := by
  refine keyOf_string_mk Tryd.underlying9 ?_
  have h : ∀ j : Nat, j < 17 → (nm j).size ≤ 100 := by decide
  have := h k hk
  unfold maxLen
  omega

theorem val_own (H : Type) (n : Int) (h0 : 0 ≤ n) (h1 : n ≤ 100) : plainElem (H := H) Tryd.prog 3 (.int .i64 n) = some (.lit (.int .i64 n), []) :=
  plainElem_int Tryd.underlying3 (WalkArith.wf_i64 (by omega))

def Named (w w' : World) (b : Nat) : Prop := ∃ n, w'.ownsMap Tryd.prog 9 (plainElem Tryd.prog 3) b n (dmR 17) ∧ Below w.heap.size w w'

set_option maxRecDepth 100000 in
set_option maxHeartbeats 4000000 in
theorem named_any (w : World) (hT : OwnT w) :
    Calls Tryd.prog 27 #[] w fun e w' => e = .returned (.map (some w.heap.size)) ∧ Named w w' w.heap.size := by
  have hmm := @run_makeMap Tryd.prog
  have hown0 := World.ownsMap_made (H := Unit) w Tryd.prog 9 (plainElem Tryd.prog 3)
  have hb0 : Below w.heap.size w (w.alloc (.map #[] 0)) := (Below.refl _ _).alloc (Nat.le_refl _) _
  go_enter Tryd.func27, Tryd.ntmps27
  go_wp2_with (first
    | (refine wpList_insert_own _ rfl _ _ _ 41 rfl 9 3 lawS Tryd.underlying41 _ w.heap.size 0 _ rfl hown0 (by unfold maxLen; omega) (.string ⟨#[115, 116, 114, 111, 110, 103]⟩) _ _ rfl rfl (keyOf_string_mk Tryd.underlying9 (by decide)) _ [] (val_own Unit 11 (by decide) (by decide)) ?_; intro w1 hown1 hg1)
    | (refine wpList_insert_own _ rfl _ _ _ 41 rfl 9 3 lawS Tryd.underlying41 _ w.heap.size 1 _ rfl hown1 (by unfold maxLen; omega) (.string ⟨#[101, 109]⟩) _ _ rfl rfl (keyOf_string_mk Tryd.underlying9 (by decide)) _ [] (val_own Unit 12 (by decide) (by decide)) ?_; intro w2 hown2 hg2)
    | (refine wpList_insert_own _ rfl _ _ _ 41 rfl 9 3 lawS Tryd.underlying41 _ w.heap.size 2 _ rfl hown2 (by unfold maxLen; omega) (.string ⟨#[105, 110, 115]⟩) _ _ rfl rfl (keyOf_string_mk Tryd.underlying9 (by decide)) _ [] (val_own Unit 13 (by decide) (by decide)) ?_; intro w3 hown3 hg3)
    | (refine wpList_insert_own _ rfl _ _ _ 41 rfl 9 3 lawS Tryd.underlying41 _ w.heap.size 3 _ rfl hown3 (by unfold maxLen; omega) (.string ⟨#[115, 116, 114, 105, 107, 101]⟩) _ _ rfl rfl (keyOf_string_mk Tryd.underlying9 (by decide)) _ [] (val_own Unit 14 (by decide) (by decide)) ?_; intro w4 hown4 hg4)
    | (refine wpList_insert_own _ rfl _ _ _ 41 rfl 9 3 lawS Tryd.underlying41 _ w.heap.size 4 _ rfl hown4 (by unfold maxLen; omega) (.string ⟨#[100, 101, 108]⟩) _ _ rfl rfl (keyOf_string_mk Tryd.underlying9 (by decide)) _ [] (val_own Unit 14 (by decide) (by decide)) ?_; intro w5 hown5 hg5; have hb1 := hb0.grown hg1 (by simp) (fun j hj => (by cases hj; exact Nat.le_refl _)); have hb2 := hb1.grown hg2 hb1.size (fun j hj => (by cases hj; exact Nat.le_refl _)); have hb3 := hb2.grown hg3 hb2.size (fun j hj => (by cases hj; exact Nat.le_refl _)); have hb4 := hb3.grown hg4 hb3.size (fun j hj => (by cases hj; exact Nat.le_refl _)); have hb5 := hb4.grown hg5 hb4.size (fun j hj => (by cases hj; exact Nat.le_refl _)); have hown6 : w5.ownsMap Tryd.prog 9 (plainElem Tryd.prog 3) w.heap.size 5 (dmR 0) := hown5; clear hown0 hown1 hown2 hown3 hown4 hown5 hg1 hg2 hg3 hg4 hg5 hb0 hb1 hb2 hb3 hb4; obtain ⟨t5, fr5, hT5⟩ := hT.below hb5)
    | (refine wpList_load_row rfl 38 _ rfl 0 rfl t5 ownCells fr5 _ hT5 Tryd.underlying38 rfl (by kernel_rfl) ?_; clear hT5))
  go_loopw [7] (fun i wr => ∃ k : Nat, k ≤ 17 ∧ i = .int .i64 k ∧ wr.ownsMap Tryd.prog 9 (plainElem Tryd.prog 3) w.heap.size (5 + k) (dmR k) ∧ Below w.heap.size w wr)
    (fun i _ => 17 - (intOf i).toNat)
  case atStart => exact ⟨0, Nat.zero_le _, rfl, hown6, hb5⟩
  case round =>
    obtain ⟨k, hk, rfl, hown, hb⟩ := hrel
    by_cases hlt : k < 17
    · have hix := index_own k hlt
      by_cases h0 : k = 0
      · subst h0
        have hix0 : ∀ w : World, (Instr.index 38 (.agg ownCells) (.int .i64 0)).run Tryd.prog w = .ok (.string (nm 0)) w := hix
        have hn0 : (nm 0).toList.isEmpty = true := by rw [ByteArray.toList_eq]; rfl
        have hn1 : (nm 0).toList = [] := by rw [ByteArray.toList_eq]; rfl
        go_wp2
        go_roundw
        case rel => exact ⟨1, by omega, rfl, dmR_one.symm ▸ hown.mono (by omega), hb⟩
        case measure => simp [intOf]
      · have hkey := key_own k hlt
        have hn : (nm k).toList.isEmpty = false := by
          have h : ∀ j : Nat, j < 17 → 0 < j → (nm j).data.toList.isEmpty = false := by decide
          rw [ByteArray.toList_eq]
          exact h k hlt (by omega)
        have S := Lib.hid (dmR_step k (by omega))
        go_wp2_with (at_mapUpdate; refine wpList_mapUpdate_own _ rfl _ _ _ 41 rfl 9 3 lawS Tryd.underlying41 _ w.heap.size (5 + k) _ rfl hown (by unfold maxLen; omega) _ _ _ rfl rfl hkey _ [] (val_own Unit k (by omega) (by omega)) ?_; intro w1 hown1 hgrow1)
        go_roundw
        case rel => exact ⟨k + 1, by omega, by go_num, S.out ▸ hown1, hb.grown hgrow1 hb.size (fun j hj => by cases hj; exact Nat.le_refl _)⟩
        case measure => simp [intOf]; omega
    · have hk17 : k = 17 := by omega
      subst hk17
      go_wp2
      go_ret
      exact ⟨rfl, _, hown, hb⟩

end Go.Proofs.YteiaolejoangnaaDoor
