/-
  What is done to a line, told of plain lines: it may be still; it is another one; there and back.
-/
import Derived.Test.YtmlipcedkgfmiaaDoorDoC
namespace Go.Proofs.YtmlipcedkgfmiaaDoor
open Go.RowKit Go.Lib

/-- May the line be, but for its cells? -/
def mayF (q : Int) (ls : IRow) (k : Int) : Bool := upB q 6 && listsB ls && kindB ls k
theorem mayF_iff {q k : Int} {ls : IRow} : mayF q ls k = true ↔ (0 ≤ q ∧ q ≤ 6) ∧ (ls.length ≤ 6 ∧ ∀ z ∈ ls, z = 0 ∨ z = 1) ∧ (0 ≤ k ∧ k ≤ 3) ∧ (ls ≠ [] → k = 0) := by
  unfold mayF upB listsB kindB
  have e : (!ls.any wrongB) = true ↔ ∀ z ∈ ls, z = 0 ∨ z = 1 := by
    rw [Bool.not_eq_true', List.any_eq_false]
    constructor
    · intro h z hz
      have := h z hz
      unfold wrongB upB at this
      simp only [Bool.not_eq_true', decide_eq_false_iff_not, Classical.not_not] at this
      omega
    · intro h z hz
      have := h z hz
      unfold wrongB upB
      simp only [Bool.not_eq_true', decide_eq_false_iff_not, Classical.not_not]
      omega
  simp only [Bool.and_eq_true, decide_eq_true_eq, e]
  cases ls with
  | nil => simp [upB]
  | cons a l =>
    simp only [List.length_cons, Nat.add_eq_zero_iff, Nat.succ_ne_self, and_false, if_false, decide_eq_true_eq, ne_eq, reduceCtorEq, not_false_eq_true, true_implies]
    constructor
    · rintro ⟨⟨h1, h2⟩, h3⟩; exact ⟨h1, h2, by omega, h3⟩
    · rintro ⟨h1, h2, _, h3⟩; exact ⟨⟨h1, h2⟩, h3⟩

theorem last_mem {ls : IRow} (h : 0 < ls.length) : ls[ls.length - 1]! ∈ ls := by
  rw [List.getElem!_eq_getElem?_getD, List.getElem?_eq_getElem (show ls.length - 1 < ls.length by omega)]
  exact List.getElem_mem _
theorem ne_nil {ls : IRow} (h : 0 < ls.length) : ls ≠ [] := by
  intro e; rw [e] at h; exact absurd h (by decide)

/-- What is done: it was not to be done; or there is another line, of the same cells, that may be. -/
def TurnOk (L : Ln) (R : Int × Ln) : Prop :=
  (R.1 = 0 ∧ mayF R.2.q R.2.ls R.2.k = true ∧ R.2.cs = L.cs ∧ ¬ (R.2.q = L.q ∧ R.2.ls = L.ls ∧ R.2.k = L.k)) ∨ R.1 = 7 ∨ R.1 = 1

theorem turn_mk {q k q' k' : Int} {ls ls' : IRow} {cs : Row} (h : mayF q' ls' k' = true) (hn : ¬ (q' = q ∧ ls' = ls ∧ k' = k)) : TurnOk ⟨q, ls, k, cs⟩ (0, ⟨q', ls', k', cs⟩) := .inl ⟨rfl, h, rfl, hn⟩
theorem turn_may {L : Ln} {q' k' : Int} {ls' : IRow} {cs' : Row} (h : TurnOk L (0, ⟨q', ls', k', cs'⟩)) : mayF q' ls' k' = true := by
  rcases h with ⟨_, h, _⟩ | h | h
  · exact h
  · have : (0 : Int) = 7 := h
    omega
  · have : (0 : Int) = 1 := h
    omega

theorem indent_ok {q k : Int} {ls : IRow} (cs : Row) (h : mayF q ls k = true) : TurnOk ⟨q, ls, k, cs⟩ (indentS ⟨q, ls, k, cs⟩) := by
  obtain ⟨h1, ⟨h2, h3⟩, h4, h5⟩ := mayF_iff.1 h
  unfold indentS
  dsimp only
  split
  · exact .inr (.inl rfl)
  · rename_i hn
    split
    · rename_i hl
      refine turn_mk (mayF_iff.2 ⟨h1, ⟨by simp; omega, fun z hz => ?_⟩, h4, fun _ => h5 (ne_nil hl)⟩) (fun e => ?_)
      · rcases List.mem_append.1 hz with hz | hz
        · exact h3 z hz
        · rw [List.mem_singleton.1 hz]; exact h3 _ (last_mem hl)
      · have := congrArg List.length e.2.1
        simp at this
    · rename_i hl
      exact turn_mk (mayF_iff.2 ⟨⟨by omega, by omega⟩, ⟨h2, h3⟩, h4, h5⟩) (fun e => by have := e.1; omega)
theorem outdent_ok {q k : Int} {ls : IRow} (cs : Row) (h : mayF q ls k = true) : TurnOk ⟨q, ls, k, cs⟩ (outdentS ⟨q, ls, k, cs⟩) := by
  obtain ⟨h1, ⟨h2, h3⟩, h4, h5⟩ := mayF_iff.1 h
  unfold outdentS
  dsimp only
  split
  · rename_i hl
    refine turn_mk (mayF_iff.2 ⟨h1, ⟨by simp; omega, fun z hz => h3 z (List.mem_of_mem_take hz)⟩, h4, fun _ => h5 (ne_nil hl)⟩) (fun e => ?_)
    have := congrArg List.length e.2.1
    simp at this
    omega
  · split
    · exact turn_mk (mayF_iff.2 ⟨⟨by omega, by omega⟩, ⟨h2, h3⟩, h4, h5⟩) (fun e => by have := e.1; omega)
    · exact .inr (.inl rfl)
theorem list_ok {q k : Int} {ls : IRow} (cs : Row) (kind : Int) (h : mayF q ls k = true) (hk : upB kind 1 = true) : TurnOk ⟨q, ls, k, cs⟩ (listS kind ⟨q, ls, k, cs⟩) := by
  obtain ⟨h1, ⟨h2, h3⟩, h4, h5⟩ := mayF_iff.1 h
  have hk' : 0 ≤ kind ∧ kind ≤ 1 := of_decide_eq_true hk
  have hk2 : kind = 0 ∨ kind = 1 := by omega
  unfold listS
  dsimp only
  split
  · rename_i hl
    refine turn_mk (mayF_iff.2 ⟨h1, ⟨by simp, fun z hz => by rw [List.mem_singleton.1 hz]; exact hk2⟩, ⟨by omega, by omega⟩, fun _ => rfl⟩) (fun e => ?_)
    have := congrArg List.length e.2.1
    simp at this
    omega
  · rename_i hl
    split
    · exact .inr (.inl rfl)
    · rename_i hx
      refine turn_mk (mayF_iff.2 ⟨h1, ⟨by simp; omega, fun z hz => ?_⟩, h4, fun _ => h5 (ne_nil (by omega))⟩) (fun e => ?_)
      · rcases List.mem_or_eq_of_mem_set hz with hz | hz
        · exact h3 z hz
        · rw [hz]; exact hk2
      · have e2 : (ls.set (ls.length - 1) kind)[ls.length - 1]! = ls[ls.length - 1]! := by rw [e.2.1]
        rw [List.getElem!_eq_getElem?_getD, List.getElem?_set_self (by omega)] at e2
        exact hx e2.symm
theorem format_ok {q k : Int} {ls : IRow} (cs : Row) (kind : Int) (h : mayF q ls k = true) (hk : upB kind 3 = true) : TurnOk ⟨q, ls, k, cs⟩ (formatS kind ⟨q, ls, k, cs⟩) := by
  obtain ⟨h1, ⟨h2, h3⟩, h4, h5⟩ := mayF_iff.1 h
  have hk' : 0 ≤ kind ∧ kind ≤ 3 := of_decide_eq_true hk
  unfold formatS
  dsimp only
  split
  · exact .inr (.inl rfl)
  · rename_i hn
    have hl : ls = [] := List.eq_nil_of_length_eq_zero (by omega)
    exact turn_mk (mayF_iff.2 ⟨h1, ⟨h2, h3⟩, hk', fun e => absurd hl e⟩) (fun e => hn (.inr e.2.2.symm))
theorem free_ok {q k : Int} {ls : IRow} (cs : Row) (h : mayF q ls k = true) : TurnOk ⟨q, ls, k, cs⟩ (freeS ⟨q, ls, k, cs⟩) := by
  obtain ⟨h1, ⟨h2, h3⟩, h4, h5⟩ := mayF_iff.1 h
  unfold freeS
  dsimp only
  split
  · exact outdent_ok cs h
  · rename_i hk
    exact turn_mk (mayF_iff.2 ⟨h1, ⟨h2, h3⟩, ⟨by omega, by omega⟩, fun _ => rfl⟩) (fun e => hk e.2.2.symm)

/-! ### freed -/
def freeN (q : Int) (ls : IRow) (k : Int) : Nat := ls.length + q.toNat + (if 0 < k then 1 else 0)
theorem free_step {q k : Int} {ls : IRow} {cs : Row} (h : mayF q ls k = true) (hn : 0 < freeN q ls k) : ∃ q' ls' k', freeS ⟨q, ls, k, cs⟩ = (0, ⟨q', ls', k', cs⟩) ∧ mayF q' ls' k' = true ∧ freeN q' ls' k' + 1 = freeN q ls k := by
  obtain ⟨h1, ⟨h2, h3⟩, h4, h5⟩ := mayF_iff.1 h
  have ho := free_ok cs h
  unfold freeN at hn ⊢
  unfold freeS outdentS at ho ⊢
  dsimp only at ho ⊢
  by_cases hk : k = 0
  · subst hk
    rw [if_pos rfl] at ho ⊢
    by_cases hl : 0 < ls.length
    · rw [if_pos hl] at ho ⊢
      refine ⟨_, _, _, rfl, turn_may ho, ?_⟩
      simp
      omega
    · rw [if_neg hl] at ho ⊢
      by_cases hq : 0 < q
      · rw [if_pos hq] at ho ⊢
        refine ⟨_, _, _, rfl, turn_may ho, ?_⟩
        simp
        omega
      · exfalso
        simp at hn
        omega
  · rw [if_neg hk] at ho ⊢
    refine ⟨_, _, _, rfl, turn_may ho, ?_⟩
    have h0 : 0 < k := by omega
    simp [h0]
theorem free_none {q k : Int} {ls : IRow} {cs : Row} (h : mayF q ls k = true) (hn : freeN q ls k = 0) : freeS ⟨q, ls, k, cs⟩ = (7, ln0) ∧ q = 0 ∧ ls = [] ∧ k = 0 := by
  obtain ⟨h1, ⟨h2, h3⟩, h4, h5⟩ := mayF_iff.1 h
  unfold freeN at hn
  have hk : k = 0 := by
    by_cases hk : 0 < k
    · rw [if_pos hk] at hn; omega
    · omega
  subst hk
  have hl : ls = [] := List.eq_nil_of_length_eq_zero (by omega)
  subst hl
  have hq : q = 0 := by omega
  subst hq
  exact ⟨rfl, rfl, rfl, rfl⟩

/-! ### indented, outdented -/
theorem indent_back {q k : Int} {ls : IRow} {cs : Row} {L : Ln} (hq : 0 ≤ q) (h : indentS ⟨q, ls, k, cs⟩ = (0, L)) : outdentS L = (0, ⟨q, ls, k, cs⟩) := by
  unfold indentS at h
  dsimp only at h
  split at h
  · have h7 : (7 : Int) = 0 := congrArg Prod.fst h
    omega
  · split at h
    · have e := (congrArg Prod.snd h).symm
      dsimp only at e
      subst e
      unfold outdentS
      dsimp only
      rw [if_pos (by simp)]
      simp
    · rename_i hl
      have e := (congrArg Prod.snd h).symm
      dsimp only at e
      subst e
      unfold outdentS
      dsimp only
      rw [if_neg hl, if_pos (by omega)]
      simp
/-- Indented so often. -/
def indN (q : Int) (ls : IRow) (k : Int) (cs : Row) (i : Nat) : Ln := if ls = [] then ⟨q + i, [], k, cs⟩ else ⟨q, ls ++ List.replicate i ls[ls.length - 1]!, k, cs⟩
def indM (q : Int) (ls : IRow) : Nat := if 0 < ls.length then 6 - ls.length else (6 - q).toNat
theorem indN_zero (q : Int) (ls : IRow) (k : Int) (cs : Row) : indN q ls k cs 0 = ⟨q, ls, k, cs⟩ := by
  unfold indN
  split
  · rename_i h; subst h; simp
  · simp
theorem last_more (ls : IRow) (h : ls ≠ []) (i : Nat) : (ls ++ List.replicate i ls[ls.length - 1]!)[(ls ++ List.replicate i ls[ls.length - 1]!).length - 1]! = ls[ls.length - 1]! := by
  have hl : 0 < ls.length := List.length_pos_iff.2 h
  cases i with
  | zero => simp
  | succ i =>
    rw [List.getElem!_eq_getElem?_getD, List.getElem?_append_right (by rw [List.length_append, List.length_replicate]; omega), List.getElem?_replicate, if_pos (by rw [List.length_append, List.length_replicate]; omega)]
    rfl
theorem indN_step {q k : Int} {ls : IRow} {cs : Row} (h : mayF q ls k = true) {i : Nat} (hi : i < indM q ls) : indentS (indN q ls k cs i) = (0, indN q ls k cs (i + 1)) := by
  obtain ⟨h1, ⟨h2, h3⟩, h4, h5⟩ := mayF_iff.1 h
  unfold indM at hi
  unfold indN
  by_cases hl : ls = []
  · subst hl
    rw [if_neg (by decide)] at hi
    rw [if_pos rfl, if_pos rfl]
    unfold indentS
    dsimp only
    rw [if_neg (by intro h; rcases h with h | h; exact absurd h (by decide); have := h.2; omega), if_neg (by decide)]
    refine congrArg (Prod.mk 0) ?_
    show Ln.mk _ _ _ _ = Ln.mk _ _ _ _
    congr 1
    omega
  · have hp : 0 < ls.length := List.length_pos_iff.2 hl
    rw [if_pos hp] at hi
    rw [if_neg hl, if_neg hl]
    unfold indentS
    dsimp only
    have e1 : (ls ++ List.replicate i ls[ls.length - 1]!).length = ls.length + i := by simp
    rw [if_neg (by rw [e1]; omega), if_pos (by rw [e1]; omega), last_more ls hl i]
    refine congrArg (Prod.mk 0) ?_
    show Ln.mk _ _ _ _ = Ln.mk _ _ _ _
    congr 1
    rw [List.append_assoc, List.replicate_succ']
theorem indN_end {q k : Int} {ls : IRow} {cs : Row} (h : mayF q ls k = true) : indentS (indN q ls k cs (indM q ls)) = (7, ln0) := by
  obtain ⟨h1, ⟨h2, h3⟩, h4, h5⟩ := mayF_iff.1 h
  unfold indN
  by_cases hl : ls = []
  · subst hl
    have e : indM q [] = (6 - q).toNat := rfl
    rw [e, if_pos rfl]
    unfold indentS
    dsimp only
    rw [if_pos (.inr ⟨rfl, by omega⟩)]
  · have hp : 0 < ls.length := List.length_pos_iff.2 hl
    have e : indM q ls = 6 - ls.length := by unfold indM; rw [if_pos hp]
    rw [e, if_neg hl]
    unfold indentS
    dsimp only
    rw [if_pos (.inl (by rw [List.length_append, List.length_replicate]; omega))]
theorem indN_back {q k : Int} {ls : IRow} {cs : Row} (h : mayF q ls k = true) (i : Nat) : outdentS (indN q ls k cs (i + 1)) = (0, indN q ls k cs i) := by
  obtain ⟨h1, ⟨h2, h3⟩, h4, h5⟩ := mayF_iff.1 h
  unfold indN
  by_cases hl : ls = []
  · subst hl
    rw [if_pos rfl, if_pos rfl]
    unfold outdentS
    dsimp only
    rw [if_neg (by decide), if_pos (by omega)]
    refine congrArg (Prod.mk 0) ?_
    show Ln.mk _ _ _ _ = Ln.mk _ _ _ _
    congr 1
    omega
  · rw [if_neg hl, if_neg hl]
    unfold outdentS
    dsimp only
    rw [if_pos (by rw [List.length_append, List.length_replicate]; omega)]
    refine congrArg (Prod.mk 0) ?_
    show Ln.mk _ _ _ _ = Ln.mk _ _ _ _
    congr 1
    rw [List.replicate_succ', ← List.append_assoc]
    generalize List.replicate i ls[ls.length - 1]! = m
    rw [List.length_append, List.length_singleton, Nat.add_sub_cancel, List.take_left]
theorem indN_may {q k : Int} {ls : IRow} {cs : Row} (h : mayF q ls k = true) {i : Nat} (hi : i ≤ indM q ls) : mayF (indN q ls k cs i).q (indN q ls k cs i).ls (indN q ls k cs i).k = true ∧ (indN q ls k cs i).cs = cs := by
  obtain ⟨h1, ⟨h2, h3⟩, h4, h5⟩ := mayF_iff.1 h
  unfold indM at hi
  unfold indN
  by_cases hl : ls = []
  · subst hl
    rw [if_neg (by decide)] at hi
    rw [if_pos rfl]
    have g : 0 ≤ q + (i : Int) ∧ q + (i : Int) ≤ 6 := by omega
    exact ⟨mayF_iff.2 ⟨g, ⟨h2, h3⟩, h4, h5⟩, rfl⟩
  · have hp : 0 < ls.length := List.length_pos_iff.2 hl
    rw [if_pos hp] at hi
    rw [if_neg hl]
    refine ⟨mayF_iff.2 ⟨h1, ⟨by simp; omega, fun z hz => ?_⟩, h4, fun _ => h5 hl⟩, rfl⟩
    rcases List.mem_append.1 hz with hz | hz
    · exact h3 z hz
    · rw [(List.mem_replicate.1 hz).2]
      exact h3 _ (last_mem hp)

end Go.Proofs.YtmlipcedkgfmiaaDoor
