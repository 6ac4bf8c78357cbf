/-
  What follows of styles: on bytes and bits alone.
-/
import Derived.Test.YthoinlapopongaaDoorBits
namespace Go.Proofs.YthoinlapopongaaDoor
open Go.RowKit Go.Lib

/-! ### Bits -/
theorem over_nothing (z : B64) : overS z 0#64 0#64 = z := by
  apply BitVec.eq_of_getLsbD_eq
  intro i hi
  unfold overS
  simp only [BitVec.getLsbD_or, BitVec.getLsbD_and, BitVec.getLsbD_not, BitVec.getLsbD_zero, hi, decide_true, Bool.not_false, Bool.and_true, Bool.or_false]
theorem over_over (z s c s' c' : B64) : overS (overS z s c) s' c' = overS z (overS s s' c') (overS c c' s') := by
  apply BitVec.eq_of_getLsbD_eq
  intro i hi
  unfold overS
  simp only [BitVec.getLsbD_or, BitVec.getLsbD_and, BitVec.getLsbD_not, hi, decide_true, Bool.true_and]
  generalize z.getLsbD i = a
  generalize s.getLsbD i = b
  generalize c.getLsbD i = d
  generalize s'.getLsbD i = e
  generalize c'.getLsbD i = f
  revert a b d e f
  decide
/-- No bit is both set and cleared; there are no others than four. -/
def Tame (z : B64 × B64) : Prop := z.1 &&& z.2 = 0#64 ∧ (z.1 ||| z.2) &&& ~~~15#64 = 0#64
theorem tame_step {z d : B64 × B64} (hz : Tame z) (hd : Tame d) : Tame (overS z.1 d.1 d.2, overS z.2 d.2 d.1) := by
  obtain ⟨x, y⟩ := z
  obtain ⟨s, c⟩ := d
  obtain ⟨h1, h2⟩ := hz
  obtain ⟨k1, k2⟩ := hd
  dsimp only at h1 h2 k1 k2
  have bit : ∀ {a : B64}, a = 0#64 → ∀ i, a.getLsbD i = false := fun h i => by rw [h]; simp
  refine ⟨?_, ?_⟩
  all_goals
    apply BitVec.eq_of_getLsbD_eq
    intro i hi
    have a1 := bit h1 i
    have a2 := bit h2 i
    have b1 := bit k1 i
    have b2 := bit k2 i
    unfold overS
    simp only [BitVec.getLsbD_or, BitVec.getLsbD_and, BitVec.getLsbD_not, BitVec.getLsbD_zero, hi, decide_true, Bool.true_and] at a1 a2 b1 b2 ⊢
    generalize x.getLsbD i = p1 at *
    generalize y.getLsbD i = p2 at *
    generalize s.getLsbD i = p3 at *
    generalize c.getLsbD i = p4 at *
    generalize (15#64).getLsbD i = p5 at *
    revert a1 a2 b1 b2
    revert p1 p2 p3 p4 p5
    decide

/-! ### What declarations say -/
theorem tame_one (bit : B64) (v word : ByteArray) (hb : bit &&& ~~~15#64 = 0#64) : Tame (oneS bit v word) := by
  unfold oneS Tame
  split
  · exact ⟨by simp, by simpa using hb⟩
  · split
    · exact ⟨by simp, by simpa using hb⟩
    · exact ⟨by simp, by simp⟩
theorem strokeS_some (v : ByteArray) : strokeS v = 0#64 ∨ strokeS v = 4#64 ∨ strokeS v = 8#64 := by
  unfold strokeS; split
  · exact .inr (.inl rfl)
  · split
    · exact .inr (.inr rfl)
    · exact .inl rfl
theorem strokesOf_some (l : List ByteArray) : strokesOf l = 0#64 ∨ strokesOf l = 4#64 ∨ strokesOf l = 8#64 ∨ strokesOf l = 12#64 := by
  have gen : ∀ (l : List ByteArray) (z : B64), (z = 0#64 ∨ z = 4#64 ∨ z = 8#64 ∨ z = 12#64) →
      (l.foldl (fun a v => a ||| strokeS v) z = 0#64 ∨ l.foldl (fun a v => a ||| strokeS v) z = 4#64 ∨ l.foldl (fun a v => a ||| strokeS v) z = 8#64 ∨ l.foldl (fun a v => a ||| strokeS v) z = 12#64) := by
    intro l
    induction l with
    | nil => intro z h; exact h
    | cons v l ih =>
      intro z h
      rw [List.foldl_cons]
      apply ih
      rcases h with rfl | rfl | rfl | rfl <;> rcases strokeS_some v with k | k | k <;> rw [k] <;> decide
  exact gen l 0#64 (.inl rfl)
theorem tame_strokes (v : ByteArray) : Tame (strokesS v) := by
  unfold strokesS Tame
  split
  · decide
  · split
    · decide
    · dsimp only
      rcases strokesOf_some (wordsS v) with h | h | h | h <;> rw [h] <;> decide
theorem tame_told (p v : ByteArray) : Tame (toldS p v) := by
  unfold toldS
  split
  · exact tame_one _ _ _ (by decide)
  · split
    · exact tame_one _ _ _ (by decide)
    · split
      · exact tame_strokes v
      · exact ⟨by simp, by simp⟩
theorem tame_fold (l : List (ByteArray × ByteArray)) : Tame (foldS l) := by
  have gen : ∀ (l : List (ByteArray × ByteArray)) (z : B64 × B64), Tame z → Tame (l.foldl stepS z) := by
    intro l
    induction l with
    | nil => intro z h; exact h
    | cons d l ih => intro z h; exact ih _ (tame_step h (tame_told d.1 d.2))
  exact gen l _ ⟨by simp, by simp⟩
theorem tame_parse (s : ByteArray) : Tame (parseS s) := tame_fold _

theorem foldS_append (l m : List (ByteArray × ByteArray)) : foldS (l ++ m) = (overS (foldS l).1 (foldS m).1 (foldS m).2, overS (foldS l).2 (foldS m).2 (foldS m).1) := by
  have gen : ∀ (m : List (ByteArray × ByteArray)) (z x : B64 × B64),
      m.foldl stepS (overS z.1 x.1 x.2, overS z.2 x.2 x.1) = (overS z.1 (m.foldl stepS x).1 (m.foldl stepS x).2, overS z.2 (m.foldl stepS x).2 (m.foldl stepS x).1) := by
    intro m
    induction m with
    | nil => intro z x; rfl
    | cons d m ih =>
      intro z x
      rw [List.foldl_cons, List.foldl_cons]
      have e : stepS (overS z.1 x.1 x.2, overS z.2 x.2 x.1) d = (overS z.1 (stepS x d).1 (stepS x d).2, overS z.2 (stepS x d).2 (stepS x d).1) := by
        unfold stepS
        dsimp only
        rw [over_over, over_over]
      rw [e, ih]
  unfold foldS
  rw [List.foldl_append]
  have := gen m (l.foldl stepS (0#64, 0#64)) (0#64, 0#64)
  rw [over_nothing, over_nothing] at this
  exact this
theorem foldS_nothing {d : ByteArray × ByteArray} (h : toldS d.1 d.2 = (0#64, 0#64)) : foldS [d] = (0#64, 0#64) := by
  unfold foldS stepS
  rw [List.foldl_cons, List.foldl_nil, h, over_nothing]

/-! ### Parts -/
theorem declsB_append (s t : List UInt8) : declsB (s ++ 59 :: t) = declsB s ++ declsB t := by
  unfold declsB; rw [partsB_append, List.filterMap_append]
/-- A text cut at its first colon. -/
def cutB : List UInt8 → Option (List UInt8 × List UInt8)
  | [] => none
  | b :: t => if b = 58 then some ([], t) else (cutB t).map fun z => (b :: z.1, z.2)
theorem index_colon_cons (b : UInt8) (t : List UInt8) : index (b :: t) [58] = if b = 58 then 0 else if index t [58] = -1 then -1 else index t [58] + 1 := by
  rw [index]
  by_cases h : b = 58
  · subst h; simp
  · have : ([58] : List UInt8).isPrefixOf (b :: t) = false := by
      simp [List.isPrefixOf, Ne.symm h]
    rw [this, if_neg h]
    simp
theorem cut_is : ∀ l : List UInt8, cut l [58] = (match cutB l with | some (p, q) => (p, q, true) | none => (l, [], false))
  | [] => by simp [cut, index, cutB]
  | b :: t => by
    have ih := cut_is t
    have hge := index_ge t [58]
    unfold cut at ih ⊢
    rw [index_colon_cons]
    unfold cutB
    by_cases h : b = 58
    · subst h; simp
    · rw [if_neg h, if_neg h]
      by_cases hi : index t [58] = -1
      · rw [if_pos hi]
        rw [hi] at ih
        cases hc : cutB t with
        | none => simp
        | some z => rw [hc] at ih; simp at ih
      · rw [if_neg hi]
        have h0 : 0 ≤ index t [58] := by omega
        rw [if_pos h0] at ih
        rw [if_pos (by omega)]
        cases hc : cutB t with
        | none => rw [hc] at ih; simp at ih
        | some z =>
          rw [hc] at ih
          simp only [Prod.mk.injEq, and_true] at ih
          have e : (index t [58] + 1).toNat = (index t [58]).toNat + 1 := by omega
          rw [e, List.take_succ_cons, ih.1]
          have e2 : (b :: t).drop ((index t [58]).toNat + 1 + ([58] : List UInt8).length) = z.2 := by
            rw [← ih.2, Nat.add_right_comm, List.drop_succ_cons]
          rw [e2]
          rfl
theorem declB_is (l : List UInt8) : declB l = (cutB l).map fun z => ((⟨(plainB z.1).toArray⟩ : ByteArray), (⟨(plainB z.2).toArray⟩ : ByteArray)) := by
  unfold declB
  rw [cut_is]
  cases cutB l with
  | none => rfl
  | some z => rfl

theorem trimRight_lead (l : List UInt8) : trimRightB (32 :: l) 32 = if trimRightB l 32 = [] then [] else 32 :: trimRightB l 32 := by
  unfold trimRightB
  rw [List.reverse_cons, List.dropWhile_append]
  by_cases h : (l.reverse.dropWhile (fun x => x == 32)).isEmpty
  · rw [if_pos h]
    have h2 : l.reverse.dropWhile (fun x => x == 32) = [] := by simpa using h
    rw [h2]; simp
  · rw [if_neg h]
    have h2 : l.reverse.dropWhile (fun x => x == 32) ≠ [] := by simpa using h
    rw [if_neg (by simpa using h2)]
    simp
theorem plain_lead (l : List UInt8) : plainB (32 :: l) = plainB l := by
  unfold plainB trimB
  rw [trimRight_lead]
  split
  · rename_i h; rw [h]
  · congr 1
theorem plain_trail (l : List UInt8) : plainB (l ++ [32]) = plainB l := by
  unfold plainB trimB trimRightB
  rw [List.reverse_append]
  rfl
theorem cutB_lead (l : List UInt8) : cutB (32 :: l) = (cutB l).map fun z => (32 :: z.1, z.2) := by
  rw [cutB, if_neg (by decide)]
theorem cutB_trail : ∀ l : List UInt8, cutB (l ++ [32]) = (cutB l).map fun z => (z.1, z.2 ++ [32])
  | [] => rfl
  | b :: t => by
    rw [List.cons_append, cutB, cutB, cutB_trail t]
    split
    · rfl
    · cases cutB t <;> rfl
theorem decl_lead (l : List UInt8) : declB (32 :: l) = declB l := by
  rw [declB_is, declB_is, cutB_lead]
  cases cutB l with
  | none => rfl
  | some z => simp only [Option.map_some, plain_lead]
theorem decl_trail (l : List UInt8) : declB (l ++ [32]) = declB l := by
  rw [declB_is, declB_is, cutB_trail]
  cases cutB l with
  | none => rfl
  | some z => simp only [Option.map_some, plain_trail]
theorem decls_lead (l : List UInt8) : declsB (32 :: l) = declsB l := by
  unfold declsB
  rw [partsB_cons, if_neg (by decide)]
  conv => rhs; rw [← partsB_eq 59 l]
  rw [List.filterMap_cons, List.filterMap_cons, decl_lead]
theorem parts_trail : ∀ l : List UInt8, ∃ init last, partsB 59 l = init ++ [last] ∧ partsB 59 (l ++ [32]) = init ++ [last ++ [32]]
  | [] => ⟨[], [], rfl, rfl⟩
  | b :: t => by
    obtain ⟨init, last, h1, h2⟩ := parts_trail t
    rw [List.cons_append, partsB_cons, partsB_cons, h1, h2]
    by_cases h : b = 59
    · rw [if_pos h, if_pos h]; exact ⟨[] :: init, last, rfl, rfl⟩
    · rw [if_neg h, if_neg h]
      cases init with
      | nil => exact ⟨[], b :: last, rfl, rfl⟩
      | cons a r => exact ⟨(b :: a) :: r, last, rfl, rfl⟩
theorem decls_trail (l : List UInt8) : declsB (l ++ [32]) = declsB l := by
  obtain ⟨init, last, h1, h2⟩ := parts_trail l
  unfold declsB
  rw [h1, h2, List.filterMap_append, List.filterMap_append]
  congr 1
  rw [List.filterMap_cons, List.filterMap_cons, decl_trail]

theorem parse_list {s : ByteArray} {l : List UInt8} (h : s.data.toList = l) : parseS s = foldS (declsB l) := by unfold parseS; rw [h]
/-- Two styles, parted by a semicolon. -/
theorem parse_two (s t : ByteArray) : parseS (s ++ ⟨#[59]⟩ ++ t) = (overS (parseS s).1 (parseS t).1 (parseS t).2, overS (parseS s).2 (parseS t).2 (parseS t).1) := by
  rw [parse_list (s := s ++ ⟨#[59]⟩ ++ t) (l := s.data.toList ++ 59 :: t.data.toList) (by rw [append_list, append_list]; simp)]
  rw [declsB_append, foldS_append]
  rfl
/-- Blanks around, and what says nothing. -/
theorem parse_around (s : ByteArray) : parseS (⟨#[32, 59, 120, 59, 58, 32, 59, 32]⟩ ++ s ++ ⟨#[32, 59, 32, 99, 111, 108, 111, 114, 58, 32, 114, 101, 100, 59]⟩) = parseS s := by
  rw [parse_list (l := [32] ++ 59 :: ([120] ++ 59 :: ([58, 32] ++ 59 :: ((32 :: (s.data.toList ++ [32])) ++ 59 :: [32, 99, 111, 108, 111, 114, 58, 32, 114, 101, 100, 59])))) (by rw [append_list, append_list]; simp)]
  rw [declsB_append, declsB_append, declsB_append, declsB_append, decls_lead (s.data.toList ++ [32]), decls_trail]
  have e1 : declsB [32] = [] := by decide +kernel
  have e2 : declsB [120] = [] := by decide +kernel
  have e3 : declsB [58, 32] = [(⟨#[]⟩, ⟨#[]⟩)] := by decide +kernel
  have e4 : declsB [32, 99, 111, 108, 111, 114, 58, 32, 114, 101, 100, 59] = [(⟨#[99, 111, 108, 111, 114]⟩, ⟨#[114, 101, 100]⟩)] := by decide +kernel
  rw [e1, e2, e3, e4, List.nil_append, List.nil_append, foldS_append, foldS_append, foldS_nothing (by decide +kernel), foldS_nothing (by decide +kernel)]
  dsimp only
  rw [over_nothing, over_nothing]
  have z : ∀ a b : B64, overS 0#64 a b = a := fun a b => by unfold overS; simp
  rw [z, z]
  rfl

end Go.Proofs.YthoinlapopongaaDoor
