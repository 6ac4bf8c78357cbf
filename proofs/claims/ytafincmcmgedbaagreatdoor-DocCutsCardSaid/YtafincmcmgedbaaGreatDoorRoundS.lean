/-
  Within a round: a region that draws its order, of operations that read, and of some at its end that stand in one order: walked once.
-/
import Derived.StillTailTactics
import Derived.OrdersIn
import Derived.OwnWalkIn
import Derived.RangeFuncCalls
namespace Go.Proofs.YtafincmcmgedbaaGreatDoor
open Go

theorem rowsIn_wide' {n : Nat} {P : Program} {row : String} {args : Array Value} {w : World} {R : Value → World → Prop} (h : Rows P row args w R) : RowsIn Fence.wide n P row args w R := by
  intro c cs _
  obtain ⟨v, w', r, s⟩ := h c cs
  exact ⟨v, w', r, stepsIn_wide.2 s⟩
theorem opIn_of_op {l n : Nat} {P : Program} {o : Oper} {a : Act} {w : World} {K : Act → World → Prop} {Q : Exit → Act → World → Prop} (hd : ∀ c, o.op ≠ .defer c) (h : o.wp P a w K Q) : o.wpIn (Fence.wide.inRound l) n P a w K Q := by
  refine ⟨fun _ _ => trivial, ?_⟩
  rw [Oper.semAt_eq _ _ _ hd]
  unfold Oper.wp at h
  generalize (execOp a.eval o).run P w = r at *
  cases r with
  | ok x w' =>
    cases x <;> simp only [Oper.upon, Oper.uponIn] at h ⊢ <;>
      first
        | exact h
        | exact h.elim
        | exact ⟨fun h0 => (by simp [Fence.wide] at h0), (callsIn_wide.2 h : CallsIn Fence.wide (n - 1) P _ _ _ _)⟩
        | exact ⟨fun h0 => (by simp [Fence.wide] at h0), (rowsIn_wide' h : RowsIn Fence.wide (n - 1) P _ _ _ _)⟩
  | halt x w' => cases x <;> simp only [Oper.upon, Oper.uponIn] at h ⊢ <;> first | exact h | exact h.elim

theorem anyIn_of_any {l n : Nat} {P : Program} {md : Region.Mode} {ops : Array Oper} {Q : Exit → Act → World → Prop} (hd : ∀ (i : Nat) (o : Oper), ops[i]? = some o → ∀ c, o.op ≠ .defer c) (hQ : ¬ LetsOut Q) :
    ∀ (fuel : Nat) (listed : Array Bool) (a : Act) (w : World), wpAny P md ops Q fuel listed a w → wpAnyIn (Fence.wide.inRound l) n P md ops Q fuel listed a w
  | 0, _, _, _, h => h
  | fuel + 1, listed, a, w, h => by
    refine ⟨h.1, fun i hi => ?_⟩
    have h2 := h.2 i hi
    unfold wpOp at h2
    unfold wpOpIn
    cases ho : ops[i]? with
    | none =>
      simp only [ho] at h2 ⊢
      exact anyIn_of_any hd hQ fuel _ a w h2
    | some o =>
      simp only [ho] at h2 ⊢
      split
      · rename_i hw
        rw [if_pos hw] at h2
        rcases h2 with h2 | h2
        · exact Oper.wpIn_mono (fun a w h => anyIn_of_any hd hQ fuel _ a w h) (opIn_of_op (hd i o ho) h2)
        · exact (hQ h2.2).elim
      · rename_i hw
        rw [if_neg hw] at h2
        exact ⟨fun _ _ => trivial, anyIn_of_any hd hQ fuel _ _ w h2⟩

/-- No 'defer' among them. -/
def noDefer (l : List Oper) : Bool := l.all fun o => match o.op with | .defer _ => false | _ => true
theorem noDefer_spec {l : List Oper} (h : noDefer l = true) : ∀ (i : Nat) (o : Oper), l.toArray[i]? = some o → ∀ c, o.op ≠ .defer c := by
  intro i o ho c hc
  have hm : o ∈ l := by
    have := Array.mem_of_getElem? ho
    simpa using this
  have := (List.all_eq_true.1 h) o hm
  rw [hc] at this
  cases this

section
variable {P : Program} {md : Region.Mode} {w : World}
/-- t waits for s, at once or through others. -/
inductive Behind (md : Region.Mode) (ops : Array Oper) : Nat → Nat → Prop
  | one {t s : Nat} : Region.waitsFor md ops t s = true → Behind md ops t s
  | far {t m s : Nat} : Behind md ops t m → Region.waitsFor md ops m s = true → Behind md ops t s
/-- Where what is listed waits for listed ones alone, what is ready has all behind it listed. -/
theorem behind_listed {ops : Array Oper} {listed : Array Bool} (hcl : ∀ m s, listed.getD m false = true → Region.waitsFor md ops m s = true → listed.getD s false = true) {t s : Nat} (hr : t ∈ Region.ready md ops listed) (h : Behind md ops t s) : listed.getD s false = true := by
  induction h with
  | one h =>
    obtain ⟨_, ot, hot, hall⟩ := mem_ready.1 hr
    obtain ⟨o', ho', e, he, hb, hon⟩ := Region.waitsFor_spec h
    rw [hot] at ho'
    cases ho'
    exact hon ▸ hall e he hb
  | far _ h ih => exact hcl _ _ ih h
theorem behind_far {ops : Array Oper} {t m s : Nat} (h : Behind md ops t m) (h2 : Behind md ops m s) : Behind md ops t s := by
  induction h2 with
  | one h3 => exact .far h h3
  | far _ h3 ih => exact .far ih h3
/-- Each of the first n is waited for on the way to the n-th. -/
theorem behind_head {ops : Array Oper} {n : Nat} (hs : Region.sinkB md ops n = true) : ∀ d i, n - i = d → i < n → Behind md ops n i := by
  intro d
  induction d using Nat.strongRecOn with
  | _ d ih =>
    intro i hd hi
    obtain ⟨j, hj, hj2⟩ := List.any_eq_true.1 (List.all_eq_true.1 hs i (List.mem_range.2 hi))
    simp only [Bool.and_eq_true, decide_eq_true_eq] at hj2
    have hjn := List.mem_range.1 hj
    rcases Nat.lt_or_ge j n with h | h
    · exact .far (ih (n - j) (by omega) j rfl h) hj2.2
    · obtain rfl : j = n := by omega
      exact .one hj2.2
/-- Each operation behind the n-th waits for one from there on. -/
def behindB (md : Region.Mode) (ops : Array Oper) (n : Nat) : Bool :=
  (List.range ops.size).all fun t => decide (t ≤ n) || (List.range t).any fun s => decide (n ≤ s) && Region.waitsFor md ops t s
theorem behind_tail {ops : Array Oper} {n : Nat} (hc : behindB md ops n = true) : ∀ t, n < t → t < ops.size → Behind md ops t n := by
  intro t
  induction t using Nat.strongRecOn with
  | _ t ih =>
    intro h1 h2
    have h3 := List.all_eq_true.1 hc t (List.mem_range.2 h2)
    simp only [Bool.or_eq_true, decide_eq_true_eq] at h3
    rcases h3 with h3 | h3
    · omega
    · obtain ⟨s, hs1, hs2⟩ := List.any_eq_true.1 h3
      simp only [Bool.and_eq_true, decide_eq_true_eq] at hs2
      have hst := List.mem_range.1 hs1
      rcases Nat.eq_or_lt_of_le hs2.1 with h4 | h4
      · exact h4 ▸ .one hs2.2
      · exact behind_far (.one hs2.2) (ih s hst h4 (by omega))
/-- The first n operations are bare, and wait for earlier ones alone. -/
def headB (md : Region.Mode) (l : List Oper) (n : Nat) : Bool :=
  (List.range n).all fun i => match l[i]? with
    | none => false
    | some o => o.guard.isNone && o.after.all fun e => !Region.binds md e || decide (e.on < i)
/-- What is listed of the whole, and of the first n alone. -/
structure Sim (md : Region.Mode) (l : List Oper) (n : Nat) (S listed : Array Bool) : Prop where
  ss : S.size = n
  sl : listed.size = l.length
  lo : ∀ i, i < n → listed[i]? = S[i]?
  hi : ∀ t, n ≤ t → t < l.length → listed[t]? = some false
  cl : ∀ m s, listed.getD m false = true → Region.waitsFor md l.toArray m s = true → listed.getD s false = true
/-- The first n have been listed, and no other. -/
def headA (N n : Nat) : Array Bool := (List.replicate n true ++ List.replicate (N - n) false).toArray

theorem getD_of (A : Array Bool) (i : Nat) (d : Bool) : A.getD i d = (A[i]?).getD d := by
  rw [Array.getD_eq_getD_getElem?]
theorem any_more {ops : Array Oper} {Q : Exit → Act → World → Prop} : ∀ (f k : Nat) (listed : Array Bool) (a : Act) (w : World), wpAny P md ops Q f listed a w → wpAny P md ops Q (f + k) listed a w
  | 0, 0, _, _, _, h => h
  | 0, k + 1, _, _, _, h => by rw [Nat.zero_add]; exact ⟨fun _ => h.2, fun i hi => by rw [h.1] at hi; cases hi⟩
  | f + 1, k, _, _, _, h => by
    rw [show f + 1 + k = (f + k) + 1 by omega]
    exact ⟨h.1, fun i hi => wpOp_mono (fun a w h => any_more f k _ a w h) (h.2 i hi)⟩

theorem sim_ready {l : List Oper} {n : Nat} {S listed : Array Bool} (_hn : n ≤ l.length) (hh : headB md l n = true) (h : Sim md l n S listed) {i : Nat} (hi : i < n) : i ∈ Region.ready md l.toArray listed ↔ i ∈ Region.ready md (l.take n).toArray S := by
  have h1 := List.all_eq_true.1 hh i (List.mem_range.2 hi)
  have hoi : l.toArray[i]? = l[i]? := by simp
  have hoi2 : (l.take n).toArray[i]? = l[i]? := by simp [hi]
  rw [mem_ready, mem_ready, hoi, hoi2, getD_of, getD_of, h.lo i hi]
  have hd : ∀ o, l[i]? = some o → ∀ e ∈ o.after, Region.binds md e = true → e.on < n := fun o ho e he hb => by
    rw [ho] at h1
    simp only [Bool.and_eq_true] at h1
    have h2 := (Array.all_eq_true'.1 h1.2) e he
    rw [hb] at h2
    simp only [Bool.not_true, Bool.false_or, decide_eq_true_eq] at h2
    omega
  refine and_congr_right (fun _ => exists_congr (fun o => and_congr_right (fun ho => forall_congr' (fun e => forall_congr' (fun he => forall_congr' (fun hb => ?_))))))
  rw [getD_of, getD_of, h.lo _ (hd o ho e he hb)]
theorem sim_set {l : List Oper} {n : Nat} {S listed : Array Bool} (h : Sim md l n S listed) {i : Nat} (hi : i < n) (hr : i ∈ Region.ready md l.toArray listed) : Sim md l n (S.setIfInBounds i true) (listed.setIfInBounds i true) := by
  refine ⟨by simp [h.ss], by simp [h.sl], fun j hj => ?_, fun t ht htl => ?_, fun m s hm hw => ?_⟩
  · rw [Array.getElem?_setIfInBounds, Array.getElem?_setIfInBounds, h.lo j hj]
    by_cases e : i = j
    · subst e
      obtain ⟨_, oi, hoi, _⟩ := mem_ready.1 hr
      have := (Array.getElem?_eq_some_iff.1 hoi).1
      have h2 : i < listed.size := by rw [h.sl]; simpa using this
      have h3 : i < S.size := by rw [h.ss]; exact hi
      simp [h2, h3]
    · simp [e]
  · rw [Array.getElem?_setIfInBounds, if_neg (by omega)]; exact h.hi t ht htl
  · obtain ⟨_, oi, hoi, hall⟩ := mem_ready.1 hr
    have key : listed.getD s false = true → (listed.setIfInBounds i true).getD s false = true := fun hs => by
      rw [getD_of] at hs ⊢
      rw [Array.getElem?_setIfInBounds]
      split
      · rename_i e
        subst e
        cases hl : listed[i]? with
        | none => rw [hl] at hs; cases hs
        | some b => simp [(Array.getElem?_eq_some_iff.1 hl).1]
      · exact hs
    refine key ?_
    by_cases e : m = i
    · subst e
      obtain ⟨o', ho', e', he', hb', hon⟩ := Region.waitsFor_spec hw
      rw [hoi] at ho'
      cases ho'
      exact hon ▸ hall e' he' hb'
    · refine h.cl m s ?_ hw
      rw [getD_of] at hm ⊢
      rwa [Array.getElem?_setIfInBounds, if_neg (fun h => e h.symm)] at hm

theorem lift_head {l : List Oper} {n g : Nat} {Lq : Act → Prop} {Q' : Exit → Act → World → Prop} (hn : n < l.length) (hh : headB md l n = true) (hs : Region.sinkB md l.toArray n = true) (hc : behindB md l.toArray n = true)
    (hL : ∀ a, Lq a → wpAny P md l.toArray Q' g (headA l.length n) a w) :
    ∀ (f : Nat) (S listed : Array Bool) (a : Act), Sim md l n S listed → wpAnyS P md (l.take n).toArray w Lq f S a → wpAny P md l.toArray Q' (f + g) listed a w := by
  -- where none of the first n is ready, all of them are listed
  have hall : ∀ S listed, Sim md l n S listed → Region.ready md (l.take n).toArray S = [] → listed = headA l.length n := by
    intro S listed h h0
    have h1 : ∀ i, i < n → listed[i]? = some true := by
      intro i
      induction i using Nat.strongRecOn with
      | _ i ih =>
        intro hi
        have h2 := List.all_eq_true.1 hh i (List.mem_range.2 hi)
        cases hb : listed[i]? with
        | none =>
          rw [Array.getElem?_eq_none_iff, h.sl] at hb
          omega
        | some b =>
          cases b with
          | true => rfl
          | false =>
            exfalso
            have h3 : i ∈ Region.ready md l.toArray listed := by
              cases ho : l[i]? with
              | none => rw [ho] at h2; cases h2
              | some o =>
                refine mem_ready.2 ⟨by rw [getD_of, hb]; rfl, o, by simpa using ho, fun e he hb => ?_⟩
                rw [ho] at h2
                simp only [Bool.and_eq_true] at h2
                have h4 := (Array.all_eq_true'.1 h2.2) e he
                rw [hb] at h4
                simp only [Bool.not_true, Bool.false_or, decide_eq_true_eq] at h4
                rw [getD_of, ih e.on h4 (by omega)]; rfl
            rw [sim_ready (Nat.le_of_lt hn) hh h hi, h0] at h3
            cases h3
    apply Array.ext_getElem?
    intro i
    have e : ∀ L : List Bool, L.toArray[i]? = L[i]? := fun L => by simp
    unfold headA
    rw [e (List.replicate n true ++ List.replicate (l.length - n) false)]
    rcases Nat.lt_or_ge i n with hi | hi
    · rw [h1 i hi, List.getElem?_append_left (by simpa using hi), List.getElem?_replicate, if_pos hi]
    · rw [List.getElem?_append_right (by simpa using hi), List.length_replicate, List.getElem?_replicate]
      rcases Nat.lt_or_ge i l.length with h2 | h2
      · rw [h.hi i hi h2, if_pos (by omega)]
      · rw [if_neg (by omega), Array.getElem?_eq_none_iff, h.sl]; exact h2
  have hlow : ∀ S listed, Sim md l n S listed → Region.ready md (l.take n).toArray S ≠ [] → ∀ i ∈ Region.ready md l.toArray listed, i < n := by
    intro S listed h h0 i hi
    rcases Nat.lt_or_ge i n with hin | hin
    · exact hin
    · exfalso
      obtain ⟨_, oi, hoi, _⟩ := mem_ready.1 hi
      have hil : i < l.toArray.size := (Array.getElem?_eq_some_iff.1 hoi).1
      obtain ⟨j, hj⟩ := List.exists_mem_of_ne_nil _ h0
      obtain ⟨hj0, oj, hoj, _⟩ := mem_ready.1 hj
      have hjn : j < n := by have := (Array.getElem?_eq_some_iff.1 hoj).1; simp at this; omega
      have hb : Behind md l.toArray i j := by
        have h1 := behind_head (md := md) hs (n - j) j rfl hjn
        rcases Nat.eq_or_lt_of_le hin with h2 | h2
        · exact h2 ▸ h1
        · exact behind_far (behind_tail hc i h2 hil) h1
      have h2 := behind_listed h.cl hi hb
      rw [getD_of, h.lo j hjn] at h2
      rw [getD_of] at hj0
      cases hS : S[j]? with
      | none => rw [hS] at h2; cases h2
      | some b => rw [hS] at h2 hj0; simp at h2 hj0; rw [h2] at hj0; cases hj0
  intro f
  induction f with
  | zero =>
    intro S listed a h hw
    rw [Nat.zero_add, hall S listed h hw.1]
    exact hL a hw.2
  | succ f ih =>
    intro S listed a h hw
    by_cases h0 : Region.ready md (l.take n).toArray S = []
    · rw [hall S listed h h0, Nat.add_comm]
      exact any_more g (f + 1) _ a w (hL a (hw.1 h0))
    · rw [show f + 1 + g = (f + g) + 1 by omega]
      refine ⟨fun h1 => ?_, fun i hi => ?_⟩
      · obtain ⟨j, hj⟩ := List.exists_mem_of_ne_nil _ h0
        obtain ⟨_, oj, hoj, _⟩ := mem_ready.1 hj
        have hjn : j < n := by have := (Array.getElem?_eq_some_iff.1 hoj).1; simp at this; omega
        rw [← sim_ready (Nat.le_of_lt hn) hh h hjn, h1] at hj
        cases hj
      · have hin := hlow S listed h h0 i hi
        have h1 := hw.2 i ((sim_ready (Nat.le_of_lt hn) hh h hin).1 hi)
        have hst : stOp P l.toArray w i (wpAnyS P md (l.take n).toArray w Lq f (S.setIfInBounds i true)) a := by
          have h2 := List.all_eq_true.1 hh i (List.mem_range.2 hin)
          unfold stOp at h1 ⊢
          rw [show (l.take n).toArray[i]? = l[i]? by simp [hin]] at h1
          rw [show l.toArray[i]? = l[i]? by simp]
          cases ho : l[i]? with
          | none => rw [ho] at h2; cases h2
          | some o =>
            rw [ho] at h1 h2
            simp only [Bool.and_eq_true, Option.isNone_iff_eq_none] at h2
            simp only at h1 ⊢
            simpa only [Region.wanted, h2.1] using h1
        exact wpOp_of_stOp (fun a' h' => ih _ _ a' (sim_set h hin hi) h') hst
/-- Head, one operation, rest. -/
def stillMidB (l : List Oper) (n : Nat) : Bool :=
  Region.noSelect l.toArray && decide (n < l.length) && Region.noSelect (l.take n).toArray && headB .any l n && Region.sinkB .any l.toArray n && behindB .any l.toArray n && Region.lexFrom .any (l.take n).toArray n 0 (Array.replicate n false) &&
    decide (Region.ready .any l.toArray (headA l.length n) = [n]) && Region.lexFrom .any l.toArray (l.length - (n + 1)) (n + 1) ((headA l.length n).setIfInBounds n true)
end
section
variable {P : Program} {ops : Array Oper}
theorem wpOp_then {Q' : Exit → Act → World → Prop} {K K' : Act → World → Prop} {i : Nat} {a : Act} {w : World} (h : wpOp P ops (Exit.then K Q') i K' a w) : wpOp P ops Q' i K' a w := by
  unfold wpOp at *
  cases ho : ops[i]? with
  | none => simpa only [ho] using h
  | some o =>
    simp only [ho] at h ⊢
    split
    · rename_i hw
      rw [if_pos hw] at h
      refine h.imp (fun h => ?_) (fun h => ⟨h.1, h.2⟩)
      unfold Oper.wp at *
      generalize (execOp a.eval o).run P w = r at *
      cases r with
      | ok n w' =>
        cases n <;> simp only [Oper.upon] at h ⊢ <;>
          first
            | exact h
            | exact Calls.mono h (fun e w'' he => by cases e <;> exact he)
            | exact Rows.mono h (fun _ _ he => he)
      | halt x w' => cases x <;> simp only [Oper.upon] at h ⊢ <;> exact h
    · rename_i hw
      rw [if_neg hw] at h
      exact h
end
theorem still_mono {P : Program} {ops : Array Oper} {w : World} {Q Q' : Act → Prop} (hQ : ∀ a, Q a → Q' a) : ∀ (l : List Oper) (a : Act), wpStill P ops w Q l a → wpStill P ops w Q' l a
  | [], a, h => hQ a h
  | o :: l, a, h => by
    unfold wpStill at h ⊢
    split
    · rename_i hw
      rw [if_pos hw] at h
      exact Oper.still_mono (fun a h => still_mono hQ l a h) h
    · rename_i hw
      rw [if_neg hw] at h
      exact still_mono hQ l _ h
theorem sim_start (md : Region.Mode) (l : List Oper) (n : Nat) (hn : n < l.length) : Sim md l n (Array.replicate n false) (Array.replicate l.length false) := by
  refine ⟨by simp, by simp, fun i hi => ?_, fun t _ htl => ?_, fun m s hm _ => ?_⟩
  · rw [Array.getElem?_replicate, Array.getElem?_replicate, if_pos hi, if_pos (by omega)]
  · rw [Array.getElem?_replicate, if_pos htl]
  · rw [getD_of, Array.getElem?_replicate] at hm
    split at hm <;> cases hm
theorem any_mid {P : Program} {Q : Exit → Act → World → Prop} {a : Act} {w : World} {l : List Oper} (n0 : Nat) (hB : stillMidB l n0 = true)
    (h : wpStill P (l.take n0).toArray w (fun a' => wpOp P l.toArray Q n0 (fun a2 w2 => wpStill P l.toArray w2 (fun a3 => Q .normal a3 w2) (l.drop (n0 + 1)) a2) a' w) (l.take n0) a) : wpAny P .any l.toArray Q l.length (Array.replicate l.length false) a w := by
  simp only [stillMidB, Bool.and_eq_true, decide_eq_true_eq] at hB
  obtain ⟨⟨⟨⟨⟨⟨⟨⟨hsel, hn⟩, hsel2⟩, hh⟩, hs⟩, hc⟩, hlex⟩, hrdy⟩, hlex2⟩ := hB
  have htl : (l.take n0).length = n0 := by simp; omega
  have hdl : (l.drop (n0 + 1)).length = l.length - (n0 + 1) := by simp
  have H := wpAnyS_lex (md := .any) hsel2 (l.take n0) 0 (Array.replicate n0 false) a (by simp) (by rw [htl]; exact hlex) h
  rw [htl] at H
  have := lift_head (md := .any) (g := l.length - (n0 + 1) + 1) (Q' := Q) hn hh hs hc (fun a' hL => by
    refine ⟨fun h3 => (by rw [hrdy] at h3; cases h3), fun i hi => ?_⟩
    rw [hrdy] at hi
    obtain rfl : i = n0 := by simpa using hi
    refine wpOp_mono (fun a2 w2 h3 => ?_) hL
    have h4 := wpAnyS_lex (md := .any) (w := w2) hsel (l.drop (i + 1)) (i + 1) ((headA l.length i).setIfInBounds i true) a2 (fun j => by simp [List.getElem?_drop]) (by rw [hdl]; exact hlex2) h3
    rw [hdl] at h4
    exact wpAny_of_still (fun _ h => h) _ _ _ h4) n0 _ _ a (sim_start .any l n0 hn) H
  rwa [show n0 + (l.length - (n0 + 1) + 1) = l.length by omega] at this
theorem wpIn_region_mid {n : Nat} {P : Program} {id y : Nat} {Q : Exit → Act → World → Prop} {a : Act} {w : World} {l : List Oper} (n0 : Nat) (hm : P.follows .mixedOrders = true) (hB : stillMidB l n0 = true) (hd : noDefer l = true) (hQ : ¬ LetsOut Q)
    (h : wpStill P (l.take n0).toArray { w with drawn := w.drawn + 1 } (fun a' => wpList P l.toArray (Exit.then (fun a2 w2 => wpStill P l.toArray w2 (fun a3 => Q .normal a3 w2) (l.drop (n0 + 1)) a2) Q) ((l.drop n0).take 1) a' { w with drawn := w.drawn + 1 }) (l.take n0) a) : (Code.region id l.toArray true).wpIn (Fence.wide.inRound y) n P Q a w := by
  have hn : n0 < l.length := by
    simp only [stillMidB, Bool.and_eq_true, decide_eq_true_eq] at hB
    exact hB.1.1.1.1.1.1.1.2
  have hd1 : (l.drop n0).take 1 = [l[n0]] := by rw [List.drop_eq_getElem_cons hn]; rfl
  have h0 : l.toArray[n0]? = some l[n0] := by simp [hn]
  rw [hd1] at h
  refine wpIn_region_any hm (anyIn_of_any (noDefer_spec hd) hQ _ _ _ _ ?_)
  rw [List.size_toArray]
  refine any_mid n0 hB (still_mono (fun a' h2 => wpOp_then (K := fun a2 w2 => wpStill P l.toArray w2 (fun a3 => Q .normal a3 w2) (l.drop (n0 + 1)) a2) ?_) _ _ h)
  unfold wpOp
  simp only [h0]
  exact h2

end Go.Proofs.YtafincmcmgedbaaGreatDoor
