/-
  A range over a function, where the iterator reads again, behind a round, what it laid ahead of it, and the body appends to a row of its own: the row's block is told apart from all that the iterator laid. A round may leave.
-/
import Derived.RangeFuncNested
import Derived.RangeFuncBound
import Derived.RangeFuncLeaves
import Derived.Test.YtafincmcmgedbaaGreatDoorCRow

namespace Go.Proofs.YtafincmcmgedbaaGreatDoor
open Go.RowKit

/-- From block B on the world is as it was, but for the row. -/
structure KeptR (B : Nat) (row : Nat → Prop) (W W' : World) : Prop where
  size : W.heap.size ≤ W'.heap.size
  same : ∀ k, B ≤ k → k < W.heap.size → ¬ row k → W'.heap[k]? = W.heap[k]?
theorem KeptR.refl (B : Nat) (row : Nat → Prop) (W : World) : KeptR B row W W := ⟨Nat.le_refl _, fun _ _ _ _ => rfl⟩
theorem KeptR.trans {B : Nat} {row : Nat → Prop} {X Y Z : World} (h : KeptR B row X Y) (k : KeptR B row Y Z) : KeptR B row X Z :=
  ⟨Nat.le_trans h.size k.size, fun i hB hl hr => (k.same i hB (Nat.lt_of_lt_of_le hl h.size) hr).trans (h.same i hB hl hr)⟩
theorem KeptR.grown {B : Nat} {row : Nat → Prop} {rr : Option Nat} {W W' : World} (hg : W.grownBy W' rr) (hr : ∀ r, rr = some r → B ≤ r → row r) : KeptR B row W W' :=
  ⟨hg.size, fun k hB hl hk => hg.block k hl (fun e => hk (hr k e.symm hB))⟩
theorem KeptR.below {B : Nat} {row : Nat → Prop} {W W' : World} (h : Below W.heap.size W W') : KeptR B row W W' := ⟨h.size, fun k _ hl _ => h.block k hl⟩
theorem KeptR.cell {B : Nat} {row : Nat → Prop} {W W' : World} (h : KeptR B row W W') {p : Addr} {v : Value} (hB : B ≤ p.block) (hr : ¬ row p.block) (hc : W.cell? p = some v) : W'.cell? p = some v := by
  rw [World.cell?_of_block (h.same _ hB (lt_of_cell' hc) hr)]; exact hc
theorem grown_of_below {W W' : World} (h : Below W.heap.size W W') : W.grownBy W' none := ⟨h.os, h.tape, h.output, h.size, fun k hk _ => h.block k hk⟩
/-- J speaks of nothing that is laid from block B on, but for the row. -/
def Bides {α : Type} (B : Nat) (J : List α → (Nat → Prop) → World → Prop) : Prop :=
  ∀ s row W W' rr, J s row W → W.grownBy W' rr → (∀ r, rr = some r → B ≤ r ∧ ¬ row r) → J s row W'
theorem Bides.below {α : Type} {B : Nat} {J : List α → (Nat → Prop) → World → Prop} (h : Bides B J) {s : List α} {row : Nat → Prop} {W W' : World} (hb : Below W.heap.size W W') (hj : J s row W) : J s row W' :=
  h s row W W' none hj (grown_of_below hb) (fun r e => by cases e)
/-- The row stays, or is laid anew. -/
def NextRow (row row' : Nat → Prop) (W : World) : Prop := ∀ r, row' r → row r ∨ W.heap.size ≤ r

theorem yield_any {m m' : Nat} {P : Program} {l : Nat} {args : Array Value} {W : World} {R : Ending → World → Prop} (h : YieldAt Fence.wide m P l args W R) : YieldAt Fence.wide m' P l args W R := by
  obtain ⟨fn, tmps, assign, body, hy, hF, hR⟩ := h
  exact ⟨fn, tmps, assign, body, hy, hF, fun c cs _ => hR c cs (room_wide _)⟩

/-- **What is asked of an iterator**, made ahead of w from block B on: at whatever loop's yield, in whatever later world; a round may leave. -/
def Goes {α : Type} (P : Program) (g : Nat) (lb : Array Value) (encs : α → Array Value) (S Sp : List α → Prop) (T : List α → α → Prop) (Kg : World → Prop) (B : Nat) (w : World) : Prop :=
  ∀ (l : Nat) (J : List α → (Nat → Prop) → World → Prop) (Jx : List α → World → Prop) (W : World), Below w.heap.size w W → (∀ s row W1 W2, J s row W1 → Below W1.heap.size W1 W2 → J s row W2) → (∀ s row W1, J s row W1 → Kg W1) → (∀ s row W1, J s row W1 → ∀ r, row r → r < W1.heap.size ∧ W.heap.size ≤ r) →
    (∀ pre x row W1, W.heap.size ≤ W1.heap.size → J pre row W1 → T pre x → YieldAt Fence.wide 9 P l (encs x) W1 fun e W' =>
      (e = .returned (.bool true) ∧ ∃ row', J (pre ++ [x]) row' W' ∧ KeptR B row W1 W') ∨ (e = .returned (.bool false) ∧ Jx (pre ++ [x]) W')) →
    J [] (fun _ => False) W →
    CallsIn Fence.wide 9 P g (#[.func (.yield l) #[] #[]] ++ lb) W fun e W' => (∃ v, e = .returned v) ∧ ((∃ xs row, S xs ∧ J xs row W') ∨ ∃ pre, Sp pre ∧ Jx pre W')
/-- What is said where a round has left: nothing of what is laid from block B on. -/
def Leaves {α : Type} (B : Nat) (J : List α → World → Prop) : Prop := ∀ s W W' rr, J s W → W.grownBy W' rr → (∀ r, rr = some r → B ≤ r) → J s W'

/-- How the body of a round must end. -/
def roundEnd {α : Type} (B : Nat) (I : List α → (Nat → Prop) → World → Prop) (Ix : Code → List α → World → Prop) (row : Nat → Prop) (xs : List α) (W : World) : Exit → Act → World → Prop
  | .normal, _, W' => ∃ row', I xs row' W' ∧ KeptR B row W W' ∧ NextRow row row' W
  | .ret, _, W' => (∃ row', KeptR B row' W W' ∧ (∀ r, row' r → row r ∨ W.heap.size ≤ r)) ∧ Ix .ret xs W'
  | _, _, _ => False

variable {n : Nat} {P : Program}

theorem range_goes {α : Type} {g : Operand} {ps : Array Tmp} {assign body : Code} {Q : Exit → Act → World → Prop} {a : Act} {w : World}
    {gf : Nat} {lb : Array Value} (hg : a.eval g = .func (.func gf) #[] lb) (eg : ∀ args w, (callFunc gf args).run P w = .ok (.enter gf args) w)
    {encs : α → Array Value} {S Sp : List α → Prop} {T : List α → α → Prop} {Kg : World → Prop} {B : Nat} {w0 : World} (hseq : Goes P gf lb encs S Sp T Kg B w0) (hB : B ≤ w.heap.size) (hb0 : Below w0.heap.size w0 w) (hps : ∀ x, (encs x).size = ps.size)
    (I : List α → (Nat → Prop) → World → Prop) (Ix : Code → List α → World → Prop) (hIx : ∀ c, Leaves B (Ix c)) (hI : Bides B I) (hIl : ∀ s row W, I s row W → ∀ r, row r → r < W.heap.size) (hKg : ∀ s row W, I s row W → Kg W) (h0 : I [] (fun _ => False) w) (a₁ : α → World → Act) (W₁ : α → World → World) (hW₁ : ∀ x W, Below W.heap.size W (W₁ x W))
    (hassign : ∀ (l : Nat) (x : α) (W : World) (K : Act → World → Prop), K (a₁ x W) (W₁ x W) →
      assign.wpIn (Fence.wide.inRound l) 9 P (Exit.then K (fun _ _ _ => False)) { tmps := (ps.zip (encs x)).foldl (fun t (p, v) => t.setIfInBounds p v) a.tmps, defers := [] } W)
    (hbody : ∀ (l : Nat) (pre : List α) (x : α) (row : Nat → Prop) (W V : World), w.heap.size ≤ W.heap.size → V.heap.size = (W₁ x W).heap.size → (∀ k, W.heap.size ≤ k → V.heap[k]? = (W₁ x W).heap[k]?) → I pre row V → T pre x → body.wpIn (Fence.wide.inRound l) 9 P (roundEnd B I Ix row (pre ++ [x]) V) (a₁ x W) V)
    (hdone : ∀ (D : Nat) (xs : List α) (row : Nat → Prop) (W : World), w.heap.size ≤ D → S xs → I xs row W → ¬ row D → W.heap[D]? = some (.deferred (some [])) → Q .normal { a with defers := { target := .collected D, args := #[] } :: a.defers } W)
    (hstop : ∀ (D : Nat) (c : Code) (pre : List α) (W : World), w.heap.size ≤ D → Sp pre → Ix c pre W → W.heap[D]? = some (.deferred (some [])) → c.wpIn Fence.wide n P Q { a with defers := { target := .collected D, args := #[] } :: a.defers } W) :
    (Code.rangeFunc g ps assign body).wpIn Fence.wide n P Q a w := by
  refine wpIn_rangeFunc ?_
  intro fn hfn
  -- the two blocks of book-keeping: D for deferred calls, D + 1 the record
  generalize hD : w.heap.size = D at *
  obtain ⟨rec, hrec⟩ : ∃ rec : LoopState → Option Code → Loop, rec = fun st pe => { state := st, pending := pe, fn, tmps := a.tmps, params := ps, assign, body, defers := D } := ⟨_, rfl⟩
  obtain ⟨W1, hW1⟩ : ∃ W1, (w.alloc (.deferred (some []))).alloc (.loop (rec .ready none)) = W1 := ⟨_, rfl⟩
  have hs1 : W1.heap.size = D + 2 := by rw [← hW1]; simp; omega
  let kept : World → LoopState → Option Code → Prop := fun W st pe => W.heap[D + 1]? = some (.loop (rec st pe)) ∧ W.heap[D]? = some (.deferred (some []))
  have hk1 : kept W1 .ready none := by
    refine ⟨?_, ?_⟩
    · rw [← hW1]; have := World.alloc_heap_new (w.alloc (.deferred (some []))) (.loop (rec .ready none)); rwa [World.size_alloc, hD] at this
    · rw [← hW1, ← hD]; exact (Below.heap_alloc _ _ _ (by simp)).trans (World.alloc_heap_new w _)
  have hg1 : w.grownBy W1 none := by
    rw [← hW1]; exact grown_of_below (((Below.refl _ w).alloc (Nat.le_refl _) _).alloc (by simp) _)
  have hb1 : Below w0.heap.size w0 W1 := by
    rw [← hW1]; exact hb0.trans ((((Below.refl _ w).alloc (Nat.le_refl _) _).alloc (by simp) _).mono hb0.size)
  have turn : ∀ {W W' : World} {rr : Option Nat} {st : LoopState} {pe : Option Code}, kept W st pe → W.grownBy W' rr → (∀ r, rr = some r → r ≠ D ∧ r ≠ D + 1) → kept W' st pe := by
    intro W W' rr st pe hk hg' hr
    have hl := (Array.getElem?_eq_some_iff.1 hk.1).1
    exact ⟨(hg'.block _ hl (fun e => (hr _ e.symm).2 rfl)).trans hk.1, (hg'.block _ (by omega) (fun e => (hr _ e.symm).1 rfl)).trans hk.2⟩
  refine ⟨D + 1, [{ target := .collected D, args := #[] }], W1, { target := .fn (.func gf) lb, args := #[.func (.yield (D + 1)) #[] #[]] }, W1, gf,
    #[.func (.yield (D + 1)) #[] #[]] ++ lb, W1, ?_, ?_, ?_, ?_, fun h => by simp [Fence.wide] at h, ?_⟩
  · rw [← hW1, hrec, ← hD]; exact run_enterLoop_outer _ _ _ _ _
  · simp only [resolve, hg]
    simp [go_sem]
  · intro _ _; trivial
  · simp [invoke, go_sem, eg]
  · refine callsIn_wide.2 (callsIn_wide.1 ((hseq (D + 1) (fun s row W => I s row W ∧ kept W .ready none ∧ ∀ r, row r → D + 2 ≤ r) (fun pre W => ∃ c, Ix c pre W ∧ kept W .done (some c)) W1 hb1 ?_ (fun s row W h => hKg s row W h.1) (fun s row W h r e => ⟨hIl s row W h.1 r e, by rw [hs1]; exact h.2.2 r e⟩) ?_ ⟨hI _ _ _ _ none h0 hg1 (fun r e => by cases e), hk1, fun r e => False.elim e⟩).mono ?_))
    · intro s row A A' hs hb
      exact ⟨hI.below hb hs.1, turn hs.2.1 (grown_of_below hb) (fun r e => by cases e), hs.2.2⟩
    · rintro pre x row W0 hsz ⟨hi0, hk0, hrow⟩ hT
      have hy := run_yield (P := P) (args := encs x) hk0.1 (by rw [hrec]; exact hps x)
      have hbl := hW₁ x W0
      have hi := hI.below hbl hi0
      have hk := turn hk0 (grown_of_below hbl) (fun r e => by cases e)
      have hl0 := (Array.getElem?_eq_some_iff.1 hk0.1).1
      refine ⟨fn, _, assign, body, by rw [hrec] at hy; exact hy, roundIn_of_wpIn trivial (hassign _ x W0 _ ⟨_, run_beginRound hk.1 (by rw [hrec]), ?_⟩)⟩
      obtain ⟨W, hW⟩ : ∃ W, W₁ x W0 = W := ⟨_, rfl⟩
      have hbd := hbody (D + 1) pre x row W0
      rw [hW] at hbl hi hk hbd ⊢
      have hl := (Array.getElem?_eq_some_iff.1 hk.1).1
      have notD : ¬ row D := fun e => by have := hrow _ e; omega
      have notE : ¬ row (D + 1) := fun e => by have := hrow _ e; omega
      have put : ∀ {V : World} (st' : LoopState) (pe' : Option Code), D + 1 < V.heap.size → V.heap[D]? = some (.deferred (some [])) → kept (V.putObj (D + 1) (.loop (rec st' pe'))) st' pe' :=
        fun st' pe' h1 h2 => ⟨World.putObj_heap_same h1, (World.putObj_heap_other (by omega)).trans h2⟩
      have hbusy : { rec LoopState.ready none with state := LoopState.busy } = rec .busy none := by rw [hrec]
      rw [hbusy]
      have hk2 := put (V := W) .busy none hl hk.2
      have hsz2 : (W.putObj (D + 1) (.loop (rec .busy none))).heap.size = W.heap.size := by simp
      refine wpIn_mono (hbd _ (by omega) hsz2 (fun k hk => World.putObj_heap_other (by omega)) (hI _ _ _ _ _ hi (grownBy_putObj' W (D + 1) _) (fun r e => by cases e; exact ⟨by omega, notE⟩)) hT) ?_
      rintro e a3 W3 hp
      cases e with
      | normal =>
        obtain ⟨row', hi3, h3, hnx⟩ := hp
        have h31 := (h3.same (D + 1) (by omega) (by omega) notE).trans hk2.1
        have h30 := (h3.same D (by omega) (by omega) notD).trans hk2.2
        have he : (Instr.endRound (D + 1) none).run P W3 = .ok (.bool true) (W3.putObj (D + 1) (.loop (rec .ready none))) := by
          have he := run_endRound (P := P) none h31
          rw [hrec] at he ⊢
          exact he
        have hl3 := (Array.getElem?_eq_some_iff.1 h31).1
        have hrow' : ∀ r, row' r → D + 2 ≤ r := by
          intro r e
          rcases hnx r e with h | h
          · exact hrow r h
          · rw [hsz2] at h; omega
        refine ⟨_, _, he, .inl ⟨rfl, row', ⟨hI _ _ _ _ _ hi3 (grownBy_putObj' W3 (D + 1) _) (fun r e => by cases e; exact ⟨by omega, fun e2 => by have := hrow' _ e2; omega⟩), ?_, hrow'⟩, ?_⟩⟩
        · exact put (V := W3) .ready none hl3 h30
        · refine (KeptR.below hbl).trans ⟨by have := h3.size; rw [hsz2] at this; simpa using this, fun k hkB hkl hkr => ?_⟩
          by_cases e : k = D + 1
          · subst e
            exact (World.putObj_heap_same hl3).trans hk.1.symm
          · exact ((World.putObj_heap_other e).trans (h3.same k hkB (by rw [hsz2]; exact hkl) hkr)).trans (World.putObj_heap_other e)
      | ret =>
        obtain ⟨⟨row', h3, hnx⟩, hi3⟩ := hp
        have hrow' : ∀ r, row' r → r ≠ D + 1 ∧ r ≠ D := by
          intro r e
          rcases hnx r e with h | h
          · have := hrow r h; omega
          · rw [hsz2] at h; omega
        have h31 := (h3.same (D + 1) (by omega) (by omega) (fun e => (hrow' _ e).1 rfl)).trans hk2.1
        have h30 := (h3.same D (by omega) (by omega) (fun e => (hrow' _ e).2 rfl)).trans hk2.2
        have he : (Instr.endRound (D + 1) (some .ret)).run P W3 = .ok (.bool false) (W3.putObj (D + 1) (.loop (rec .done (some .ret)))) := by
          have he := run_endRound (P := P) (some .ret) h31
          rw [hrec] at he ⊢
          exact he
        have hl3 := (Array.getElem?_eq_some_iff.1 h31).1
        exact ⟨_, _, he, .inr ⟨rfl, .ret, hIx _ _ _ _ _ hi3 (grownBy_putObj' W3 (D + 1) _) (fun r e => by cases e; omega), put (V := W3) .done (some .ret) hl3 h30⟩⟩
      | exit id => exact hp.elim
      | goto t => exact hp.elim
      | panic ch => exact hp.elim
      | outgrown => exact hp.elim
    · rintro e W2 ⟨⟨v, rfl⟩, (⟨xs, row, hS, hi, hk, hrow⟩ | ⟨pre, hSp, c, hi, hk⟩)⟩
      · exact ⟨none, _, by have := run_endLoop (P := P) hk.1 (by rw [hrec]; simp); rw [hrec] at this; exact this, hdone D xs row _ (Nat.le_refl _) hS (hI _ _ _ _ _ hi (grownBy_putObj' W2 (D + 1) _) (fun r e => by cases e; exact ⟨by omega, fun e2 => by have := hrow _ e2; omega⟩)) (fun e2 => by have := hrow _ e2; omega) ((World.putObj_heap_other (by omega)).trans hk.2)⟩
      · exact ⟨some c, _, by have := run_endLoop (P := P) hk.1 (by rw [hrec]; simp); rw [hrec] at this; exact this, hstop D c pre _ (Nat.le_refl _) hSp (hIx _ _ _ _ _ hi (grownBy_putObj' W2 (D + 1) _) (fun r e => by cases e; omega)) ((World.putObj_heap_other (by omega)).trans hk.2)⟩

end Go.Proofs.YtafincmcmgedbaaGreatDoor
