/-
  A range over a function, where the iterator writes cells of its own between two rounds, or goes over another iterator itself: what it may turn is a region of the heap, which the caller's word does not speak of, and which a round leaves alone.
-/
import Derived.RangeFuncNested
import Derived.RangeFuncBound
import Derived.RangeFuncLeaves
import Derived.Test.YthoinlapopongaaDoorRows
namespace Go.Proofs.YthoinlapopongaaDoor
open Go.RowKit

theorem lt_of_cell' {w : World} {a : Addr} {v : Value} (h : w.cell? a = some v) : a.block < w.heap.size := by
  obtain ⟨o, ho, _⟩ := cells_of_cell h
  exact (Array.getElem?_eq_some_iff.1 ho).1
/-- The iterator's own: what was laid when it was made, and whatever is laid from its call on. -/
def Mine (B C E k : Nat) : Prop := (B ≤ k ∧ k < C) ∨ E ≤ k
/-- J does not speak of it. -/
def Leaves {β : Type} (own : Nat → Prop) (J : β → World → Prop) : Prop :=
  ∀ s W W' row, J s W → W.grownBy W' row → (∀ r, row = some r → own r) → J s W'
/-- It lies as it lay. -/
structure Stays (own : Nat → Prop) (W W' : World) : Prop where
  size : W.heap.size ≤ W'.heap.size
  same : ∀ k, own k → k < W.heap.size → W'.heap[k]? = W.heap[k]?

theorem Stays.refl (own : Nat → Prop) (W : World) : Stays own W W := ⟨Nat.le_refl _, fun _ _ _ => rfl⟩
theorem Stays.trans {own : Nat → Prop} {A B C : World} (h : Stays own A B) (k : Stays own B C) : Stays own A C :=
  ⟨Nat.le_trans h.size k.size, fun i hi hl => (k.same i hi (Nat.lt_of_lt_of_le hl h.size)).trans (h.same i hi hl)⟩
theorem Stays.less {own own' : Nat → Prop} {A B : World} (h : Stays own A B) (hs : ∀ k, own' k → own k) : Stays own' A B :=
  ⟨h.size, fun i hi hl => h.same i (hs i hi) hl⟩
theorem Stays.grown {own : Nat → Prop} {W W' : World} {row : Option Nat} (hg : W.grownBy W' row) (hr : ∀ r, row = some r → ¬ own r) : Stays own W W' :=
  ⟨hg.size, fun k hk hl => hg.block k hl (fun e => hr k e.symm hk)⟩
theorem Stays.below {own : Nat → Prop} {W W' : World} (h : Below W.heap.size W W') : Stays own W W' :=
  ⟨h.size, fun k _ hl => h.block k hl⟩
theorem Stays.cell {own : Nat → Prop} {W W' : World} (h : Stays own W W') {p : Addr} {v : Value} (hp : own p.block) (hc : W.cell? p = some v) : W'.cell? p = some v := by
  rw [World.cell?_of_block (h.same _ hp (lt_of_cell' hc))]; exact hc
theorem Stays.frozen {own : Nat → Prop} {W W' : World} (h : Stays own W W') {p : Addr} {v : Value} (hp : own p.block) (hc : W.cell? p = some v) : W'.frozen? p = W.frozen? p :=
  World.frozen?_of_block (h.same _ hp (lt_of_cell' hc))
theorem grown_of_below {W W' : World} (h : Below W.heap.size W W') : W.grownBy W' none := ⟨h.os, h.tape, h.output, h.size, fun k hk _ => h.block k hk⟩
theorem Leaves.below {β : Type} {own : Nat → Prop} {J : β → World → Prop} (h : Leaves own J) {s : β} {W W' : World} (hb : Below W.heap.size W W') (hj : J s W) : J s W' :=
  h s W W' none hj (grown_of_below hb) (fun r e => by cases e)
theorem Leaves.less {β : Type} {own own' : Nat → Prop} {J : β → World → Prop} (h : Leaves own J) (hs : ∀ k, own' k → own k) : Leaves own' J :=
  fun s W W' row hj hg hr => h s W W' row hj hg (fun r e => hs r (hr r e))
theorem Leaves.and {β : Type} {own : Nat → Prop} {J J' : β → World → Prop} (h : Leaves own J) (h' : Leaves own J') : Leaves own (fun s W => J s W ∧ J' s W) :=
  fun s W W' row hj hg hr => ⟨h s W W' row hj.1 hg hr, h' s W W' row hj.2 hg hr⟩
theorem grown_cell {W W' : World} {row : Option Nat} {own : Nat → Prop} {p : Addr} {v : Value} (hg : W.grownBy W' row) (hr : ∀ r, row = some r → own r) (hp : ¬ own p.block) (hc : W.cell? p = some v) : W'.cell? p = some v := by
  rw [World.cell?_of_block (hg.block _ (lt_of_cell' hc) (fun e => hp (hr _ e.symm)))]; exact hc
theorem grown_frozen {W W' : World} {row : Option Nat} {own : Nat → Prop} {p : Addr} {v : Value} (hg : W.grownBy W' row) (hr : ∀ r, row = some r → own r) (hp : ¬ own p.block) (hc : W.cell? p = some v) : W'.frozen? p = W.frozen? p :=
  World.frozen?_of_block (hg.block _ (lt_of_cell' hc) (fun e => hp (hr _ e.symm)))

theorem yield_any {m m' : Nat} {P : Program} {l : Nat} {args : Array Value} {W : World} {R : Ending → World → Prop} (h : YieldAt Fence.wide m P l args W R) : YieldAt Fence.wide m' P l args W R := by
  obtain ⟨fn, tmps, assign, body, hy, hF, hR⟩ := h
  exact ⟨fn, tmps, assign, body, hy, hF, fun c cs _ => hR c cs (room_wide _)⟩

/-- **What is asked of an iterator**, made ahead of w from block B on: at whatever loop's yield, in whatever later world. Lv: whether a round may leave; T: what is known of an element that comes; Kg: what it needs of the world. -/
def Goes {α : Type} (P : Program) (g : Nat) (lb : Array Value) (encs : α → Array Value) (Lv : Prop) (S Sp : List α → Prop) (T : List α → α → Prop) (Kg : World → Prop) (B : Nat) (w : World) : Prop :=
  ∀ (l : Nat) (J Jx : List α → World → Prop) (W : World), Below w.heap.size w W → Leaves (Mine B w.heap.size W.heap.size) J → Leaves (Mine B w.heap.size W.heap.size) Jx → (∀ pre W1, J pre W1 → Kg W1) →
    (∀ pre x W1, W.heap.size ≤ W1.heap.size → J pre W1 → T pre x → YieldAt Fence.wide 9 P l (encs x) W1 fun e W' =>
      (e = .returned (.bool true) ∧ J (pre ++ [x]) W' ∧ Stays (Mine B w.heap.size W.heap.size) W1 W') ∨ (Lv ∧ e = .returned (.bool false) ∧ Jx (pre ++ [x]) W')) →
    J [] W →
    CallsIn Fence.wide 9 P g (#[.func (.yield l) #[] #[]] ++ lb) W fun e W' => (∃ v, e = .returned v) ∧ ((∃ xs, S xs ∧ J xs W') ∨ (Lv ∧ ∃ pre, Sp pre ∧ Jx pre W'))

/-- How the body of a round may end. -/
def roundEnd {α : Type} (B : Nat) (I : List α → World → Prop) (Ix : Code → List α → World → Prop) (xs : List α) (W : World) : Exit → Act → World → Prop
  | .normal, _, W' => Stays (B ≤ ·) W W' ∧ I xs W'
  | .ret, _, W' => Stays (B ≤ ·) W W' ∧ Ix .ret xs W'
  | .exit id, _, W' => Stays (B ≤ ·) W W' ∧ Ix (.exit id) xs W'
  | .goto t, _, W' => Stays (B ≤ ·) W W' ∧ Ix (.goto t) xs W'
  | .panic _, _, _ => False
  | .outgrown, _, _ => False

variable {n : Nat} {P : Program}

theorem range_goes {α : Type} {g : Operand} {ps : Array Tmp} {assign body : Code} {Q : Exit → Act → World → Prop} {a : Act} {w : World}
    {gf : Nat} {lb : Array Value} (hg : a.eval g = .func (.func gf) #[] lb) (eg : ∀ args w, (callFunc gf args).run P w = .ok (.enter gf args) w)
    {encs : α → Array Value} {Lv : Prop} {S Sp : List α → Prop} {T : List α → α → Prop} {Kg : World → Prop} {B : Nat} {w0 : World} (hseq : Goes P gf lb encs Lv S Sp T Kg B w0) (hB : B ≤ w.heap.size) (hb0 : Below w0.heap.size w0 w) (hps : ∀ x, (encs x).size = ps.size)
    (I : List α → World → Prop) (Ix : Code → List α → World → Prop) (hI : Leaves (B ≤ ·) I) (hIx : ∀ c, Leaves (B ≤ ·) (Ix c)) (hLv : ∀ c pre W, Ix c pre W → Lv) (hKg : ∀ pre W, I pre W → Kg W) (h0 : I [] w) (a₁ : α → Act)
    (hassign : ∀ (l : Nat) (x : α) (W : World) (K : Act → World → Prop), K (a₁ x) W →
      assign.wpIn (Fence.wide.inRound l) 9 P (Exit.then K (fun _ _ _ => False)) { tmps := (ps.zip (encs x)).foldl (fun t (p, v) => t.setIfInBounds p v) a.tmps, defers := [] } W)
    (hbody : ∀ (l : Nat) (pre : List α) (x : α) (W : World), w.heap.size ≤ W.heap.size → I pre W → T pre x → body.wpIn (Fence.wide.inRound l) 9 P (roundEnd B I Ix (pre ++ [x]) W) (a₁ x) W)
    (hdone : ∀ (D : Nat) (xs : List α) (W : World), w.heap.size ≤ D → S xs → I xs W → W.heap[D]? = some (.deferred (some [])) → Q .normal { a with defers := { target := .collected D, args := #[] } :: a.defers } W)
    (hstop : ∀ (D : Nat) (c : Code) (pre : List α) (W : World), w.heap.size ≤ D → Sp pre → Ix c pre W → W.heap[D]? = some (.deferred (some [])) → c.wpIn Fence.wide n P Q { a with defers := { target := .collected D, args := #[] } :: a.defers } W) :
    (Code.rangeFunc g ps assign body).wpIn Fence.wide n P Q a w := by
  refine wpIn_rangeFunc ?_
  intro fn hfn
  -- the two blocks of book-keeping: D for deferred calls, D + 1 the record
  generalize hD : w.heap.size = D at *
  obtain ⟨rec, hrec⟩ : ∃ rec : LoopState → Option Code → Loop, rec = fun st pe => { state := st, pending := pe, fn, tmps := a.tmps, params := ps, assign, body, defers := D } := ⟨_, rfl⟩
  obtain ⟨W1, hW1⟩ : ∃ W1, (w.alloc (.deferred (some []))).alloc (.loop (rec .ready none)) = W1 := ⟨_, rfl⟩
  have hs1 : W1.heap.size = D + 2 := by rw [← hW1]; simp; omega
  let kept : World → LoopState → Option Code → Prop := fun W st pe => W.heap[D + 1]? = some (.loop (rec st pe)) ∧ W.heap[D]? = some (.deferred (some []))
  have hk1 : kept W1 .ready none := by
    refine ⟨?_, ?_⟩
    · rw [← hW1]; have := World.alloc_heap_new (w.alloc (.deferred (some []))) (.loop (rec .ready none)); rwa [World.size_alloc, hD] at this
    · rw [← hW1, ← hD]; exact (Below.heap_alloc _ _ _ (by simp)).trans (World.alloc_heap_new w _)
  have hg1 : w.grownBy W1 none := by
    rw [← hW1]; exact grown_of_below (((Below.refl _ w).alloc (Nat.le_refl _) _).alloc (by simp) _)
  have hb1 : Below w0.heap.size w0 W1 := by
    rw [← hW1]; exact hb0.trans ((((Below.refl _ w).alloc (Nat.le_refl _) _).alloc (by simp) _).mono hb0.size)
  have hC : w0.heap.size ≤ D := hD ▸ hb0.size
  have turn : ∀ {W W' : World} {row : Option Nat} {st : LoopState} {pe : Option Code}, kept W st pe → W.grownBy W' row → (∀ r, row = some r → Mine B w0.heap.size W1.heap.size r) → kept W' st pe := by
    intro W W' row st pe hk hg' hr
    have hl := (Array.getElem?_eq_some_iff.1 hk.1).1
    have not : ∀ j, D ≤ j → j ≤ D + 1 → some j ≠ row := by
      intro j h1 h2 e
      rcases hr j e.symm with h | h <;> omega
    exact ⟨(hg'.block _ hl (not _ (by omega) (by omega))).trans hk.1, (hg'.block _ (by omega) (not _ (by omega) (by omega))).trans hk.2⟩
  refine ⟨D + 1, [{ target := .collected D, args := #[] }], W1, { target := .fn (.func gf) lb, args := #[.func (.yield (D + 1)) #[] #[]] }, W1, gf,
    #[.func (.yield (D + 1)) #[] #[]] ++ lb, W1, ?_, ?_, ?_, ?_, fun h => by simp [Fence.wide] at h, ?_⟩
  · rw [← hW1, hrec, ← hD]; exact run_enterLoop_outer _ _ _ _ _
  · simp only [resolve, hg]
    simp [go_sem]
  · intro _ _; trivial
  · simp [invoke, go_sem, eg]
  · refine callsIn_wide.2 (callsIn_wide.1 ((hseq (D + 1) (fun pre W => I pre W ∧ kept W .ready none) (fun pre W => ∃ c, Ix c pre W ∧ kept W .done (some c)) W1 hb1 ?_ ?_ (fun pre W h => hKg pre W h.1) ?_ ⟨hI _ _ _ none h0 hg1 (fun r e => by cases e), hk1⟩).mono ?_))
    · intro s A A' row hs hg' hr
      exact ⟨hI s A A' row hs.1 hg' (fun r e => by rcases hr r e with h | h <;> omega), turn hs.2 hg' hr⟩
    · rintro s A A' row ⟨c, hc, hk⟩ hg' hr
      exact ⟨c, hIx c s A A' row hc hg' (fun r e => by rcases hr r e with h | h <;> omega), turn hk hg' hr⟩
    · rintro pre x W hsz ⟨hi, hk⟩ hlen
      have hl := (Array.getElem?_eq_some_iff.1 hk.1).1
      have hy := run_yield (P := P) (args := encs x) hk.1 (by rw [hrec]; exact hps x)
      refine ⟨fn, _, assign, body, by rw [hrec] at hy; exact hy, roundIn_of_wpIn trivial (hassign _ x W _ ⟨_, run_beginRound hk.1 (by rw [hrec]), ?_⟩)⟩
      -- the record turns: ready, busy, ready or done
      have put : ∀ {V : World} {st : LoopState} {pe : Option Code} (st' : LoopState) (pe' : Option Code), D + 1 < V.heap.size → V.heap[D]? = some (.deferred (some [])) → kept (V.putObj (D + 1) (.loop (rec st' pe'))) st' pe' :=
        fun st' pe' h1 h2 => ⟨World.putObj_heap_same h1, (World.putObj_heap_other (by omega)).trans h2⟩
      have stays : ∀ (V : World) (o : Obj), Stays (Mine B w0.heap.size W1.heap.size) V (V.putObj (D + 1) o) := fun V o =>
        Stays.grown (grownBy_putObj' V (D + 1) o) (fun r e h => by cases e; rcases h with h | h <;> omega)
      have hbusy : { rec LoopState.ready none with state := LoopState.busy } = rec .busy none := by rw [hrec]
      rw [hbusy]
      have hk2 := put (V := W) (st := .ready) (pe := none) .busy none hl hk.2
      refine wpIn_mono (hbody _ pre x _ (by simp; omega) (hI _ _ _ _ hi (grownBy_putObj' W (D + 1) _) (fun r e => by cases e; omega)) hlen) ?_
      have fin : ∀ (jump : Option Code) (W3 : World), Stays (B ≤ ·) (W.putObj (D + 1) (.loop (rec .busy none))) W3 →
          (Instr.endRound (D + 1) jump).run P W3 = .ok (.bool jump.isNone) (W3.putObj (D + 1) (.loop (rec (if jump.isNone then .ready else .done) jump))) ∧ D + 1 < W3.heap.size ∧ W3.heap[D]? = some (.deferred (some [])) := by
        intro jump W3 h3
        have hl2 := (Array.getElem?_eq_some_iff.1 hk2.1).1
        have h31 := (h3.same (D + 1) (show B ≤ D + 1 by omega) hl2).trans hk2.1
        have h30 := (h3.same D hB (by omega)).trans hk2.2
        have he := run_endRound (P := P) jump h31
        rw [hrec] at he ⊢
        exact ⟨he, (Array.getElem?_eq_some_iff.1 h31).1, h30⟩
      have out : ∀ {W3 : World}, Stays (B ≤ ·) (W.putObj (D + 1) (.loop (rec .busy none))) W3 → ∀ o, Stays (Mine B w0.heap.size W1.heap.size) W (W3.putObj (D + 1) o) := fun h3 o =>
        ((stays W _).trans (h3.less (fun k h => by rcases h with h | h <;> omega))).trans (stays _ o)
      rintro e a3 W3 hp
      cases e with
      | normal =>
        obtain ⟨h3, hi3⟩ := hp
        obtain ⟨hr, hl3, hd3⟩ := fin none W3 h3
        exact ⟨_, _, hr, .inl ⟨rfl, ⟨hI _ _ _ _ hi3 (grownBy_putObj' W3 (D + 1) _) (fun r e => by cases e; omega), put (st := .ready) (pe := none) _ _ hl3 hd3⟩, out h3 _⟩⟩
      | ret =>
        obtain ⟨h3, hi3⟩ := hp
        obtain ⟨hr, hl3, hd3⟩ := fin (some .ret) W3 h3
        exact ⟨_, _, hr, .inr ⟨hLv _ _ _ hi3, rfl, .ret, hIx _ _ _ _ _ hi3 (grownBy_putObj' W3 (D + 1) _) (fun r e => by cases e; omega), put (st := .ready) (pe := none) _ _ hl3 hd3⟩⟩
      | exit id =>
        obtain ⟨h3, hi3⟩ := hp
        obtain ⟨hr, hl3, hd3⟩ := fin (some (.exit id)) W3 h3
        exact ⟨_, _, hr, .inr ⟨hLv _ _ _ hi3, rfl, .exit id, hIx _ _ _ _ _ hi3 (grownBy_putObj' W3 (D + 1) _) (fun r e => by cases e; omega), put (st := .ready) (pe := none) _ _ hl3 hd3⟩⟩
      | goto t =>
        obtain ⟨h3, hi3⟩ := hp
        obtain ⟨hr, hl3, hd3⟩ := fin (some (.goto t)) W3 h3
        exact ⟨_, _, hr, .inr ⟨hLv _ _ _ hi3, rfl, .goto t, hIx _ _ _ _ _ hi3 (grownBy_putObj' W3 (D + 1) _) (fun r e => by cases e; omega), put (st := .ready) (pe := none) _ _ hl3 hd3⟩⟩
      | panic ch => exact hp.elim
      | outgrown => exact hp.elim
    · rintro e W2 ⟨⟨v, rfl⟩, (⟨xs, hS, hi, hk⟩ | ⟨_, pre, hSp, c, hi, hk⟩)⟩
      · exact ⟨none, _, by have := run_endLoop (P := P) hk.1 (by rw [hrec]; simp); rw [hrec] at this; exact this, hdone _ xs _ (Nat.le_refl _) hS (hI _ _ _ _ hi (grownBy_putObj' W2 (D + 1) _) (fun r e => by cases e; omega)) ((World.putObj_heap_other (by omega)).trans hk.2)⟩
      · exact ⟨some c, _, by have := run_endLoop (P := P) hk.1 (by rw [hrec]; simp); rw [hrec] at this; exact this, hstop _ c pre _ (Nat.le_refl _) hSp (hIx _ _ _ _ _ hi (grownBy_putObj' W2 (D + 1) _) (fun r e => by cases e; omega)) ((World.putObj_heap_other (by omega)).trans hk.2)⟩

end Go.Proofs.YthoinlapopongaaDoor
