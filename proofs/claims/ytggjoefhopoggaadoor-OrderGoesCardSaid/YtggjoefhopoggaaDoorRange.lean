/-
  (As wip/css and wip/cells have it, in one: rounds may leave, and may append to a row of their own.)
  A range over a function, where the iterator writes cells of its own between two rounds, or goes over another iterator itself: what it may turn is a region of the heap, which the caller's word does not speak of, and which a round leaves alone.
-/
import Derived.RangeFuncNested
import Derived.RangeFuncBound
import Derived.RangeFuncLeaves
import Derived.Test.YtggjoefhopoggaaDoorMem
namespace Go.Proofs.YtggjoefhopoggaaDoor
open Go.RowKit

/-- The iterator's own: what was laid when it was made, and whatever is laid from its call on. -/
def Mine (B C E k : Nat) : Prop := (B ≤ k ∧ k < C) ∨ E ≤ k
/-- J does not speak of it, but for the row. -/
def Bides {β : Type} (own : Nat → Prop) (J : β → Option Nat → World → Prop) : Prop :=
  ∀ s row W W' rr, J s row W → W.grownBy W' rr → (∀ r, rr = some r → own r ∧ row ≠ some r) → J s row W'
/-- It lies as it lay, but for the row. -/
structure KeptI (own : Nat → Prop) (row : Option Nat) (W W' : World) : Prop where
  size : W.heap.size ≤ W'.heap.size
  same : ∀ k, own k → k < W.heap.size → row ≠ some k → W'.heap[k]? = W.heap[k]?
/-- The row stays, or is laid anew. -/
def NextRow (row row' : Option Nat) (W : World) : Prop := row' = row ∨ ∃ r, row' = some r ∧ W.heap.size ≤ r
theorem NextRow.refl (row : Option Nat) (W : World) : NextRow row row W := .inl rfl
theorem NextRow.ne {row row' : Option Nat} {W : World} (h : NextRow row row' W) {k : Nat} (hk : k < W.heap.size) (hn : row ≠ some k) : row' ≠ some k := by
  rcases h with rfl | ⟨r, rfl, hr⟩
  · exact hn
  · intro e; cases e; omega
theorem NextRow.trans {a b c : Option Nat} {W W' : World} (h : NextRow a b W) (hs : W.heap.size ≤ W'.heap.size) (k : NextRow b c W') : NextRow a c W := by
  rcases k with rfl | ⟨r, rfl, hr⟩
  · exact h
  · exact .inr ⟨r, rfl, Nat.le_trans hs hr⟩
theorem KeptI.refl (own : Nat → Prop) (row : Option Nat) (W : World) : KeptI own row W W := ⟨Nat.le_refl _, fun _ _ _ _ => rfl⟩
theorem KeptI.trans {own : Nat → Prop} {row row' : Option Nat} {A B C : World} (h : KeptI own row A B) (hn : NextRow row row' A) (k : KeptI own row' B C) : KeptI own row A C :=
  ⟨Nat.le_trans h.size k.size, fun i hi hl hr => (k.same i hi (Nat.lt_of_lt_of_le hl h.size) (hn.ne hl hr)).trans (h.same i hi hl hr)⟩
theorem KeptI.less {own own' : Nat → Prop} {row : Option Nat} {A B : World} (h : KeptI own row A B) (hs : ∀ k, own' k → own k) : KeptI own' row A B :=
  ⟨h.size, fun i hi hl => h.same i (hs i hi) hl⟩
theorem KeptI.grown {own : Nat → Prop} {row rr : Option Nat} {W W' : World} (hg : W.grownBy W' rr) (hr : ∀ r, rr = some r → own r → row = some r) : KeptI own row W W' :=
  ⟨hg.size, fun k hk hl hn => hg.block k hl (fun e => hn (hr k e.symm hk))⟩
theorem KeptI.below {own : Nat → Prop} {row : Option Nat} {W W' : World} (h : Below W.heap.size W W') : KeptI own row W W' := ⟨h.size, fun k _ hl _ => h.block k hl⟩
theorem KeptI.cell {own : Nat → Prop} {row : Option Nat} {W W' : World} (h : KeptI own row W W') {p : Addr} {v : Value} (hp : own p.block) (hr : row ≠ some p.block) (hc : W.cell? p = some v) : W'.cell? p = some v := by
  rw [World.cell?_of_block (h.same _ hp (lt_of_cell' hc) hr)]; exact hc
theorem KeptI.more {own : Nat → Prop} {row rr : Option Nat} {A B B' : World} (h : KeptI own row A B) (hg : B.grownBy B' rr) (hr : ∀ r, rr = some r → A.heap.size ≤ r) : KeptI own row A B' :=
  ⟨Nat.le_trans h.size hg.size, fun k hk hl hn => (hg.block k (Nat.lt_of_lt_of_le hl h.size) (fun e => by have := hr k e.symm; omega)).trans (h.same k hk hl hn)⟩
theorem grown_of_below {W W' : World} (h : Below W.heap.size W W') : W.grownBy W' none := ⟨h.os, h.tape, h.output, h.size, fun k hk _ => h.block k hk⟩
theorem Bides.below {β : Type} {own : Nat → Prop} {J : β → Option Nat → World → Prop} (h : Bides own J) {s : β} {row : Option Nat} {W W' : World} (hb : Below W.heap.size W W') (hj : J s row W) : J s row W' :=
  h s row W W' none hj (grown_of_below hb) (fun r e => by cases e)
theorem grown_cell {W W' : World} {row : Option Nat} {own : Nat → Prop} {p : Addr} {v : Value} (hg : W.grownBy W' row) (hr : ∀ r, row = some r → own r) (hp : ¬ own p.block) (hc : W.cell? p = some v) : W'.cell? p = some v := by
  rw [World.cell?_of_block (hg.block _ (lt_of_cell' hc) (fun e => hp (hr _ e.symm)))]; exact hc
theorem grown_frozen {W W' : World} {row : Option Nat} {own : Nat → Prop} {p : Addr} {v : Value} (hg : W.grownBy W' row) (hr : ∀ r, row = some r → own r) (hp : ¬ own p.block) (hc : W.cell? p = some v) : W'.frozen? p = W.frozen? p :=
  World.frozen?_of_block (hg.block _ (lt_of_cell' hc) (fun e => hp (hr _ e.symm)))

theorem yield_any {m m' : Nat} {P : Program} {l : Nat} {args : Array Value} {W : World} {R : Ending → World → Prop} (h : YieldAt Fence.wide m P l args W R) : YieldAt Fence.wide m' P l args W R := by
  obtain ⟨fn, tmps, assign, body, hy, hF, hR⟩ := h
  exact ⟨fn, tmps, assign, body, hy, hF, fun c cs _ => hR c cs (room_wide _)⟩

/-- **What is asked of an iterator**, made ahead of w from block B on: at whatever loop's yield, in whatever later world. Lv: whether a round may leave; T: what is known of an element that comes; Kg: what it needs of the world. -/
def Goes {α : Type} (P : Program) (g : Nat) (lb : Array Value) (encs : α → Array Value) (Lv : Prop) (S Sp : List α → Prop) (T : List α → α → Prop) (Kg : World → Prop) (B : Nat) (w : World) : Prop :=
  ∀ (l : Nat) (J Jx : List α → Option Nat → World → Prop) (row0 : Option Nat) (W : World), Below w.heap.size w W → Bides (Mine B w.heap.size W.heap.size) J → Bides (Mine B w.heap.size W.heap.size) Jx → (∀ pre row W1, J pre row W1 → Kg W1) →
    (∀ pre row W1, J pre row W1 → ∀ r, row = some r → r < W1.heap.size) → (∀ r, row0 = some r → ¬ (B ≤ r ∧ r < w.heap.size)) →
    (∀ pre x row W1, W.heap.size ≤ W1.heap.size → J pre row W1 → T pre x → YieldAt Fence.wide 9 P l (encs x) W1 fun e W' =>
      ∃ row', NextRow row row' W1 ∧ KeptI (Mine B w.heap.size W.heap.size) row W1 W' ∧ ((e = .returned (.bool true) ∧ J (pre ++ [x]) row' W') ∨ (Lv ∧ e = .returned (.bool false) ∧ Jx (pre ++ [x]) row' W'))) →
    J [] row0 W →
    CallsIn Fence.wide 9 P g (#[.func (.yield l) #[] #[]] ++ lb) W fun e W' => (∃ v, e = .returned v) ∧ ((∃ xs row, S xs ∧ J xs row W') ∨ (Lv ∧ ∃ pre row, Sp pre ∧ Jx pre row W'))

/-- How the body of a round may end. -/
def roundEnd {α : Type} (B : Nat) (I : List α → Option Nat → World → Prop) (Ix : Code → List α → Option Nat → World → Prop) (row : Option Nat) (xs : List α) (W : World) : Exit → Act → World → Prop
  | .normal, _, W' => ∃ row', NextRow row row' W ∧ KeptI (B ≤ ·) row W W' ∧ I xs row' W'
  | .ret, _, W' => ∃ row', NextRow row row' W ∧ KeptI (B ≤ ·) row W W' ∧ Ix .ret xs row' W'
  | _, _, _ => False

variable {n : Nat} {P : Program}

theorem range_goes {α : Type} {g : Operand} {ps : Array Tmp} {assign body : Code} {Q : Exit → Act → World → Prop} {a : Act} {w : World}
    {gf : Nat} {lb : Array Value} (hg : a.eval g = .func (.func gf) #[] lb) (eg : ∀ args w, (callFunc gf args).run P w = .ok (.enter gf args) w)
    {encs : α → Array Value} {Lv : Prop} {S Sp : List α → Prop} {T : List α → α → Prop} {Kg : World → Prop} {B : Nat} {w0 : World} (hseq : Goes P gf lb encs Lv S Sp T Kg B w0) (hB : B ≤ w.heap.size) (hb0 : Below w0.heap.size w0 w) (hps : ∀ x, (encs x).size = ps.size)
    (I : List α → Option Nat → World → Prop) (Ix : Code → List α → Option Nat → World → Prop) (hI : Bides (B ≤ ·) I) (hIx : ∀ c, Bides (B ≤ ·) (Ix c)) (hIl : ∀ pre row W, I pre row W → ∀ r, row = some r → r < W.heap.size) (hLv : ∀ c pre row W, Ix c pre row W → Lv) (hKg : ∀ pre row W, I pre row W → Kg W)
    (row0 : Option Nat) (hrow0 : ∀ r, row0 = some r → ¬ (B ≤ r ∧ r < w0.heap.size)) (h0 : I [] row0 w) (a₁ : α → Act)
    (hassign : ∀ (l : Nat) (x : α) (W : World) (K : Act → World → Prop), K (a₁ x) W →
      assign.wpIn (Fence.wide.inRound l) 9 P (Exit.then K (fun _ _ _ => False)) { tmps := (ps.zip (encs x)).foldl (fun t (p, v) => t.setIfInBounds p v) a.tmps, defers := [] } W)
    (hbody : ∀ (l : Nat) (pre : List α) (x : α) (row : Option Nat) (W : World), w.heap.size ≤ W.heap.size → I pre row W → T pre x → body.wpIn (Fence.wide.inRound l) 9 P (roundEnd B I Ix row (pre ++ [x]) W) (a₁ x) W)
    (hdone : ∀ (D : Nat) (xs : List α) (row : Option Nat) (W : World), w.heap.size ≤ D → S xs → I xs row W → row ≠ some D → W.heap[D]? = some (.deferred (some [])) → Q .normal { a with defers := { target := .collected D, args := #[] } :: a.defers } W)
    (hstop : ∀ (D : Nat) (c : Code) (pre : List α) (row : Option Nat) (W : World), w.heap.size ≤ D → Sp pre → Ix c pre row W → row ≠ some D → W.heap[D]? = some (.deferred (some [])) → c.wpIn Fence.wide n P Q { a with defers := { target := .collected D, args := #[] } :: a.defers } W) :
    (Code.rangeFunc g ps assign body).wpIn Fence.wide n P Q a w := by
  refine wpIn_rangeFunc ?_
  intro fn hfn
  have hIl0 := hIl [] row0 w h0
  -- the two blocks of book-keeping: D for deferred calls, D + 1 the record
  generalize hD : w.heap.size = D at *
  obtain ⟨rec, hrec⟩ : ∃ rec : LoopState → Option Code → Loop, rec = fun st pe => { state := st, pending := pe, fn, tmps := a.tmps, params := ps, assign, body, defers := D } := ⟨_, rfl⟩
  obtain ⟨W1, hW1⟩ : ∃ W1, (w.alloc (.deferred (some []))).alloc (.loop (rec .ready none)) = W1 := ⟨_, rfl⟩
  have hs1 : W1.heap.size = D + 2 := by rw [← hW1]; simp; omega
  let kept : World → LoopState → Option Code → Prop := fun W st pe => W.heap[D + 1]? = some (.loop (rec st pe)) ∧ W.heap[D]? = some (.deferred (some []))
  let off : Option Nat → Prop := fun row => ∀ r, row = some r → r ≠ D ∧ r ≠ D + 1
  have hk1 : kept W1 .ready none := by
    refine ⟨?_, ?_⟩
    · rw [← hW1]; have := World.alloc_heap_new (w.alloc (.deferred (some []))) (.loop (rec .ready none)); rwa [World.size_alloc, hD] at this
    · rw [← hW1, ← hD]; exact (Below.heap_alloc _ _ _ (by simp)).trans (World.alloc_heap_new w _)
  have hg1 : w.grownBy W1 none := by
    rw [← hW1]; exact grown_of_below (((Below.refl _ w).alloc (Nat.le_refl _) _).alloc (by simp) _)
  have hb1 : Below w0.heap.size w0 W1 := by
    rw [← hW1]; exact hb0.trans ((((Below.refl _ w).alloc (Nat.le_refl _) _).alloc (by simp) _).mono hb0.size)
  have hC : w0.heap.size ≤ D := hD ▸ hb0.size
  have offN : ∀ {row row' : Option Nat} {W : World}, off row → NextRow row row' W → D + 1 < W.heap.size → off row' := by
    intro row row' W h hn hs r e
    rcases hn with rfl | ⟨r', rfl, h2⟩
    · exact h r e
    · cases e; omega
  have turn : ∀ {W W' : World} {row : Option Nat} {st : LoopState} {pe : Option Code}, kept W st pe → W.grownBy W' row → (∀ r, row = some r → Mine B w0.heap.size W1.heap.size r) → kept W' st pe := by
    intro W W' row st pe hk hg' hr
    have hl := (Array.getElem?_eq_some_iff.1 hk.1).1
    have not : ∀ j, D ≤ j → j ≤ D + 1 → some j ≠ row := by
      intro j h1 h2 e
      rcases hr j e.symm with h | h <;> omega
    exact ⟨(hg'.block _ hl (not _ (by omega) (by omega))).trans hk.1, (hg'.block _ (by omega) (not _ (by omega) (by omega))).trans hk.2⟩
  refine ⟨D + 1, [{ target := .collected D, args := #[] }], W1, { target := .fn (.func gf) lb, args := #[.func (.yield (D + 1)) #[] #[]] }, W1, gf,
    #[.func (.yield (D + 1)) #[] #[]] ++ lb, W1, ?_, ?_, ?_, ?_, fun h => by simp [Fence.wide] at h, ?_⟩
  · rw [← hW1, hrec, ← hD]; exact run_enterLoop_outer _ _ _ _ _
  · simp only [resolve, hg]
    simp [go_sem]
  · intro _ _; trivial
  · simp [invoke, go_sem, eg]
  · refine callsIn_wide.2 (callsIn_wide.1 ((hseq (D + 1) (fun pre row W => I pre row W ∧ kept W .ready none ∧ off row) (fun pre row W => ∃ c, Ix c pre row W ∧ kept W .done (some c) ∧ off row) row0 W1 hb1 ?_ ?_ (fun pre row W h => hKg pre row W h.1) (fun pre row W h => hIl pre row W h.1) hrow0 ?_ ⟨hI _ _ _ _ none h0 hg1 (fun r e => by cases e), hk1, fun r e => by have := hIl0 r e; omega⟩).mono ?_))
    · intro s row A A' rr hs hg' hr
      exact ⟨hI s row A A' rr hs.1 hg' (fun r e => ⟨by rcases (hr r e).1 with h | h <;> omega, (hr r e).2⟩), turn hs.2.1 hg' (fun r e => (hr r e).1), hs.2.2⟩
    · rintro s row A A' rr ⟨c, hc, hk, ho⟩ hg' hr
      exact ⟨c, hIx c s row A A' rr hc hg' (fun r e => ⟨by rcases (hr r e).1 with h | h <;> omega, (hr r e).2⟩), turn hk hg' (fun r e => (hr r e).1), ho⟩
    · rintro pre x row W hsz ⟨hi, hk, hoff⟩ hlen
      have hl := (Array.getElem?_eq_some_iff.1 hk.1).1
      have hy := run_yield (P := P) (args := encs x) hk.1 (by rw [hrec]; exact hps x)
      refine ⟨fn, _, assign, body, by rw [hrec] at hy; exact hy, roundIn_of_wpIn trivial (hassign _ x W _ ⟨_, run_beginRound hk.1 (by rw [hrec]), ?_⟩)⟩
      have notD : row ≠ some D := fun e => (hoff D e).1 rfl
      have notE : row ≠ some (D + 1) := fun e => (hoff _ e).2 rfl
      -- the record turns: ready, busy, ready or done
      have put : ∀ {V : World} {st : LoopState} {pe : Option Code} (st' : LoopState) (pe' : Option Code), D + 1 < V.heap.size → V.heap[D]? = some (.deferred (some [])) → kept (V.putObj (D + 1) (.loop (rec st' pe'))) st' pe' :=
        fun st' pe' h1 h2 => ⟨World.putObj_heap_same h1, (World.putObj_heap_other (by omega)).trans h2⟩
      have stays : ∀ (V : World) (o : Obj) (row : Option Nat), KeptI (Mine B w0.heap.size W1.heap.size) row V (V.putObj (D + 1) o) := fun V o row =>
        KeptI.grown (grownBy_putObj' V (D + 1) o) (fun r e h => by cases e; rcases h with h | h <;> omega)
      have hbusy : { rec LoopState.ready none with state := LoopState.busy } = rec .busy none := by rw [hrec]
      rw [hbusy]
      have hk2 := put (V := W) (st := .ready) (pe := none) .busy none hl hk.2
      have hsz2 : (W.putObj (D + 1) (.loop (rec .busy none))).heap.size = W.heap.size := by simp
      refine wpIn_mono (hbody _ pre x row _ (by simp; omega) (hI _ _ _ _ _ hi (grownBy_putObj' W (D + 1) _) (fun r e => by cases e; exact ⟨by omega, notE⟩)) hlen) ?_
      have fin : ∀ (jump : Option Code) (W3 : World), KeptI (B ≤ ·) row (W.putObj (D + 1) (.loop (rec .busy none))) W3 →
          (Instr.endRound (D + 1) jump).run P W3 = .ok (.bool jump.isNone) (W3.putObj (D + 1) (.loop (rec (if jump.isNone then .ready else .done) jump))) ∧ D + 1 < W3.heap.size ∧ W3.heap[D]? = some (.deferred (some [])) := by
        intro jump W3 h3
        have hl2 := (Array.getElem?_eq_some_iff.1 hk2.1).1
        have h31 := (h3.same (D + 1) (show B ≤ D + 1 by omega) hl2 notE).trans hk2.1
        have h30 := (h3.same D hB (by omega) notD).trans hk2.2
        have he := run_endRound (P := P) jump h31
        rw [hrec] at he ⊢
        exact ⟨he, (Array.getElem?_eq_some_iff.1 h31).1, h30⟩
      have out : ∀ {W3 : World} {row' : Option Nat}, NextRow row row' (W.putObj (D + 1) (.loop (rec .busy none))) → KeptI (B ≤ ·) row (W.putObj (D + 1) (.loop (rec .busy none))) W3 → ∀ o, KeptI (Mine B w0.heap.size W1.heap.size) row W (W3.putObj (D + 1) o) := fun hn h3 o =>
        ((stays W _ row).trans (.inl rfl) (h3.less (fun k h => by rcases h with h | h <;> omega))).trans (row' := row) (.inl rfl) (stays _ o row)
      rintro e a3 W3 hp
      cases e with
      | normal =>
        obtain ⟨row', hn, h3, hi3⟩ := hp
        obtain ⟨hr, hl3, hd3⟩ := fin none W3 h3
        have ho := offN hoff hn (by rw [hsz2]; exact hl)
        have hn2 : NextRow row row' W := hn.imp id (fun ⟨r, e, h⟩ => ⟨r, e, by rw [hsz2] at h; exact h⟩)
        exact ⟨_, _, hr, row', hn2, out hn h3 _, .inl ⟨rfl, hI _ _ _ _ _ hi3 (grownBy_putObj' W3 (D + 1) _) (fun r e => by cases e; exact ⟨by omega, fun e => (ho _ e).2 rfl⟩), put (st := .ready) (pe := none) _ _ hl3 hd3, ho⟩⟩
      | ret =>
        obtain ⟨row', hn, h3, hi3⟩ := hp
        obtain ⟨hr, hl3, hd3⟩ := fin (some .ret) W3 h3
        have ho := offN hoff hn (by rw [hsz2]; exact hl)
        have hn2 : NextRow row row' W := hn.imp id (fun ⟨r, e, h⟩ => ⟨r, e, by rw [hsz2] at h; exact h⟩)
        exact ⟨_, _, hr, row', hn2, out hn h3 _, .inr ⟨hLv _ _ _ _ hi3, rfl, .ret, hIx _ _ _ _ _ _ hi3 (grownBy_putObj' W3 (D + 1) _) (fun r e => by cases e; exact ⟨by omega, fun e => (ho _ e).2 rfl⟩), put (st := .ready) (pe := none) _ _ hl3 hd3, ho⟩⟩
      | exit id => exact hp.elim
      | goto t => exact hp.elim
      | panic ch => exact hp.elim
      | outgrown => exact hp.elim
    · rintro e W2 ⟨⟨v, rfl⟩, (⟨xs, row, hS, hi, hk, ho⟩ | ⟨_, pre, row, hSp, c, hi, hk, ho⟩)⟩
      · exact ⟨none, _, by have := run_endLoop (P := P) hk.1 (by rw [hrec]; simp); rw [hrec] at this; exact this, hdone _ xs row _ (Nat.le_refl _) hS (hI _ _ _ _ _ hi (grownBy_putObj' W2 (D + 1) _) (fun r e => by cases e; exact ⟨by omega, fun e => (ho _ e).2 rfl⟩)) (fun e => (ho _ e).1 rfl) ((World.putObj_heap_other (by omega)).trans hk.2)⟩
      · exact ⟨some c, _, by have := run_endLoop (P := P) hk.1 (by rw [hrec]; simp); rw [hrec] at this; exact this, hstop _ c pre row _ (Nat.le_refl _) hSp (hIx _ _ _ _ _ _ hi (grownBy_putObj' W2 (D + 1) _) (fun r e => by cases e; exact ⟨by omega, fun e => (ho _ e).2 rfl⟩)) (fun e => (ho _ e).1 rfl) ((World.putObj_heap_other (by omega)).trans hk.2)⟩

end Go.Proofs.YtggjoefhopoggaaDoor
