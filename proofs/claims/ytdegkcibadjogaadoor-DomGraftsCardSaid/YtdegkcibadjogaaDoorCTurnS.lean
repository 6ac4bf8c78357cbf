/-
  What stands while the document's turn goes over a plain tree in place.
-/
import Derived.Test.YtdegkcibadjogaaDoorCPlantX
import Derived.Test.YtdegkcibadjogaaDoorCRefX

namespace Go.Proofs.YtdegkcibadjogaaDoor
open Go.RowKit Go.Lib

/-- But for the blocks of S, what was there is as it was. -/
structure Bes (S : Nat → Prop) (a w : World) : Prop where
  os : w.os = a.os
  tape : w.tape = a.tape
  output : w.output = a.output
  size : a.heap.size ≤ w.heap.size
  block : ∀ k, k < a.heap.size → ¬ S k → w.heap[k]? = a.heap[k]?
theorem Bes.of_below {S : Nat → Prop} {a w : World} (h : Below a.heap.size a w) : Bes S a w := ⟨h.os, h.tape, h.output, h.size, fun k hk _ => h.block k hk⟩
theorem Bes.below {S : Nat → Prop} {a w : World} {B : Nat} (h : Bes S a w) (hS : ∀ b, S b → B ≤ b) (hB : B ≤ a.heap.size) : Below B a w :=
  ⟨h.os, h.tape, h.output, h.size, fun k hk => h.block k (by omega) (fun e => by have := hS k e; omega)⟩
theorem Bes.trans {S S' : Nat → Prop} {a b c : World} (h : Bes S a b) (k : Bes S' b c) (hS : ∀ q, q < a.heap.size → S' q → S q) : Bes S a c :=
  ⟨k.os.trans h.os, k.tape.trans h.tape, k.output.trans h.output, Nat.le_trans h.size k.size, fun q hq hn => (k.block q (Nat.lt_of_lt_of_le hq h.size) (fun e => hn (hS q hq e))).trans (h.block q hq hn)⟩
theorem Bes.setCell {S : Nat → Prop} {a w : World} (h : Bes S a w) (b o : Nat) (u : Value) (hb : S b ∨ a.heap.size ≤ b) : Bes S a (w.setCell ⟨b, o, none⟩ u) :=
  ⟨h.os, h.tape, h.output, by simpa [World.setCell] using h.size, fun k hk hn => (Below.heap_setCell _ ⟨b, o, none⟩ _ k (fun e => by
    rcases hb with hb | hb
    · exact hn (by rw [e]; exact hb)
    · have : k = b := e
      omega)).trans (h.block k hk hn)⟩

/-- What turn answers. -/
def TurnPost (S : Nat → Prop) (P : Pt) (W : World) (e : Ending) (w' : World) : Prop :=
  ∃ (tag : Int) (aa : Option Addr) (an ac : Nat) (tx : ByteArray) (ka : Option Addr) (kn kc : Nat) (ats : Row) (kids : List Pn), e = .returned (.agg #[.int .i64 tag, .slice aa an ac, .string tx, .slice ka kn kc]) ∧ (Pn.mk tag aa an ac tx ka kn kc ats kids).pt = P ∧ Bes S W w' ∧
    PlOn (fun b => S b ∨ (W.heap.size ≤ b ∧ b < w'.heap.size)) w' (Pn.mk tag aa an ac tx ka kn kc ats kids)
/-- A plain tree in blocks of its own: turn may go over it. -/
structure TurnOK (S : Nat → Prop) (w : World) (t : Pn) : Prop where
  lt : ∀ b, S b → b < w.heap.size
  run : ∀ W : World, (∀ b, S b → W.heap[b]? = w.heap[b]?) → Calls Tryd.prog 77 #[t.v] W (TurnPost S (anewPt t.pt) W)
theorem TurnOK.keep {S : Nat → Prop} {w w' : World} {t : Pn} (h : TurnOK S w t) (hs : ∀ b, S b → w'.heap[b]? = w.heap[b]?) : TurnOK S w' t :=
  ⟨fun b hb => lt_of_same (h.lt b hb) (hs b hb), fun W hW => h.run W (fun b hb => (hW b hb).trans (hs b hb))⟩

/-- The four cells of an element. -/
structure At4 (w : World) (g o : Nat) (t : Pn) : Prop where
  c0 : w.cell? ⟨g, o, none⟩ = some (.int .i64 t.tag)
  c1 : w.cell? ⟨g, o + 1, none⟩ = some (.slice t.aa t.an t.ac)
  c2 : w.cell? ⟨g, o + 2, none⟩ = some (.string t.tx)
  c3 : w.cell? ⟨g, o + 3, none⟩ = some (.slice t.ka t.kn t.kc)
theorem At4.same {w w' : World} {g o : Nat} {t : Pn} (h : At4 w g o t) (hs : w'.heap[g]? = w.heap[g]?) : At4 w' g o t :=
  have hc : ∀ j, w'.cell? ⟨g, j, none⟩ = w.cell? ⟨g, j, none⟩ := fun _ => World.cell?_of_block (w := w) hs
  ⟨(hc _).trans h.c0, (hc _).trans h.c1, (hc _).trans h.c2, (hc _).trans h.c3⟩
def set4 (w : World) (g o : Nat) (v0 v1 v2 v3 : Value) : World := (((w.setCell ⟨g, o, none⟩ v0).setCell ⟨g, o + 1, none⟩ v1).setCell ⟨g, o + 2, none⟩ v2).setCell ⟨g, o + 3, none⟩ v3
section
variable {w : World} {g o : Nat} {v0 v1 v2 v3 : Value}
theorem set4_size : (set4 w g o v0 v1 v2 v3).heap.size = w.heap.size := by simp [set4, World.setCell]
theorem set4_block {b : Nat} (hb : b ≠ g) : (set4 w g o v0 v1 v2 v3).heap[b]? = w.heap[b]? :=
  (((Below.heap_setCell _ ⟨g, o + 3, none⟩ _ b hb).trans (Below.heap_setCell _ ⟨g, o + 2, none⟩ _ b hb)).trans (Below.heap_setCell _ ⟨g, o + 1, none⟩ _ b hb)).trans (Below.heap_setCell _ ⟨g, o, none⟩ _ b hb)
theorem set4_frozen (a : Addr) : (set4 w g o v0 v1 v2 v3).frozen? a = w.frozen? a := by simp only [set4, World.frozen?_setCell]
theorem set4_other {j : Nat} (hj : j < o ∨ o + 3 < j) : (set4 w g o v0 v1 v2 v3).cell? ⟨g, j, none⟩ = w.cell? ⟨g, j, none⟩ := by
  unfold set4
  rw [World.cell?_setCell_other _ _ _ _ (fun e => by have := congrArg Addr.off e; simp only at this; omega), World.cell?_setCell_other _ _ _ _ (fun e => by have := congrArg Addr.off e; simp only at this; omega), World.cell?_setCell_other _ _ _ _ (fun e => by have := congrArg Addr.off e; simp only at this; omega), World.cell?_setCell_other _ _ _ _ (fun e => by have := congrArg Addr.off e; simp only at this; omega)]
theorem set4_at {t u : Pn} (h : At4 w g o t) : At4 (set4 w g o (.int .i64 u.tag) (.slice u.aa u.an u.ac) (.string u.tx) (.slice u.ka u.kn u.kc)) g o u := by
  have off : ∀ (x : World) (a b : Nat) (v : Value), a ≠ b → (x.setCell ⟨g, b, none⟩ v).cell? ⟨g, a, none⟩ = x.cell? ⟨g, a, none⟩ := fun x a b v hne => World.cell?_setCell_other _ _ _ _ (fun e => by have := congrArg Addr.off e; simp only at this; omega)
  unfold set4
  refine ⟨?_, ?_, ?_, ?_⟩
  · rw [off _ o (o + 3) _ (by omega), off _ o (o + 2) _ (by omega), off _ o (o + 1) _ (by omega)]
    exact World.cell?_setCell_same _ _ _ h.c0
  · rw [off _ (o + 1) (o + 3) _ (by omega), off _ (o + 1) (o + 2) _ (by omega)]
    exact World.cell?_setCell_same _ _ _ ((off _ (o + 1) o _ (by omega)).trans h.c1)
  · rw [off _ (o + 2) (o + 3) _ (by omega)]
    exact World.cell?_setCell_same _ _ _ ((off _ (o + 2) (o + 1) _ (by omega)).trans ((off _ (o + 2) o _ (by omega)).trans h.c2))
  · exact World.cell?_setCell_same _ _ _ ((off _ (o + 3) (o + 2) _ (by omega)).trans ((off _ (o + 3) (o + 1) _ (by omega)).trans ((off _ (o + 3) o _ (by omega)).trans h.c3)))
end

/-- What a plain tree of one's own is made of: A, the blocks of its attributes; g, the block of its kids' row; T, the blocks of each kid. -/
structure TurnIn (S A : Nat → Prop) (T : Nat → Nat → Prop) (g : Nat) (w : World) (aa : Option Addr) (an ac : Nat) (ats : Row) (kids : List Pn) : Prop where
  lt : ∀ b, S b → b < w.heap.size
  asub : ∀ b, A b → S b ∧ b ≠ g
  ts : ∀ j, j < kids.length → ∀ b, T j b → S b ∧ b ≠ g ∧ ¬ A b
  tt : ∀ j j', j < kids.length → j' < kids.length → j ≠ j' → ∀ b, T j b → ¬ T j' b
  gs : kids ≠ [] → S g
  row : ∀ W : World, (∀ b, A b → W.heap[b]? = w.heap[b]?) → RowAt W (.slice aa an ac) ats
  ks : ∀ j s, kids[j]? = some s → TurnOK (T j) w s
  at4 : ∀ j s, kids[j]? = some s → At4 w g (j * 4) s
  fz : kids ≠ [] → ∀ j, w.frozen? ⟨g, j, none⟩ = false
  kl : kids.length ≤ 1000000

/-- So far: the kids us are turned. -/
structure TurnSt (S A : Nat → Prop) (T : Nat → Nat → Prop) (g : Nat) (w W1 : World) (kids us : List Pn) (wr : World) : Prop where
  b : Bes S W1 wr
  done : ∀ j u, us[j]? = some u → ∃ s, kids[j]? = some s ∧ u.pt = anewPt s.pt ∧ PlOn (fun b => T j b ∨ (W1.heap.size ≤ b ∧ b < wr.heap.size)) wr u
  rest : ∀ j, us.length ≤ j → j < kids.length → ∀ b, T j b → wr.heap[b]? = w.heap[b]?
  row : ∀ j s, (us ++ kids.drop us.length)[j]? = some s → At4 wr g (j * 4) s
  fz : kids ≠ [] → ∀ j, wr.frozen? ⟨g, j, none⟩ = false
  att : ∀ b, A b → wr.heap[b]? = w.heap[b]?
section
variable {S A : Nat → Prop} {T : Nat → Nat → Prop} {g : Nat} {w W1 wr W' w4 : World} {aa : Option Addr} {an ac : Nat} {ats : Row} {kids us : List Pn} {s u : Pn}
theorem TurnSt.next (h : TurnSt S A T g w W1 kids us wr) (hI : TurnIn S A T g w aa an ac ats kids) (hSW : ∀ b, S b → b < W1.heap.size) (hs : kids[us.length]? = some s) (hW' : W'.heap = wr.heap) (hos : W'.os = wr.os ∧ W'.tape = wr.tape ∧ W'.output = wr.output)
    (hb : Bes (T us.length) W' w4) (hon : PlOn (fun b => T us.length b ∨ (W'.heap.size ≤ b ∧ b < w4.heap.size)) w4 u) (hpt : u.pt = anewPt s.pt) :
    TurnSt S A T g w W1 kids (us ++ [u]) (set4 w4 g (us.length * 4) (.int .i64 u.tag) (.slice u.aa u.an u.ac) (.string u.tx) (.slice u.ka u.kn u.kc)) := by
  have hkl := (List.getElem?_eq_some_iff.1 hs).1
  have hne : kids ≠ [] := fun e => by rw [e] at hs; simp at hs
  have hg := hI.gs hne
  have hgl := hSW g hg
  have hbs := h.b.size
  have hws : W'.heap.size = wr.heap.size := by rw [hW']
  have h4s := hb.size
  have hTg : ¬ T us.length g := fun e => (hI.ts _ hkl g e).2.1 rfl
  have hg4 : w4.heap[g]? = wr.heap[g]? := (hb.block g (by omega) hTg).trans (by rw [hW'])
  have same : ∀ b, b < wr.heap.size → ¬ T us.length b → b ≠ g → (set4 w4 g (us.length * 4) (.int .i64 u.tag) (.slice u.aa u.an u.ac) (.string u.tx) (.slice u.ka u.kn u.kc)).heap[b]? = wr.heap[b]? := fun b hb1 hb2 hb3 => (set4_block hb3).trans ((hb.block b (by omega) hb2).trans (by rw [hW']))
  have hrow0 : At4 wr g (us.length * 4) s := h.row us.length s (by rw [List.getElem?_append_right (Nat.le_refl _), Nat.sub_self, List.getElem?_drop, Nat.add_zero]; exact hs)
  have hlen : (us ++ [u]).length = us.length + 1 := by simp
  refine ⟨?_, fun j v hv => ?_, fun j hj hjk b hT => ?_, fun j v hv => ?_, fun _ j => ?_, fun b hA => ?_⟩
  · have h1 : Bes (T us.length) wr w4 := ⟨hb.os.trans hos.1, hb.tape.trans hos.2.1, hb.output.trans hos.2.2, by omega, fun k hk hn => (hb.block k (by omega) hn).trans (by rw [hW'])⟩
    have h2 := h.b.trans h1 (fun q _ e => (hI.ts _ hkl q e).1)
    exact (((h2.setCell g _ _ (.inl hg)).setCell g _ _ (.inl hg)).setCell g _ _ (.inl hg)).setCell g _ _ (.inl hg)
  · rcases Nat.lt_or_ge j us.length with hj | hj
    · rw [List.getElem?_append_left hj] at hv
      obtain ⟨s', e1, e2, e3⟩ := h.done j v hv
      have hjl := (List.getElem?_eq_some_iff.1 e1).1
      refine ⟨s', e1, e2, (e3.keep (w' := set4 w4 g (us.length * 4) (.int .i64 u.tag) (.slice u.aa u.an u.ac) (.string u.tx) (.slice u.ka u.kn u.kc)) (fun b hb1 => ?_)).more (fun b hb1 => ?_) (fun b hb1 => ?_)⟩
      · rcases hb1 with hb1 | hb1
        · exact same b (e3.lt b (.inl hb1)) (hI.tt j _ hjl hkl (by omega) b hb1) (hI.ts j hjl b hb1).2.1
        · exact same b hb1.2 (fun e => by have := hSW b (hI.ts _ hkl b e).1; omega) (by omega)
      · rcases hb1 with hb1 | hb1
        · exact .inl hb1
        · exact .inr ⟨hb1.1, by rw [set4_size]; omega⟩
      · rw [set4_size] at hb1 ⊢
        rcases hb1 with hb1 | hb1
        · have := e3.lt b (.inl hb1); omega
        · exact hb1.2
    · rw [List.getElem?_append_right hj] at hv
      have hj0 : j = us.length := by
        have := (List.getElem?_eq_some_iff.1 hv).1
        simp at this
        omega
      subst hj0
      rw [Nat.sub_self] at hv
      obtain rfl : u = v := by simpa using hv
      refine ⟨s, hs, hpt, (hon.keep (w' := set4 w4 g (us.length * 4) (.int .i64 u.tag) (.slice u.aa u.an u.ac) (.string u.tx) (.slice u.ka u.kn u.kc)) (fun b hb1 => set4_block ?_)).more (fun b hb1 => ?_) (fun b hb1 => ?_)⟩
      · rcases hb1 with hb1 | hb1
        · exact (hI.ts _ hkl b hb1).2.1
        · omega
      · rcases hb1 with hb1 | hb1
        · exact .inl hb1
        · exact .inr ⟨by omega, by rw [set4_size]; exact hb1.2⟩
      · rw [set4_size] at hb1 ⊢
        rcases hb1 with hb1 | hb1
        · exact hon.lt b (.inl hb1)
        · exact hb1.2
  · rw [hlen] at hj
    have h1 := h.rest j (by omega) hjk b hT
    exact (same b (lt_of_same ((hI.lt b (hI.ts j hjk b hT).1)) h1) (hI.tt j _ hjk hkl (by omega) b hT) (hI.ts j hjk b hT).2.1).trans h1
  · rw [hlen] at hv
    have hdrop : kids.drop us.length = s :: kids.drop (us.length + 1) := by
      rw [List.drop_eq_getElem_cons hkl]
      congr 1
      exact (List.getElem?_eq_some_iff.1 hs).2
    by_cases hj : j = us.length
    · subst hj
      rw [List.append_assoc, List.getElem?_append_right (Nat.le_refl _), Nat.sub_self] at hv
      obtain rfl : u = v := by simpa using hv
      exact set4_at (hrow0.same hg4)
    · have hv2 : (us ++ kids.drop us.length)[j]? = some v := by
        rw [List.append_assoc] at hv
        rw [hdrop]
        rcases Nat.lt_or_ge j us.length with h1 | h1
        · rw [List.getElem?_append_left h1] at hv ⊢
          exact hv
        · rw [List.getElem?_append_right h1] at hv ⊢
          obtain ⟨m, hm⟩ : ∃ m, j - us.length = m + 1 := ⟨j - us.length - 1, by omega⟩
          rw [hm] at hv ⊢
          exact hv
      have h1 := (h.row j v hv2).same hg4
      exact ⟨(set4_other (by omega)).trans h1.c0, (set4_other (by omega)).trans h1.c1, (set4_other (by omega)).trans h1.c2, (set4_other (by omega)).trans h1.c3⟩
  · rw [set4_frozen]
    exact (World.frozen?_of_block (w := wr) hg4).trans (h.fz hne j)
  · have h1 := h.att b hA
    have h2 := hI.asub b hA
    exact (same b (lt_of_same (hI.lt b h2.1) h1) (fun e => (hI.ts _ hkl b e).2.2 hA) h2.2).trans h1
end

end Go.Proofs.YtdegkcibadjogaaDoor
