/-
  What stands while Plain goes over a node's kids.
    Plain: what a tree says of a node, as a plain tree in memory of its own.
-/
import Derived.Test.YtdegkcibadjogaaDoorCPn
import Derived.Test.YtdegkcibadjogaaDoorCAppN
import Derived.Test.YtdegkcibadjogaaDoorCCopied
import Derived.Test.YtdegkcibadjogaaDoorCSet
import Derived.Deep.RegionLaw

namespace Go.Proofs.YtdegkcibadjogaaDoor
open Go.RowKit Go.Lib

/-- The answer's box q, still empty; the box r of what is told: its attributes in a row of one's own, its kids so far in another. -/
structure PlSt (w0 : World) (B1 q r : Nat) (tag : Int) (a2 : Option Addr) (c2 : Nat) (tx : ByteArray) (ats : Row) (ka : Option Addr) (kc : Nat) (ts : List Pn) (wr : World) : Prop where
  b : Below w0.heap.size w0 wr
  hs : B1 ≤ wr.heap.size
  z0 : wr.cell? ⟨q, 0, none⟩ = some (.int .i64 0)
  z1 : wr.cell? ⟨q, 1, none⟩ = some (.slice none 0 0)
  z2 : wr.cell? ⟨q, 2, none⟩ = some (.string ⟨#[]⟩)
  z3 : wr.cell? ⟨q, 3, none⟩ = some (.slice none 0 0)
  zf : ∀ j, wr.frozen? ⟨q, j, none⟩ = false
  y0 : wr.cell? ⟨r, 0, none⟩ = some (.int .i64 tag)
  y1 : wr.cell? ⟨r, 1, none⟩ = some (.slice a2 ats.length c2)
  y2 : wr.cell? ⟨r, 2, none⟩ = some (.string tx)
  y3 : wr.cell? ⟨r, 3, none⟩ = some (.slice ka ts.length kc)
  yf : ∀ j, wr.frozen? ⟨r, j, none⟩ = false
  oa : wr.ownsRow w0.heap.size 61 2 (.slice a2 ats.length c2) ats.length (cellsR ats)
  ab : ∀ b, (Value.slice a2 ats.length c2).ownBlock = some b → b < B1 ∧ b ≠ q ∧ b ≠ r
  ok : wr.ownsRow w0.heap.size 34 4 (.slice ka ts.length kc) ts.length (cellsN ts)
  kb : ∀ b, (Value.slice ka ts.length kc).ownBlock = some b → B1 ≤ b
  ks : ∀ s ∈ ts, PlOn (fun b => B1 ≤ b ∧ b < wr.heap.size ∧ (Value.slice ka ts.length kc).ownBlock ≠ some b) wr s

section
variable {w0 wr wC wA w5 : World} {B1 q r g k : Nat} {tag : Int} {a2 ka : Option Addr} {c2 kc : Nat} {tx : ByteArray} {ats : Row} {ts : List Pn} {t : Pn}
theorem PlSt.next (s : PlSt w0 B1 q r tag a2 c2 tx ats ka kc ts wr) (hq : q < B1) (hr : r < B1) (hqr : q ≠ r) (hr0 : w0.heap.size ≤ r) (hbC : Below wr.heap.size wr wC) (hon : PlOn (fun b => wr.heap.size ≤ b ∧ b < wC.heap.size) wC t) (hbA : Below wC.heap.size wC wA)
    (own3 : w5.ownsRow w0.heap.size 34 4 (.slice (some ⟨g, 0, none⟩) (ts.length + 1) k) (ts.length + 1) (cellsN ts ++ encN t)) (gr : wA.grownBy w5 (Value.slice ka ts.length kc).ownBlock) (hw : (Value.slice ka ts.length kc).ownBlock = some g ∨ wA.heap.size ≤ g) :
    PlSt w0 B1 q r tag a2 c2 tx ats (some ⟨g, 0, none⟩) k (ts ++ [t]) (w5.setCell ⟨r, 3, none⟩ (.slice (some ⟨g, 0, none⟩) (ts.length + 1) k)) := by
  have h1 := hbC.size
  have h2 := hbA.size
  have h3 := gr.size
  have hs := s.hs
  have hbs := s.b.size
  have ebk : (Value.slice (some (⟨g, 0, none⟩ : Addr)) (ts.length + 1) k).ownBlock = some g := rfl
  have kold : ∀ b, (Value.slice ka ts.length kc).ownBlock = some b → b < wr.heap.size := fun b e => (s.ok.lt b e).2
  have keep : ∀ b, b < wr.heap.size → (Value.slice ka ts.length kc).ownBlock ≠ some b → w5.heap[b]? = wr.heap[b]? := fun b hb hne =>
    ((gr.block b (by omega) (fun e => hne e.symm)).trans (hbA.block b (by omega))).trans (hbC.block b hb)
  have keepC : ∀ b, wr.heap.size ≤ b → b < wC.heap.size → w5.heap[b]? = wC.heap[b]? := fun b hb hb2 =>
    (gr.block b (by omega) (fun e => by have := kold b e.symm; omega)).trans (hbA.block b hb2)
  have set_ : ∀ b, b ≠ r → (w5.setCell ⟨r, 3, none⟩ (.slice (some ⟨g, 0, none⟩) (ts.length + 1) k)).heap[b]? = w5.heap[b]? := fun b hb => Below.heap_setCell _ ⟨r, 3, none⟩ _ b hb
  have sz : (w5.setCell ⟨r, 3, none⟩ (.slice (some ⟨g, 0, none⟩) (ts.length + 1) k)).heap.size = w5.heap.size := by simp [World.setCell]
  have nq : (Value.slice ka ts.length kc).ownBlock ≠ some q := fun e => by have := s.kb q e; omega
  have nr : (Value.slice ka ts.length kc).ownBlock ≠ some r := fun e => by have := s.kb r e; omega
  have cq : ∀ j, (w5.setCell ⟨r, 3, none⟩ (.slice (some ⟨g, 0, none⟩) (ts.length + 1) k)).cell? ⟨q, j, none⟩ = wr.cell? ⟨q, j, none⟩ := fun j => World.cell?_of_block (w := wr) ((set_ q hqr).trans (keep q (by omega) nq))
  have cr : ∀ j, w5.cell? ⟨r, j, none⟩ = wr.cell? ⟨r, j, none⟩ := fun j => World.cell?_of_block (w := wr) (keep r (by omega) nr)
  have cr2 : ∀ j, j ≠ 3 → (w5.setCell ⟨r, 3, none⟩ (.slice (some ⟨g, 0, none⟩) (ts.length + 1) k)).cell? ⟨r, j, none⟩ = wr.cell? ⟨r, j, none⟩ := fun j hj => (World.cell?_setCell_other _ _ _ _ (fun e => hj (congrArg Addr.off e).symm)).trans (cr j)
  have hlen : (ts ++ [t]).length = ts.length + 1 := by simp
  have hgB : B1 ≤ g := by
    rcases hw with e | e
    · exact s.kb g e
    · omega
  have hbw : Below w0.heap.size w0 wA := s.b.trans ((hbC.trans (hbA.mono h1)).mono hbs)
  have okA : wA.ownsRow w0.heap.size 34 4 (.slice ka ts.length kc) ts.length (cellsN ts) := ownsRow_same s.ok (fun b e => (hbA.block b (by have := kold b e; omega)).trans (hbC.block b (kold b e)))
  refine ⟨(below_grown hbw (by omega) okA gr).setCell (p := ⟨r, 3, none⟩) hr0 _, by omega, (cq 0).trans s.z0, (cq 1).trans s.z1, (cq 2).trans s.z2, (cq 3).trans s.z3, fun j => ?_, (cr2 0 (by decide)).trans s.y0, (cr2 1 (by decide)).trans s.y1, (cr2 2 (by decide)).trans s.y2, ?_, fun j => ?_, ?_, s.ab, ?_, ?_, ?_⟩
  · exact (World.frozen?_of_block (w := wr) ((set_ q hqr).trans (keep q (by omega) nq))).trans (s.zf j)
  · rw [hlen]
    exact World.cell?_setCell_same _ _ _ ((cr 3).trans s.y3)
  · rw [World.frozen?_setCell]
    exact (World.frozen?_of_block (w := wr) (keep r (by omega) nr)).trans (s.yf j)
  · refine ownsRow_same s.oa (fun b e => ?_)
    obtain ⟨a1, a3, a4⟩ := s.ab b e
    exact (set_ b a4).trans (keep b (by omega) (fun e2 => by have := s.kb b e2; omega))
  · rw [hlen, cellsN_append]
    have e4 : cellsN [t] = encN t := by unfold cellsN; simp
    rw [e4]
    exact ownsRow_same own3 (fun b e => by
      obtain rfl : g = b := by simpa [ebk] using e
      exact set_ g (by omega))
  · intro b e
    rw [hlen] at e
    obtain rfl : g = b := by simpa [ebk] using e
    exact hgB
  · intro u hu
    rw [hlen, ebk, sz]
    rcases List.mem_append.1 hu with hu | hu
    · refine ((s.ks u hu).keep (w' := w5.setCell ⟨r, 3, none⟩ (.slice (some ⟨g, 0, none⟩) (ts.length + 1) k)) (fun b hb => (set_ b (by omega)).trans (keep b hb.2.1 hb.2.2))).more (fun b hb => ⟨hb.1, by omega, fun e => ?_⟩) (fun b hb => by rw [sz]; exact hb.2.1)
      obtain rfl : g = b := by simpa using e
      rcases hw with e2 | e2
      · exact hb.2.2 e2
      · omega
    · obtain rfl : u = t := by simpa using hu
      refine (hon.keep (w' := w5.setCell ⟨r, 3, none⟩ (.slice (some ⟨g, 0, none⟩) (ts.length + 1) k)) (fun b hb => (set_ b (by omega)).trans (keepC b hb.1 hb.2))).more (fun b hb => ⟨by omega, by omega, fun e => ?_⟩) (fun b hb => by rw [sz]; exact hb.2.1)
      obtain rfl : g = b := by simpa using e
      rcases hw with e2 | e2
      · have := kold g e2; omega
      · omega

/-- The answer is laid into its box. -/
theorem PlSt.done (s : PlSt w0 B1 q r tag a2 c2 tx ats ka kc ts wr) (hq0 : w0.heap.size ≤ q) (hq : q < B1) (hl : ts.length ≤ 100000) (w' : World) (hw : ∀ b, b ≠ q → w'.heap[b]? = wr.heap[b]?) (hsz : w'.heap.size = wr.heap.size) :
    PlOn (fun b => w0.heap.size ≤ b ∧ b < w'.heap.size) w' (.mk tag a2 ats.length c2 tx ka ts.length kc ats ts) := by
  have hs := s.hs
  have h1 : PlOn (fun b => w0.heap.size ≤ b ∧ b < wr.heap.size ∧ b ≠ q) wr (.mk tag a2 ats.length c2 tx ka ts.length kc ats ts) := by
    refine PlOn.node (fun b hb => hb.2.1) s.oa (fun b e => ⟨(s.oa.lt b e).1, (s.oa.lt b e).2, (s.ab b e).2.1⟩) s.ok (fun b e => ⟨(s.ok.lt b e).1, (s.ok.lt b e).2, by have := s.kb b e; omega⟩) hl (fun u hu => ?_)
    exact (s.ks u hu).more (fun b hb => ⟨by omega, hb.2.1, by omega⟩) (fun b hb => hb.2.1)
  exact (h1.keep (w' := w') (fun b hb => hw b hb.2.2)).more (fun b hb => ⟨hb.1, by omega⟩) (fun b hb => hb.2)
end

/-- What Plain answers. -/
def PlainPost (P : Pt) (w : World) (e : Ending) (w' : World) : Prop :=
  ∃ (tag : Int) (aa : Option Addr) (an ac : Nat) (tx : ByteArray) (ka : Option Addr) (kn kc : Nat) (ats : Row) (kids : List Pn), e = .returned (.agg #[.int .i64 tag, .slice aa an ac, .string tx, .slice ka kn kc]) ∧ (Pn.mk tag aa an ac tx ka kn kc ats kids).pt = P ∧ Below w.heap.size w w' ∧
    PlOn (fun b => w.heap.size ≤ b ∧ b < w'.heap.size) w' (Pn.mk tag aa an ac tx ka kn kc ats kids)

/-- Two boxes that are new: the answer's, still empty, and the one of what is told. -/
structure PlBox (q : Nat) (tag : Int) (aa : Option Addr) (an ac : Nat) (tx : ByteArray) (w : World) : Prop where
  z0 : w.cell? ⟨q, 0, none⟩ = some (.int .i64 0)
  z1 : w.cell? ⟨q, 1, none⟩ = some (.slice none 0 0)
  z2 : w.cell? ⟨q, 2, none⟩ = some (.string ⟨#[]⟩)
  z3 : w.cell? ⟨q, 3, none⟩ = some (.slice none 0 0)
  zf : ∀ j, w.frozen? ⟨q, j, none⟩ = false
  y0 : w.cell? ⟨q + 1, 0, none⟩ = some (.int .i64 tag)
  y1 : w.cell? ⟨q + 1, 1, none⟩ = some (.slice aa an ac)
  y2 : w.cell? ⟨q + 1, 2, none⟩ = some (.string tx)
  y3 : w.cell? ⟨q + 1, 3, none⟩ = some (.slice none 0 0)
  yf : ∀ j, w.frozen? ⟨q + 1, j, none⟩ = false
theorem PlBox.below {q : Nat} {tag : Int} {aa : Option Addr} {an ac : Nat} {tx : ByteArray} {w w' : World} (h : PlBox q tag aa an ac tx w) (hb : Below w.heap.size w w') (hl : q + 1 < w.heap.size) : PlBox q tag aa an ac tx w' :=
  have hc : ∀ b j, b < w.heap.size → w'.cell? ⟨b, j, none⟩ = w.cell? ⟨b, j, none⟩ := fun b j hl => hb.cell (p := ⟨b, j, none⟩) hl
  have hf : ∀ b j, b < w.heap.size → w'.frozen? ⟨b, j, none⟩ = w.frozen? ⟨b, j, none⟩ := fun b j hl => hb.frozen (p := ⟨b, j, none⟩) hl
  ⟨(hc q 0 (by omega)).trans h.z0, (hc q 1 (by omega)).trans h.z1, (hc q 2 (by omega)).trans h.z2, (hc q 3 (by omega)).trans h.z3, fun j => (hf q j (by omega)).trans (h.zf j),
   (hc _ 0 hl).trans h.y0, (hc _ 1 hl).trans h.y1, (hc _ 2 hl).trans h.y2, (hc _ 3 hl).trans h.y3, fun j => (hf _ j hl).trans (h.yf j)⟩
theorem PlBox.st {w W w2 : World} {q n c2 : Nat} {tag : Int} {aa a2 : Option Addr} {an ac : Nat} {tx : ByteArray} {ats : Row} (hq : w.heap.size = q) (hsW : W.heap.size = q + 1 + 1) (hbW : Below w.heap.size w W) (hb2 : Below W.heap.size W w2) (hx : PlBox q tag aa an ac tx w2)
    (o2 : w2.ownsRow W.heap.size 61 2 (.slice a2 n c2) ats.length (cellsR ats)) (hn : n = ats.length) : PlSt w w2.heap.size q (q + 1) tag a2 c2 tx ats none 0 [] (w2.setCell ⟨q + 1, 1, none⟩ (.slice a2 n c2)) := by
  subst hn
  have hs2 := hb2.size
  have ob : ∀ b, (Value.slice a2 ats.length c2).ownBlock = some b → q + 1 + 1 ≤ b ∧ b < w2.heap.size := fun b e => by have := o2.lt b e; rw [hsW] at this; exact this
  have set_ : ∀ b, b ≠ q + 1 → (w2.setCell ⟨q + 1, 1, none⟩ (.slice a2 ats.length c2)).heap[b]? = w2.heap[b]? := fun b hb => Below.heap_setCell _ ⟨q + 1, 1, none⟩ _ b hb
  have sz : (w2.setCell ⟨q + 1, 1, none⟩ (.slice a2 ats.length c2)).heap.size = w2.heap.size := by simp [World.setCell]
  have cq : ∀ j, (w2.setCell ⟨q + 1, 1, none⟩ (.slice a2 ats.length c2)).cell? ⟨q, j, none⟩ = w2.cell? ⟨q, j, none⟩ := fun j => World.cell?_of_block (w := w2) (set_ q (by omega))
  have cr : ∀ j, j ≠ 1 → (w2.setCell ⟨q + 1, 1, none⟩ (.slice a2 ats.length c2)).cell? ⟨q + 1, j, none⟩ = w2.cell? ⟨q + 1, j, none⟩ := fun j hj => World.cell?_setCell_other _ _ _ _ (fun e => hj (congrArg Addr.off e).symm)
  refine ⟨(hbW.trans (hb2.mono hbW.size)).setCell (p := ⟨q + 1, 1, none⟩) (by show w.heap.size ≤ q + 1; omega) _, by omega, (cq 0).trans hx.z0, (cq 1).trans hx.z1, (cq 2).trans hx.z2, (cq 3).trans hx.z3, fun j => ?_, (cr 0 (by decide)).trans hx.y0, World.cell?_setCell_same _ _ _ hx.y1, (cr 2 (by decide)).trans hx.y2, (cr 3 (by decide)).trans hx.y3, fun j => ?_, ?_, fun b e => ?_, World.ownsRow_nil _ _ _ _, fun b e => (by cases e), fun s hs => (by cases hs)⟩
  · rw [World.frozen?_setCell]; exact hx.zf j
  · rw [World.frozen?_setCell]; exact hx.yf j
  · exact own_mono2 (ownsRow_same o2 (fun b e => set_ b (by have := ob b e; omega))) hbW.size
  · have := ob b e
    exact ⟨by omega, by omega, by omega⟩
theorem pre_of {a b c : World} (_ : Below b.heap.size b c) (h : Below a.heap.size a b) : Below a.heap.size a b := h
theorem plainPost_none {w w' : World} (hb : Below w.heap.size w w') : PlainPost (.mk 0 ⟨#[]⟩ [] []) w (.returned (.agg #[.int .i64 0, .slice none 0 0, .string ⟨#[]⟩, .slice none 0 0])) w' := by
  refine ⟨0, none, 0, 0, ⟨#[]⟩, none, 0, 0, [], [], rfl, rfl, hb, ⟨fun b hb => hb.2, fun w2 _ => ?_⟩⟩
  exact .mk (.inl ⟨none, 0, rfl, fun _ => rfl, rfl⟩) rfl (Nat.zero_le _) (.inl rfl) (fun s hs => by cases hs)

set_option maxRecDepth 20000 in
set_option maxHeartbeats 4000000 in
theorem plain_none (w : World) (p nb : Nat) (deep : Int) (l : List (Option Nd)) (h : TreeAt w p nb deep l) (hln : nb < w.heap.size) (id : Int) (hx : ndAt l id = none) :
    Calls Tryd.prog 21 #[.pointer (some ⟨p, 0, none⟩), .int .i64 id] w (PlainPost (.mk 0 ⟨#[]⟩ [] []) w) := by
  have hb1 := (Below.refl _ w).alloc (Nat.le_refl _) (.cells #[.int .i64 0, .slice none 0 0, .string ⟨#[]⟩, .slice none 0 0] 34)
  have cN := node_any _ p nb deep id l (h.below hln hb1)
  rw [hx] at cN
  unfold ndV at cN
  have HB := Lib.hid hb1
  clear h hx hb1
  go_enter Tryd.func21, Tryd.ntmps21
  go_wp2_with (go_at_call 73; ((with_reducible refine (cN).mono ?_); rintro e w1 ⟨rfl, rfl⟩))
  refine bodyPost_ret (v := .agg #[.int .i64 0, .slice none 0 0, .string ⟨#[]⟩, .slice none 0 0]) (by simp [results, Tryd.results21, go_sem, *]) rfl (plainPost_none HB.out)

set_option maxRecDepth 20000 in
set_option maxHeartbeats 8000000 in
theorem plain_any (B p nb : Nat) (deep : Int) (l : List (Option Nd)) (hA : ∀ (i : Nat) (x : Nd), l[i]? = some (some x) → x.ats.length ≤ 10000) : ∀ (n : Nat) (id : Int), endsH l n id → ∀ w : World, Full B w p nb deep l →
    Calls Tryd.prog 21 #[.pointer (some ⟨p, 0, none⟩), .int .i64 id] w (PlainPost (plainF l n id) w)
  | 0, id, he, w, h => plain_none w p nb deep l h.t h.ln id he
  | n + 1, id, he, w, h => by
    cases hx : ndAt l id with
    | none =>
      rw [plainF_none hx]
      exact plain_none w p nb deep l h.t h.ln id hx
    | some x =>
      obtain ⟨i0, hi, hz0, hz1, hz2⟩ := info_parts infoNode
      have cN : ∀ wq, Below w.heap.size w wq → Calls Tryd.prog 73 #[.pointer (some ⟨p, 0, none⟩), .int .i64 id] wq fun e w' => e = .returned (.pointer (some ⟨x.ab, 0, none⟩)) ∧ wq = w' := fun wq hb => by
        have := node_any wq p nb deep id l (h.below hb).t
        rw [hx] at this
        exact this
      rw [plainF_some hx]
      have hxl := (ndAt_some hx).2
      have hax := hA _ x hxl
      have cR := fun (w1 : World) (hb : Below w.heap.size w w1) => cloneR_any B w1 x.aa x.an x.ac x.ats (ownsRow_below (h.ra _ x hxl) hb) (by omega)
      unfold OwnR at cR
      have cP : ∀ (k : Int), k ∈ x.kids → ∀ w1 : World, Below w.heap.size w w1 → Calls Tryd.prog 21 #[.pointer (some ⟨p, 0, none⟩), .int .i64 k] w1 (PlainPost (plainF l n k) w1) := fun k hk w1 hb => plain_any B p nb deep l hA n k (he x hx k hk) w1 (h.below hb)
      have KN : Hid (∀ w1 : World, Below w.heap.size w w1 → NodeAt w1 x) := Lib.hid (fun w1 hb => ((h.below hb).t.yes _ x hxl).2)
      have HC := Lib.hid cP
      have hkl := (h.t.yes _ x hxl).2.kl
      have hb1 := (Below.refl _ w).alloc (Nat.le_refl _) (.cells #[.int .i64 0, .slice none 0 0, .string ⟨#[]⟩, .slice none 0 0] 34)
      obtain ⟨c0, c1, c2, c3, c4, c5, _, _, _⟩ := KN.out _ hb1
      have hxw : x.ab < w.heap.size := lt_of_cell' (h.t.yes _ x hxl).2.c0
      have HB := Lib.hid hb1
      have cN2 := cN _ hb1
      clear h hx hxl he hA cP cN c4 c5 hb1
      go_enter Tryd.func21, Tryd.ntmps21
      go_upto_region 5 with (go_at_call 73; ((with_reducible refine (cN2).mono ?_); rintro e w1 ⟨rfl, rfl⟩))
      obtain ⟨q, hq⟩ : ∃ q, w.heap.size = q := ⟨_, rfl⟩
      obtain ⟨W, hW⟩ : ∃ W, (w.alloc (.cells #[.int .i64 0, .slice none 0 0, .string ⟨#[]⟩, .slice none 0 0] 34)).alloc (.cells #[.int .i64 x.tag, .slice x.aa x.an x.ac, .string x.tx, .slice none 0 0] 34) = W := ⟨_, rfl⟩
      have hbW : Below w.heap.size w W := by rw [← hW]; exact ((Below.refl _ _).alloc (Nat.le_refl _) _).alloc (by simp) _
      have hsW : W.heap.size = q + 1 + 1 := by rw [← hW, ← hq]; simp
      have KW : Hid (∀ W', Below W.heap.size W W' → PlBox q x.tag x.aa x.an x.ac x.tx W') := Lib.hid (fun W' hb => by
        refine PlBox.below ?_ hb (by rw [hsW]; omega)
        rw [← hW, ← hq]
        exact ⟨by simp [go_sem], by simp [go_sem], by simp [go_sem], by simp [go_sem], fun j => by simp [go_sem], by simp [go_sem], by simp [go_sem], by simp [go_sem], by simp [go_sem], fun j => by simp [go_sem]⟩)
      (try simp only [hq])
      have hW2 := hW
      rw [hq] at hxw
      rw [hW]
      clear hW c0 c1 c2 c3 HB cN2
      have HW := Lib.hid hbW
      clear hbW
      obtain ⟨c0, c1, c2, c3, c4, c5, _, _, _⟩ := KN.out _ HW.out
      obtain ⟨_, _, _, _, _, y0, y1, y2, y3, yf⟩ := KW.out _ (Below.refl _ _)
      have yf1 := yf 1
      clear c0 c2 c3 c4 c5 yf
      go_upto_region 6 with (go_at_call 74; ((with_reducible refine (cR _ HW.out).mono ?_); rintro e w2 ⟨v2, rfl, o2, hb2⟩; obtain ⟨a2, c2, rfl⟩ := (rowAt_of_own o2).len; clear y0 y1 y2 y3 yf1; obtain ⟨_, _, _, _, _, y0, y1, y2, y3, yf⟩ := KW.out _ hb2; have yf1 := yf 1; clear yf))
      have S0 := PlBox.st hq hsW HW.out hb2 (KW.out _ hb2) o2 rfl
      have hB1 : q + 1 < w2.heap.size := by have := hb2.size; omega
      obtain ⟨B1, hB1e⟩ : ∃ z, w2.heap.size = z := ⟨_, rfl⟩
      rw [hB1e] at S0 hB1
      obtain ⟨W5, hW5⟩ : ∃ z, w2.setCell ⟨q + 1, 1, none⟩ (.slice a2 x.ats.length c2) = z := ⟨_, rfl⟩
      rw [hW5] at S0
      rw [hW5]
      have HS0 := Lib.hid S0
      clear S0 hW5 hB1e o2 hb2 y0 y1 y2 y3 yf1 c1 KW HW hsW cR hax hW2
      obtain ⟨_, _, _, _, _, c5, _, ks5, _⟩ := KN.out _ HS0.out.b
      obtain ⟨m, hm⟩ : ∃ m, x.kids.length = m := ⟨_, rfl⟩
      rw [hm] at c5 hkl
      have HM := Lib.hid hm
      clear hm ks5
      go_upto_region 7 with (fail)
      clear c5
      go_loopw [8, 31] (fun _ i wr => ∃ (ts : List Pn) (ka : Option Addr) (kc : Nat), ts.length ≤ m ∧ i = .int .i64 (ts.length : Int) ∧ Hid (PlSt w B1 q (q + 1) x.tag a2 c2 x.tx x.ats ka kc ts wr) ∧ Hid (ts.map Pn.pt = (x.kids.take ts.length).map (plainF l n))) (fun _ i _ => m - (RowKit.intOf i).toNat)
      case atStart => exact ⟨[], none, 0, Nat.zero_le _, rfl, HS0, Lib.hid rfl⟩
      case round =>
        obtain ⟨ts, ka, kc, hle, rfl, HS, HP⟩ := hrel
        obtain ⟨k, hk⟩ : ∃ k, ts.length = k := ⟨_, rfl⟩
        by_cases hlt : k < m
        · have hkl2 : k < x.kids.length := by rw [HM.out]; exact hlt
          have hbr : Below w.heap.size w wr := HS.out.b
          have hwr : w.heap.size ≤ wr.heap.size := hbr.size
          obtain ⟨kb, ko, ek, hkc⟩ : ∃ b o, x.ka = some ⟨b, o, none⟩ ∧ ∀ j, j < x.kids.length → wr.cell? ⟨b, o + j, none⟩ = some (.int .i64 (x.kids[j]!)) := by
            rcases (KN.out _ hbr).ks with h0 | h0
            · rw [h0] at hkl2; simp at hkl2
            · exact h0
          have hc := hkc k hkl2
          have hin : x.kids[k]! ∈ x.kids := by rw [List.getElem!_eq_getElem?_getD, List.getElem?_eq_getElem hkl2]; exact List.getElem_mem hkl2
          have hnx : x.kids.take (k + 1) = x.kids.take k ++ [x.kids[k]!] := by rw [List.getElem!_eq_getElem?_getD, List.getElem?_eq_getElem hkl2, List.take_add_one, List.getElem?_eq_getElem hkl2]; rfl
          have cZ : ∀ w1 : World, Below wr.heap.size wr w1 → Calls Tryd.prog 21 #[.pointer (some ⟨p, 0, none⟩), .int .i64 (x.kids[k]!)] w1 (PlainPost (plainF l n (x.kids[k]!)) w1) := fun w1 hb1 => HC.out _ hin w1 (hbr.trans (hb1.mono hwr))
          unfold PlainPost at cZ
          obtain ⟨z, hz⟩ : ∃ z, x.kids[k]! = z := ⟨_, rfl⟩
          rw [hz] at hc cZ hnx
          have HN : Hid (∀ t : Pn, t.pt = plainF l n z → (ts ++ [t]).map Pn.pt = (x.kids.take (ts.length + 1)).map (plainF l n)) := Lib.hid (fun t ht => by
            rw [List.map_append, HP.out, hk, hnx, List.map_append]
            simp [ht])
          have hkI : (ts.length : Int) < (m : Int) := by omega
          rw [ek]
          have y3 := HS.out.y3
          have yf3 := HS.out.yf 3
          have HO : Hid (∀ W', Below wr.heap.size wr W' → W'.ownsRow w.heap.size 34 4 (.slice ka ts.length kc) ts.length (cellsN ts)) := Lib.hid (fun W' h => ownsRow_below HS.out.ok h)
          have KB := Lib.hid HS.out.kb
          have hqr : q + 1 < wr.heap.size := lt_of_cell' y3
          have KS : Hid (∀ W', Below wr.heap.size wr W' → (W'.cell? ⟨q + 1, 3, none⟩ = some (.slice ka ts.length kc) ∧ W'.frozen? ⟨q + 1, 3, none⟩ = false)) := Lib.hid (fun W' h => ⟨(h.cell (p := ⟨q + 1, 3, none⟩) hqr).trans y3, (h.frozen (p := ⟨q + 1, 3, none⟩) hqr).trans yf3⟩)
          have KG : Hid (∀ W1 W2, Below wr.heap.size wr W1 → W1.grownBy W2 (Value.slice ka ts.length kc).ownBlock → (W2.cell? ⟨q + 1, 3, none⟩ = some (.slice ka ts.length kc) ∧ W2.frozen? ⟨q + 1, 3, none⟩ = false)) := Lib.hid (fun W1 W2 h1 h2 => by
            obtain ⟨c1, c2⟩ := KS.out W1 h1
            have hh := h2.block (q + 1) (lt_of_cell' c1) (fun e => by have := KB.out _ e.symm; omega)
            exact ⟨(World.cell?_of_block (w := W1) hh).trans c1, (World.frozen?_of_block (w := W1) hh).trans c2⟩)
          have hb : Hid (Below wr.heap.size wr wr) := Lib.hid (Below.refl _ _)
          have hlen : ts.length ≤ 2000 := by omega
          have hzz : wr.heap.size ≤ wr.heap.size := Nat.le_refl _
          have hqB : q < B1 := by omega
          have hqn : q ≠ q + 1 := by omega
          have hq0 : w.heap.size ≤ q + 1 := by omega
          rw [← hk] at hc
          clear hkc hin hnx hz hkl2 hbr hk HP HS0
          go_upto_region 9 with (fail)
          clear hc
          go_region_law (first
            | (refine step_call rfl (f := 21) (vs := #[.pointer (some ⟨p, 0, none⟩), .int .i64 z]) rfl rfl (by kernel_rfl) (by kernel_rfl) (by go_simp) (cZ _ (by (repeat (first | (with_reducible exact hb.out) | (with_reducible exact Below.refl _ _) | (with_reducible refine Below.drew ?_) | (with_reducible refine Below.alloc ?_ ?_ _) | omega | (simp <;> omega))))) ?_; rintro e w4 ⟨tg, a3, n3, c3, x3, k3, m3, c4, ats3, kids3, rfl, hpt, hb4, hon⟩; have hbq := Lib.hid (pre_of (a := wr) hb4 (by (repeat (first | (with_reducible exact hb.out) | (with_reducible exact Below.refl _ _) | (with_reducible refine Below.drew ?_) | (with_reducible refine Below.alloc ?_ ?_ _) | omega | (simp <;> omega))))); have hon2 := Lib.hid (hon.more (S' := fun b => wr.heap.size ≤ b ∧ b < w4.heap.size) (fun b hb => ⟨Nat.le_trans hbq.out.size hb.1, hb.2⟩) (fun b hb => hb.2)); have hd2 := Lib.hid (hbq.out.trans (hb4.mono hbq.out.size)); clear hb hon hb4 hbq; have hb := hd2; have hbC := hd2; clear hd2; replace hzz := hb.out.size; clear y3 yf3; obtain ⟨y3, yf3⟩ := KS.out _ hb.out; have y3a : ∀ o : Obj, (w4.alloc o).cell? ⟨q + 1, 3, none⟩ = some (.slice ka ts.length kc) := fun o => (KS.out _ (hb.out.alloc hb.out.size o)).1; have HPT := Lib.hid hpt; clear hpt; refine ⟨_, rfl, ?_⟩)
            | (refine step_append_where rfl _ _ 32 rfl w.heap.size 34 i0 _ 4 72 Tryd.underlying32 hi hz0 hz1 hz2 rfl (by decide) (.slice ka ts.length kc) ts.length (cellsN ts) rfl (HO.out _ (by (repeat (first | (with_reducible exact hb.out) | (with_reducible exact Below.refl _ _) | (with_reducible refine Below.drew ?_) | (with_reducible refine Below.alloc ?_ ?_ _) | omega | (simp <;> omega))))) ⟨_, 0, none⟩ 1 1 [.int .i64 tg, .slice a3 n3 c3, .string x3, .slice k3 m3 c4] rfl rfl (by
                intro j u hu
                match j, hu with
                | 0, hu => cases hu; simp [go_sem]
                | 1, hu => cases hu; simp [go_sem]
                | 2, hu => cases hu; simp [go_sem]
                | 3, hu => cases hu; simp [go_sem]
                | j + 4, hu => simp at hu) (by
                intro u hu
                simp only [List.mem_cons, List.not_mem_nil, or_false] at hu
                rcases hu with rfl | rfl | rfl | rfl <;> rfl) (by unfold maxLen; omega) (by omega) (by have := hb.out.size; simp; omega) (by decide) ?_; intro g5 k5 w5 own5 gr5 hw5; clear y3 yf3; (try clear y3a); obtain ⟨y3, yf3⟩ := KG.out _ _ (hbC.out.trans (Below.mono (show Below w4.heap.size w4 _ by (repeat (first | (with_reducible exact Below.refl _ _) | (with_reducible refine Below.drew ?_) | (with_reducible refine Below.alloc ?_ ?_ _) | omega | (simp <;> omega)))) hzz)) gr5; have HNX := Lib.hid (PlSt.next (t := .mk tg a3 n3 c3 x3 k3 m3 c4 ats3 kids3) HS.out hqB hB1 hqn hq0 hbC.out hon2.out (show Below w4.heap.size w4 _ by (repeat (first | (with_reducible exact Below.refl _ _) | (with_reducible refine Below.drew ?_) | (with_reducible refine Below.alloc ?_ ?_ _) | omega | (simp <;> omega)))) own5 gr5 hw5)))
          all_goals go_wp2
          all_goals go_roundw
          all_goals first
            | exact ⟨ts ++ [.mk tg a3 n3 c3 x3 k3 m3 c4 ats3 kids3], some ⟨g5, 0, none⟩, k5, by simp; omega, by simp, by simpa using HNX, Lib.hid (by rw [HN.out _ HPT.out]; simp)⟩
            | (simp [RowKit.intOf]; omega)
        · have hkm : k = m := by omega
          have HF : Hid (ts.map Pn.pt = x.kids.map (plainF l n)) := Lib.hid (by rw [HP.out, hk, hkm, List.take_of_length_le (by rw [HM.out]; exact Nat.le_refl _)])
          have hIk : (ts.length : Int) = (m : Int) := by omega
          obtain ⟨_, _, z0, z1, z2, z3, zf, y0, y1, y2, y3, yf, _, _, _, _, _⟩ := HS.out
          have zf0 := zf 0
          have zf1 := zf 1
          have zf2 := zf 2
          have zf3 := zf 3
          clear zf yf HP HC HS0
          have hlm : ts.length = m := by omega
          have hlt2 : ts.length ≤ 100000 := by omega
          have hx5 : (Pn.mk x.tag a2 x.ats.length c2 x.tx ka m kc x.ats ts).pt = .mk x.tag x.tx x.ats (x.kids.map (plainF l n)) := by
            rw [pt_eq]
            show Pt.mk x.tag x.tx x.ats (ts.map Pn.pt) = _
            rw [HF.out]
          have HX5 := Lib.hid hx5
          clear hx5
          rw [hIk]
          go_wp2
          refine bodyPost_ret (v := .agg #[.int .i64 x.tag, .slice a2 x.ats.length c2, .string x.tx, .slice ka m kc]) (by simp [results, Tryd.results21, go_sem, *]) rfl ?_
          refine ⟨x.tag, a2, x.ats.length, c2, x.tx, ka, m, kc, x.ats, ts, rfl, HX5.out, ?_, ?_⟩
          · exact (((HS.out.b.setCell (p := ⟨q, 0, none⟩) (Nat.le_of_eq hq) _).setCell (p := ⟨q, 1, none⟩) (Nat.le_of_eq hq) _).setCell (p := ⟨q, 2, none⟩) (Nat.le_of_eq hq) _).setCell (p := ⟨q, 3, none⟩) (Nat.le_of_eq hq) _
          · have hd := HS.out.done (Nat.le_of_eq hq) (by omega) hlt2 ((((wr.setCell ⟨q, 0, none⟩ (.int .i64 x.tag)).setCell ⟨q, 1, none⟩ (.slice a2 x.ats.length c2)).setCell ⟨q, 2, none⟩ (.string x.tx)).setCell ⟨q, 3, none⟩ (.slice ka m kc))
              (fun b hb => (((Below.heap_setCell _ ⟨q, 3, none⟩ _ b hb).trans (Below.heap_setCell _ ⟨q, 2, none⟩ _ b hb)).trans (Below.heap_setCell _ ⟨q, 1, none⟩ _ b hb)).trans (Below.heap_setCell _ ⟨q, 0, none⟩ _ b hb)) (by simp [World.setCell])
            rw [hlm] at hd
            exact hd

end Go.Proofs.YtdegkcibadjogaaDoor
