/-
  What stands while the document's CopyNode goes over a plain tree: its copy so far, each kid in blocks of its own.
-/
import Derived.Test.YtdegkcibadjogaaDoorCTurnX

namespace Go.Proofs.YtdegkcibadjogaaDoor
open Go.RowKit Go.Lib

/-- append of a row of attributes that lies somewhere, onto a row of one's own. -/
theorem append_row {P : Program} (w : World) (base : Nat) (t ty : TypeId) (i : TypeInfo) (z : Value) (bytes : Nat) (ht : P.underlying t = some (.slice 61)) (hi : P.info? 61 = some i) (hz : i.zero = some z)
    (hsize : i.size = 2) (hby : i.bytes = bytes) (hzs : z.cells.size = 2)
    (v : Value) (n : Nat) (xs : List Value) (hown : w.ownsRow base 61 2 v n xs) (x : Value) (l : Row) (hx : RowAt w x l) (h63 : n + l.length ≤ maxLen) (hbytes : (n + l.length) * bytes ≤ 140737488355328) (hbase : base ≤ w.heap.size) :
    ∃ v' w', (Builtin.append_ #[t, t] ty #[v, x]).run P w = .ok v' w' ∧ w'.ownsRow base 61 2 v' (n + l.length) (xs ++ cellsR l) ∧ w.grownBy w' v.ownBlock := by
  rcases hx with ⟨a, c, rfl, h0, rfl⟩ | ⟨b, o, c, rfl, _, _, _, hc⟩
  · cases a with
    | none =>
      rw [h0 rfl]
      exact ⟨v, w, run_append_owned_none (P := P) w base t ty _ i 2 ht hi v n xs hown, by simpa [cellsR] using hown, ⟨rfl, rfl, rfl, Nat.le_refl _, fun _ _ _ => rfl⟩⟩
    | some ad =>
      obtain ⟨v', w', hr, h2, h3, _⟩ := run_append_own (P := P) w base t ty _ i z 2 bytes ht hi hz hsize hby hzs (by decide) v n xs hown ad 0 c [] rfl (fun j u hu => by simp at hu) (fun u hu => by cases hu) h63 hbytes hbase
      exact ⟨v', w', hr, by simpa [cellsR] using h2, h3⟩
  · obtain ⟨v', w', hr, h2, h3, _⟩ := run_append_own (P := P) w base t ty _ i z 2 bytes ht hi hz hsize hby hzs (by decide) v n xs hown ⟨b, o, none⟩ l.length c (cellsR l) (cellsR_length l) (fun j u hu => by rw [addN]; exact hc.flat j u hu) (cellsR_one l) h63 hbytes hbase
    exact ⟨v', w', hr, h2, h3⟩
theorem step_append_row {P : Program} {w : World} {ops : Array Oper} {o : Oper} {a : Act} {K : Act → World → Prop} {Q : Exit → Act → World → Prop} {E : Prop} (hgd : o.guard = none) (s x : Operand) (t : TypeId)
    (ho : o.op = .call { callee := .builtin .append, args := #[s, x], argTypes := #[t, t] })
    (base : Nat) (i : TypeInfo) (z : Value) (bytes : Nat) (ht : P.underlying t = some (.slice 61)) (hi : P.info? 61 = some i) (hz : i.zero = some z)
    (hsize : i.size = 2) (hby : i.bytes = bytes) (hzs : z.cells.size = 2)
    (v : Value) (n : Nat) (xs : List Value) (hs : a.eval s = v) (hown : w.ownsRow base 61 2 v n xs) (vx : Value) (l : Row) (hx : a.eval x = vx) (hrow : RowAt w vx l) (h63 : n + l.length ≤ maxLen) (hbytes : (n + l.length) * bytes ≤ 140737488355328) (hbase : base ≤ w.heap.size)
    (h : ∀ v' w', w'.ownsRow base 61 2 v' (n + l.length) (xs ++ cellsR l) → w.grownBy w' v.ownBlock → K (a.put o.dst v') w') :
    if Region.wanted o (yielded ops a.tmps) = true then Oper.wp P o a w K Q else E := by
  have hw : Region.wanted o (yielded ops a.tmps) = true := by simp [Region.wanted, hgd]
  rw [if_pos hw]
  obtain ⟨v', w', hr, h2, h3⟩ := append_row (P := P) w base t o.type i z bytes ht hi hz hsize hby hzs v n xs hown vx l hrow h63 hbytes hbase
  unfold Oper.wp execOp
  simp only [ho, resolve, invoke, builtin, Sem.run_bind, Sem.run_pure, Result.andThen_ok, List.map_toArray, List.map_cons, List.map_nil, hs, hx, hr]
  exact h v' w' h2 h3

theorem wpList_append_row {P : Program} {w : World} {ops : Array Oper} {rest : List Oper} {o : Oper} {a : Act} {Q : Exit → Act → World → Prop} (hgd : o.guard = none) (s x : Operand) (t : TypeId)
    (ho : o.op = .call { callee := .builtin .append, args := #[s, x], argTypes := #[t, t] })
    (base : Nat) (i : TypeInfo) (z : Value) (bytes : Nat) (ht : P.underlying t = some (.slice 61)) (hi : P.info? 61 = some i) (hz : i.zero = some z)
    (hsize : i.size = 2) (hby : i.bytes = bytes) (hzs : z.cells.size = 2)
    (v : Value) (n : Nat) (xs : List Value) (hs : a.eval s = v) (hown : w.ownsRow base 61 2 v n xs) (vx : Value) (l : Row) (hx : a.eval x = vx) (hrow : RowAt w vx l) (h63 : n + l.length ≤ maxLen) (hbytes : (n + l.length) * bytes ≤ 140737488355328) (hbase : base ≤ w.heap.size)
    (h : ∀ v' w', w'.ownsRow base 61 2 v' (n + l.length) (xs ++ cellsR l) → w.grownBy w' v.ownBlock → wpList P ops Q rest (a.put o.dst v') w') : wpList P ops Q (o :: rest) a w :=
  wpList_step fun _ hK => step_append_row hgd s x t ho base i z bytes ht hi hz hsize hby hzs v n xs hs hown vx l hx hrow h63 hbytes hbase fun v' w' h1 h2 => hK _ _ (h v' w' h1 h2)
theorem wpList_append_where {P : Program} {w : World} {ops : Array Oper} {rest : List Oper} {o : Oper} {a : Act} {Q : Exit → Act → World → Prop} (hgd : o.guard = none) (s x : Operand) (t : TypeId)
    (ho : o.op = .call { callee := .builtin .append, args := #[s, x], argTypes := #[t, t] })
    (base : Nat) (e : TypeId) (i : TypeInfo) (z : Value) (size bytes : Nat) (ht : P.underlying t = some (.slice e)) (hi : P.info? e = some i) (hz : i.zero = some z)
    (hsize : i.size = size) (hby : i.bytes = bytes) (hzs : z.cells.size = size) (hsz : 0 < size)
    (v : Value) (n : Nat) (xs : List Value) (hs : a.eval s = v) (hown : w.ownsRow base e size v n xs)
    (ad : Addr) (m c : Nat) (news : List Value) (hx : a.eval x = .slice (some ad) m c) (hl : news.length = m * size) (hnews : ∀ j u, news[j]? = some u → w.cell? (ad.add j) = some u) (h1 : ∀ u ∈ news, u.oneCell' = true)
    (h63 : n + m ≤ maxLen) (hbytes : (n + m) * bytes ≤ 140737488355328) (hbase : base ≤ w.heap.size) (hm : 0 < m)
    (h : ∀ g k w', w'.ownsRow base e size (.slice (some ⟨g, 0, none⟩) (n + m) k) (n + m) (xs ++ news) → w.grownBy w' v.ownBlock → (v.ownBlock = some g ∨ w.heap.size ≤ g) → wpList P ops Q rest (a.put o.dst (.slice (some ⟨g, 0, none⟩) (n + m) k)) w') : wpList P ops Q (o :: rest) a w :=
  wpList_step fun _ hK => step_append_where hgd s x t ho base e i z size bytes ht hi hz hsize hby hzs hsz v n xs hs hown ad m c news hx hl hnews h1 h63 hbytes hbase hm fun g k w' h1 h2 h3 => hK _ _ (h g k w' h1 h2 h3)

/-- What CopyNode answers. -/
def CopyPost (P : Pt) (w : World) (e : Ending) (w' : World) : Prop :=
  ∃ (tag : Int) (aa : Option Addr) (an ac : Nat) (tx : ByteArray) (ka : Option Addr) (kn kc : Nat) (ats : Row) (kids : List Pn), e = .returned (.agg #[.int .i64 tag, .slice aa an ac, .string tx, .slice ka kn kc]) ∧ (Pn.mk tag aa an ac tx ka kn kc ats kids).pt = P ∧ Below w.heap.size w w' ∧
    TurnOK (fun b => w.heap.size ≤ b ∧ b < w'.heap.size) w' (Pn.mk tag aa an ac tx ka kn kc ats kids)

/-- The two boxes at r; the attributes' row of one's own; the kids' row so far, and each kid in blocks of its own. -/
structure CyS (w0 : World) (B1 r : Nat) (tag : Int) (a2 : Option Addr) (c2 : Nat) (tx : ByteArray) (ats : Row) (ska : Option Addr) (skn skc : Nat) (ka : Option Addr) (kc : Nat) (ts : List Pn) (T : Nat → Nat → Prop) (wr : World) : Prop where
  b : Below w0.heap.size w0 wr
  hs : B1 ≤ wr.heap.size
  box : TnBox r tag a2 ats.length c2 tx ska skn skc wr
  oa : wr.ownsRow w0.heap.size 61 2 (.slice a2 ats.length c2) ats.length (cellsR ats)
  ab : ∀ b, (Value.slice a2 ats.length c2).ownBlock = some b → b < B1 ∧ b ≠ r ∧ b ≠ r + 1
  ok : wr.ownsRow w0.heap.size 34 4 (.slice ka ts.length kc) ts.length (cellsN ts)
  kb : ∀ b, (Value.slice ka ts.length kc).ownBlock = some b → B1 ≤ b
  tb : ∀ j, j < ts.length → ∀ b, T j b → B1 ≤ b ∧ b < wr.heap.size ∧ (Value.slice ka ts.length kc).ownBlock ≠ some b
  tt : ∀ j j', j < ts.length → j' < ts.length → j ≠ j' → ∀ b, T j b → ¬ T j' b
  ks : ∀ j s, ts[j]? = some s → TurnOK (T j) wr s

section
variable {w0 wr wC wA w5 : World} {B1 r g k lo skn skc : Nat} {tag : Int} {a2 ka ska : Option Addr} {c2 kc : Nat} {tx : ByteArray} {ats : Row} {ts : List Pn} {t : Pn} {T : Nat → Nat → Prop}
theorem CyS.next (s : CyS w0 B1 r tag a2 c2 tx ats ska skn skc ka kc ts T wr) (hr : r + 1 < B1) (hbC : Below wr.heap.size wr wC) (hlo : wr.heap.size ≤ lo) (hon : TurnOK (fun b => lo ≤ b ∧ b < wC.heap.size) wC t) (hbA : Below wC.heap.size wC wA)
    (own3 : w5.ownsRow w0.heap.size 34 4 (.slice (some ⟨g, 0, none⟩) (ts.length + 1) k) (ts.length + 1) (cellsN ts ++ encN t)) (gr : wA.grownBy w5 (Value.slice ka ts.length kc).ownBlock) (hw : (Value.slice ka ts.length kc).ownBlock = some g ∨ wA.heap.size ≤ g) :
    CyS w0 B1 r tag a2 c2 tx ats ska skn skc (some ⟨g, 0, none⟩) k (ts ++ [t]) (fun j b => (j < ts.length ∧ T j b) ∨ (j = ts.length ∧ lo ≤ b ∧ b < wC.heap.size)) w5 := by
  have h1 := hbC.size
  have h2 := hbA.size
  have h3 := gr.size
  have hs := s.hs
  have hbs := s.b.size
  have ebk : (Value.slice (some (⟨g, 0, none⟩ : Addr)) (ts.length + 1) k).ownBlock = some g := rfl
  have kold : ∀ b, (Value.slice ka ts.length kc).ownBlock = some b → b < wr.heap.size := fun b e => (s.ok.lt b e).2
  have keep : ∀ b, b < wr.heap.size → (Value.slice ka ts.length kc).ownBlock ≠ some b → w5.heap[b]? = wr.heap[b]? := fun b hb hne =>
    ((gr.block b (by omega) (fun e => hne e.symm)).trans (hbA.block b (by omega))).trans (hbC.block b hb)
  have keepC : ∀ b, wr.heap.size ≤ b → b < wC.heap.size → w5.heap[b]? = wC.heap[b]? := fun b hb hb2 =>
    (gr.block b (by omega) (fun e => by have := kold b e.symm; omega)).trans (hbA.block b hb2)
  have nk : ∀ b, b < B1 → (Value.slice ka ts.length kc).ownBlock ≠ some b := fun b hb e => by have := s.kb b e; omega
  have hlen : (ts ++ [t]).length = ts.length + 1 := by simp
  have hgB : B1 ≤ g := by
    rcases hw with e | e
    · exact s.kb g e
    · omega
  have hbw : Below w0.heap.size w0 wA := s.b.trans ((hbC.trans (hbA.mono h1)).mono hbs)
  have okA : wA.ownsRow w0.heap.size 34 4 (.slice ka ts.length kc) ts.length (cellsN ts) := ownsRow_same s.ok (fun b e => (hbA.block b (by have := kold b e; omega)).trans (hbC.block b (kold b e)))
  refine ⟨below_grown hbw (by omega) okA gr, by omega, s.box.same (keep r (by omega) (nk r (by omega))) (keep (r + 1) (by omega) (nk _ hr)), ?_, s.ab, ?_, fun b e => ?_, fun j hj b hT => ?_, fun j j' hj hj' hne b hT hT' => ?_, fun j u hu => ?_⟩
  · exact ownsRow_same s.oa (fun b e => keep b (by have := (s.ab b e).1; omega) (nk b (s.ab b e).1))
  · rw [hlen, cellsN_append]
    have e4 : cellsN [t] = encN t := by unfold cellsN; simp
    rw [e4]
    exact own3
  · rw [hlen] at e
    obtain rfl : g = b := by simpa [ebk] using e
    exact hgB
  · rw [hlen, ebk]
    rw [hlen] at hj
    rcases hT with ⟨hj2, hT⟩ | ⟨_, hT⟩
    · have h4 := s.tb j hj2 b hT
      refine ⟨h4.1, by omega, fun e => ?_⟩
      obtain rfl : g = b := by simpa using e
      rcases hw with e2 | e2
      · exact h4.2.2 e2
      · omega
    · refine ⟨by omega, by omega, fun e => ?_⟩
      obtain rfl : g = b := by simpa using e
      rcases hw with e2 | e2
      · have := kold g e2; omega
      · omega
  · rcases hT with ⟨hj2, hT⟩ | ⟨hj2, hT⟩ <;> rcases hT' with ⟨hj3, hT'⟩ | ⟨hj3, hT'⟩
    · exact s.tt j j' hj2 hj3 hne b hT hT'
    · have := (s.tb j hj2 b hT).2.1; omega
    · have := (s.tb j' hj3 b hT').2.1; omega
    · omega
  · rcases Nat.lt_or_ge j ts.length with hj | hj
    · rw [List.getElem?_append_left hj] at hu
      have h4 := s.ks j u hu
      have h5 := h4.keep (w' := w5) (fun b hb => keep b (s.tb j hj b hb).2.1 (s.tb j hj b hb).2.2)
      have e5 : (fun b => (j < ts.length ∧ T j b) ∨ (j = ts.length ∧ lo ≤ b ∧ b < wC.heap.size)) = T j := by
        funext b
        refine propext ⟨fun h => ?_, fun h => .inl ⟨hj, h⟩⟩
        rcases h with h | h
        · exact h.2
        · omega
      show TurnOK (fun b => (j < ts.length ∧ T j b) ∨ (j = ts.length ∧ lo ≤ b ∧ b < wC.heap.size)) w5 u
      rw [e5]
      exact h5
    · rw [List.getElem?_append_right hj] at hu
      have hj0 : j = ts.length := by
        have := (List.getElem?_eq_some_iff.1 hu).1
        simp at this
        omega
      subst hj0
      rw [Nat.sub_self] at hu
      obtain rfl : t = u := by simpa using hu
      have h5 := hon.keep (w' := w5) (fun b hb => keepC b (by omega) hb.2)
      have e5 : (fun b => (ts.length < ts.length ∧ T ts.length b) ∨ (ts.length = ts.length ∧ lo ≤ b ∧ b < wC.heap.size)) = fun b => lo ≤ b ∧ b < wC.heap.size := by
        funext b
        refine propext ⟨fun h => ?_, fun h => .inr ⟨rfl, h⟩⟩
        rcases h with h | h
        · omega
        · exact h.2
      show TurnOK (fun b => (ts.length < ts.length ∧ T ts.length b) ∨ (ts.length = ts.length ∧ lo ≤ b ∧ b < wC.heap.size)) w5 t
      rw [e5]
      exact h5

/-- The answer is laid into its box: turn may go over it. -/
theorem CyS.done (s : CyS w0 B1 r tag a2 c2 tx ats ska skn skc ka kc ts T wr) (hr0 : w0.heap.size ≤ r) (hr : r + 1 < B1) (hl : ts.length ≤ 1000000) (htx : tx.size ≤ 1000000) (w' : World) (hw : ∀ b, b ≠ r → b ≠ r + 1 → w'.heap[b]? = wr.heap[b]?) (hsz : w'.heap.size = wr.heap.size) :
    TurnOK (fun b => w0.heap.size ≤ b ∧ b < w'.heap.size) w' (.mk tag a2 ats.length c2 tx ka ts.length kc ats ts) := by
  have hs := s.hs
  have hbs := s.b.size
  obtain ⟨g, hg1, hg2, hg3⟩ : ∃ g, (ts ≠ [] → ka = some ⟨g, 0, none⟩ ∧ (w0.heap.size ≤ g ∧ g < w'.heap.size) ∧ (∀ j u, ts[j]? = some u → At4 w' g (j * 4) u) ∧ ∀ j, w'.frozen? ⟨g, j, none⟩ = false) ∧ B1 ≤ g ∧ ∀ b, b < wr.heap.size → (Value.slice ka ts.length kc).ownBlock ≠ some b → b ≠ g := by
    by_cases h0 : ts = []
    · exact ⟨wr.heap.size, fun h => absurd h0 h, hs, fun b hb _ => by omega⟩
    · rcases s.ok.2 with ⟨_, e⟩ | ⟨g, cap, cur, e, hB, hg, _⟩
      · exact absurd (List.eq_nil_of_length_eq_zero e) h0
      · obtain ⟨rfl, _, _⟩ := Value.slice.inj e
        have ebk : (Value.slice (some (⟨g, 0, none⟩ : Addr)) ts.length kc).ownBlock = some g := rfl
        have hgB := s.kb g ebk
        have hw2 := hw g (by omega) (by omega)
        have hgw := hw2.trans hg
        refine ⟨g, fun _ => ⟨rfl, ⟨hB, (Array.getElem?_eq_some_iff.1 hgw).1⟩, fun j u hu => ?_, fun j => frozen_of_heap hgw j⟩, hgB, fun b _ hne e2 => hne (by rw [e2]; exact ebk)⟩
        rcases krow_of_own s.ok with h1 | ⟨b, o, e1, _, h1⟩
        · exact absurd h1 h0
        · obtain ⟨rfl, rfl⟩ : g = b ∧ 0 = o := by
            have := Option.some.inj e1
            exact ⟨congrArg Addr.block this, congrArg Addr.off this⟩
          obtain ⟨d0, d1, d2, d3⟩ := h1 j u hu
          rw [Nat.zero_add] at d0 d1 d2 d3
          exact At4.same ⟨d0, d1, d2, d3⟩ hw2
  refine turn_of (S := fun b => w0.heap.size ≤ b ∧ b < w'.heap.size) (A := fun b => (Value.slice a2 ats.length c2).ownBlock = some b) (T := T) (g := g) ⟨fun b hb => hb.2, fun b e => ⟨⟨(s.oa.lt b e).1, by rw [hsz]; exact (s.oa.lt b e).2⟩, by have := (s.ab b e).1; omega⟩, fun j hj b hT => ?_, s.tt, fun h => (hg1 h).2.1, fun W hW => ?_, fun j u hu => ?_, fun j u hu => (hg1 (fun e => by rw [e] at hu; simp at hu)).2.2.1 j u hu, fun h => (hg1 h).2.2.2, hl⟩ htx (fun h => (hg1 h).1)
  · have h4 := s.tb j hj b hT
    exact ⟨⟨by omega, by omega⟩, hg3 b h4.2.1 h4.2.2, fun e => by have := (s.ab b e).1; omega⟩
  · exact rowAt_of_own (ownsRow_same s.oa (fun b e => (hW b e).trans (hw b (s.ab b e).2.1 (s.ab b e).2.2)))
  · have hj := (List.getElem?_eq_some_iff.1 hu).1
    exact (s.ks j u hu).keep (fun b hb => by have := (s.tb j hj b hb).1; exact hw b (by omega) (by omega))
end

end Go.Proofs.YtdegkcibadjogaaDoor
