/-
  Copy.
-/
import Derived.Test.YtggjoefhopoggaaDoorCCopied

namespace Go.Proofs.YtggjoefhopoggaaDoor
open Go.RowKit Go.Lib

theorem But.of_below {nb : Nat} {a w : World} (h : Below a.heap.size a w) : But nb a w := ⟨h.size, fun b hb _ => h.block b hb⟩
/-- The same nodes stand there, in the same places. -/
structure Like (l l' : List (Option Nd)) : Prop where
  len : l'.length = l.length
  no : ∀ j : Nat, l[j]? = some none → l'[j]? = some none
  yes : ∀ (j : Nat) (y : Nd), l[j]? = some (some y) → ∃ y', l'[j]? = some (some y') ∧ y'.tag = y.tag ∧ y'.tx = y.tx ∧ y'.up = y.up ∧ y'.kids = y.kids ∧ y'.ats = y.ats
theorem Like.back {l l' : List (Option Nd)} (h : Like l l') {j : Nat} {y' : Nd} (hj : l'[j]? = some (some y')) : ∃ y, l[j]? = some (some y) ∧ y'.tag = y.tag ∧ y'.tx = y.tx ∧ y'.up = y.up ∧ y'.kids = y.kids ∧ y'.ats = y.ats := by
  have hjl : j < l.length := by rw [← h.len]; exact (List.getElem?_eq_some_iff.1 hj).1
  cases e : l[j]? with
  | none => rw [List.getElem?_eq_none_iff] at e; omega
  | some v =>
    cases v with
    | none => rw [h.no j e] at hj; cases hj
    | some y =>
      obtain ⟨y2, b1, b2⟩ := h.yes j y e
      rw [hj] at b1
      obtain rfl := Option.some.inj (Option.some.inj b1)
      exact ⟨y, rfl, b2⟩
theorem Inv.like {deep : Int} {l l' : List (Option Nd)} (h : Inv deep l) (k : Like l l') : Inv deep l' := by
  obtain ⟨r, hr⟩ := h.dep
  refine ⟨?_, fun i x' m hi hm => ?_, fun i x' hi => ?_, fun j y' hj => ?_, ⟨r, fun j y' hj => ?_, fun j y' i hj hu => ?_, fun j y' hj hu => ?_⟩, fun i x' hi ht => ?_, fun i x' hi => ?_⟩
  · obtain ⟨x0, hx0, a1, a2⟩ := h.host
    obtain ⟨y', b1, b2, _, b3, _⟩ := k.yes 0 x0 hx0
    exact ⟨y', b1, by rw [b3, a1], by rw [b2, a2]⟩
  · obtain ⟨x2, b1, _, _, _, b3, _⟩ := k.back hi
    rw [b3] at hm
    obtain ⟨j, y, c1, c2, c3⟩ := h.kid i x2 m b1 hm
    obtain ⟨y', d1, _, _, d2, _⟩ := k.yes j y c2
    exact ⟨j, y', c1, d1, by rw [d2, c3]⟩
  · obtain ⟨x2, b1, _, _, _, b3, _⟩ := k.back hi
    rw [b3]; exact h.nod i x2 b1
  · obtain ⟨y2, b1, _, _, b2, _⟩ := k.back hj
    rcases h.par j y2 b1 with c | ⟨i, x2, c1, c2, c3⟩
    · exact .inl (by rw [b2, c])
    · obtain ⟨x', d1, _, _, _, d3, _⟩ := k.yes i x2 c2
      exact .inr ⟨i, x', by rw [b2, c1], d1, by rw [d3]; exact c3⟩
  · obtain ⟨y2, b1, _⟩ := k.back hj
    exact hr.le j y2 b1
  · obtain ⟨y2, b1, _, _, b2, _⟩ := k.back hj
    exact hr.up j y2 i b1 (by rw [← b2, hu])
  · obtain ⟨y2, b1, _, _, b2, _⟩ := k.back hj
    exact hr.no j y2 b1 (by rw [← b2, hu])
  · obtain ⟨x2, b1, b4, _, _, b3, _⟩ := k.back hi
    rw [b3]; exact h.txt i x2 b1 (by rw [← b4, ht])
  · obtain ⟨x2, b1, _, b2, _, _, b5⟩ := k.back hi
    rw [b5, b2]; exact h.own i x2 b1

theorem Full.mono {B B' : Nat} {w : World} {p nb : Nat} {deep : Int} {l : List (Option Nd)} (h : Full B w p nb deep l) (hB : B' ≤ B) : Full B' w p nb deep l :=
  ⟨h.t, h.pn, h.ln, Nat.le_trans hB h.bp, Nat.le_trans hB h.bn, fun i x hi => ⟨Nat.le_trans hB (h.ab i x hi).1, (h.ab i x hi).2⟩, h.aa, fun i x hi => own_mono2 (h.own i x hi) hB, h.kb, fun i x hi => own_mono2 (h.ra i x hi) hB, h.rb⟩

/-- A node that is all new is put at a number that nobody has. -/
theorem Full.place {B : Nat} {w w1 : World} {p nb : Nat} {deep : Int} {l : List (Option Nd)} (h : Full B w p nb deep l) {k : Nat} (hk : k < l.length) {x : Nd} (hx : NodeAt w1 x) (hb : Below w.heap.size w w1) (hab : w.heap.size ≤ x.ab) (own : w1.ownsRow w.heap.size 3 1 x.ks x.kids.length (cellsZ x.kids))
    (ra : w1.ownsRow w.heap.size 116 2 x.as x.ats.length (cellsR x.ats)) (ka : ∀ b, x.ks.ownBlock = some b → b ≠ x.ab) (ba : ∀ b, x.as.ownBlock = some b → b ≠ x.ab ∧ x.ks.ownBlock ≠ some b) :
    Full B (w1.setCell ⟨nb, k, none⟩ (.pointer (some ⟨x.ab, 0, none⟩))) p nb deep (l.set k (some x)) := by
  have F := h.below hb
  have hln := h.ln
  have hbn := h.bn
  have hpl : p < w.heap.size := lt_of_cell' h.t.c0
  have hlt : ∀ (j : Nat) (y : Nd), l[j]? = some (some y) → y.ab < w.heap.size := fun j y hj => lt_of_cell' (h.t.yes j y hj).2.c0
  have hold : ∀ (j : Nat) (y : Nd), l[j]? = some (some y) → ∀ b, y.ks.ownBlock = some b → b < w.heap.size := fun j y hj b e => ((h.own j y hj).lt b e).2
  have holdA : ∀ (j : Nat) (y : Nd), l[j]? = some (some y) → ∀ b, y.as.ownBlock = some b → b < w.heap.size := fun j y hj b e => ((h.ra j y hj).lt b e).2
  have hkx : ∀ b, x.ks.ownBlock = some b → w.heap.size ≤ b := fun b e => (own.lt b e).1
  have hax : ∀ b, x.as.ownBlock = some b → w.heap.size ≤ b := fun b e => (ra.lt b e).1
  have hkept : ∀ {B' size m : Nat} {t : TypeId} {v : Value} {xs : List Value}, w1.ownsRow B' t size v m xs → (∀ b, v.ownBlock = some b → b ≠ nb) → (w1.setCell ⟨nb, k, none⟩ (.pointer (some ⟨x.ab, 0, none⟩))).ownsRow B' t size v m xs := fun ho hne => by
    refine ⟨ho.1, ?_⟩
    rcases ho.2 with h2 | ⟨g, cap, cur, h0, hBg, hg, h3⟩
    · exact .inl h2
    · exact .inr ⟨g, cap, cur, h0, hBg, (Below.heap_setCell _ ⟨nb, k, none⟩ _ g (hne g (by rw [h0]; rfl))).trans hg, h3⟩
  have ht := TreeAt.put F.t F.apart hk x hx (by omega) (fun b o e _ => by have := hkx b (ks_block e); omega)
  refine ⟨ht, h.pn, by simpa [World.setCell] using F.ln, h.bp, h.bn, fun j y hj => ?_, fun j m y z hj hm hne => ?_, fun j y hj => ?_, fun j y b hj eb => ?_, fun j y hj => ?_, fun j y b hj eb => ?_⟩
  · rcases set_get hj with ⟨_, e⟩ | ⟨_, h1⟩
    · obtain rfl := Option.some.inj e
      exact ⟨by omega, by omega, by omega⟩
    · exact h.ab j y h1
  · rcases set_get hj with ⟨j1, e⟩ | ⟨_, h1⟩ <;> rcases set_get hm with ⟨m1, e2⟩ | ⟨_, h2⟩
    · omega
    · obtain rfl := Option.some.inj e
      have := hlt m z h2; omega
    · obtain rfl := Option.some.inj e2
      have := hlt j y h1; omega
    · exact h.aa j m y z h1 h2 hne
  · rcases set_get hj with ⟨_, e⟩ | ⟨_, h1⟩
    · obtain rfl := Option.some.inj e
      exact hkept (own_mono2 own (by omega)) (fun b e => by have := hkx b e; omega)
    · exact hkept (F.own j y h1) (fun b e => (h.kb j y b h1 e).2.1)
  · rcases set_get hj with ⟨j1, e⟩ | ⟨_, h1⟩
    · obtain rfl := Option.some.inj e
      have hge := hkx b eb
      refine ⟨by omega, by omega, fun m z hm => ?_⟩
      rcases set_get hm with ⟨m1, e2⟩ | ⟨_, h2⟩
      · obtain rfl := Option.some.inj e2
        exact ⟨ka b eb, fun e => absurd (by omega) e⟩
      · have := hlt m z h2
        exact ⟨by omega, fun _ e => by have := hold m z h2 b e; omega⟩
    · obtain ⟨a1, a2, a3⟩ := h.kb j y b h1 eb
      have hbl := hold j y h1 b eb
      refine ⟨a1, a2, fun m z hm => ?_⟩
      rcases set_get hm with ⟨m1, e2⟩ | ⟨_, h2⟩
      · obtain rfl := Option.some.inj e2
        exact ⟨by omega, fun _ e => by have := hkx b e; omega⟩
      · exact a3 m z h2
  · rcases set_get hj with ⟨_, e⟩ | ⟨_, h1⟩
    · obtain rfl := Option.some.inj e
      exact hkept (own_mono2 ra (by omega)) (fun b e => by have := hax b e; omega)
    · exact hkept (F.ra j y h1) (fun b e => (h.rb j y b h1 e).2.1)
  · rcases set_get hj with ⟨j1, e⟩ | ⟨_, h1⟩
    · obtain rfl := Option.some.inj e
      have hge := hax b eb
      refine ⟨by omega, by omega, fun m z hm => ?_⟩
      rcases set_get hm with ⟨m1, e2⟩ | ⟨_, h2⟩
      · obtain rfl := Option.some.inj e2
        exact ba b eb
      · have := hlt m z h2
        exact ⟨by omega, fun e => by have := hold m z h2 b e; omega⟩
    · obtain ⟨a1, a2, a3⟩ := h.rb j y b h1 eb
      have hbl := holdA j y h1 b eb
      refine ⟨a1, a2, fun m z hm => ?_⟩
      rcases set_get hm with ⟨m1, e2⟩ | ⟨_, h2⟩
      · obtain rfl := Option.some.inj e2
        exact ⟨by omega, fun e => by have := hkx b e; omega⟩
      · exact a3 m z h2

theorem full_bare {w w' : World} {c : Nat} {deep : Int} (h : TreeAt w' (w.heap.size + 1) w.heap.size deep (List.replicate c none)) (hs : w'.heap.size = w.heap.size + 2) : Full w.heap.size w' (w.heap.size + 1) w.heap.size deep (List.replicate c none) := by
  have hl : ∀ (j : Nat) (y : Nd), (List.replicate c (none : Option Nd))[j]? = some (some y) → False := fun j y hj => by
    rw [List.getElem?_replicate] at hj
    split at hj <;> simp at hj
  exact ⟨h, by omega, by omega, by omega, Nat.le_refl _, fun j y hj => (hl j y hj).elim, fun j m y z hj => (hl j y hj).elim, fun j y hj => (hl j y hj).elim, fun j y b hj => (hl j y hj).elim, fun j y hj => (hl j y hj).elim, fun j y b hj => (hl j y hj).elim⟩

/-- The first k numbers are copied. -/
structure Part (l : List (Option Nd)) (k : Nat) (lc : List (Option Nd)) : Prop where
  len : lc.length = l.length
  no : ∀ j : Nat, l[j]? = some none → lc[j]? = some none
  late : ∀ j : Nat, k ≤ j → j < l.length → lc[j]? = some none
  yes : ∀ (j : Nat) (y : Nd), j < k → l[j]? = some (some y) → ∃ y', lc[j]? = some (some y') ∧ y'.tag = y.tag ∧ y'.tx = y.tx ∧ y'.up = y.up ∧ y'.kids = y.kids ∧ y'.ats = y.ats
theorem Part.zero (l : List (Option Nd)) : Part l 0 (List.replicate l.length none) :=
  ⟨by simp, fun j hj => by rw [List.getElem?_replicate, if_pos (List.getElem?_eq_some_iff.1 hj).1], fun j _ hj => by rw [List.getElem?_replicate, if_pos hj], fun j y hj => by omega⟩
theorem Part.like {l lc : List (Option Nd)} {k : Nat} (h : Part l k lc) (hk : l.length ≤ k) : Like l lc :=
  ⟨h.len, h.no, fun j y hj => h.yes j y (by have := (List.getElem?_eq_some_iff.1 hj).1; omega) hj⟩
theorem Part.next {l lc : List (Option Nd)} {k : Nat} (h : Part l k lc) (hk : l[k]? = some none) : Part l (k + 1) lc :=
  ⟨h.len, h.no, fun j h1 h2 => h.late j (by omega) h2, fun j y h1 h2 => h.yes j y (by
    by_cases e : j = k
    · rw [e, hk] at h2; cases h2
    · omega) h2⟩
theorem Part.put {l lc : List (Option Nd)} {k : Nat} (h : Part l k lc) {y y' : Nd} (hk : l[k]? = some (some y)) (hs : y'.tag = y.tag ∧ y'.tx = y.tx ∧ y'.up = y.up ∧ y'.kids = y.kids ∧ y'.ats = y.ats) : Part l (k + 1) (lc.set k (some y')) := by
  have hkl := (List.getElem?_eq_some_iff.1 hk).1
  have hlate := h.late k (Nat.le_refl _) hkl
  refine ⟨by rw [List.length_set]; exact h.len, fun j hj => ?_, fun j h1 h2 => ?_, fun j z h1 h2 => ?_⟩
  · rw [set_ne (fun e => by rw [e, hk] at hj; cases hj)]; exact h.no j hj
  · rw [set_ne (by omega)]; exact h.late j (by omega) h2
  · by_cases e : j = k
    · subst e
      rw [hk] at h2
      obtain rfl := Option.some.inj (Option.some.inj h2)
      exact ⟨y', set_at hlate, hs⟩
    · rw [set_ne e]; exact h.yes j z (by omega) h2

set_option maxRecDepth 20000 in
set_option maxHeartbeats 8000000 in
theorem copy_any (B : Nat) (w : World) (p nb : Nat) (deep : Int) (l : List (Option Nd)) (h : Full B w p nb deep l) (hs : ∀ (i : Nat) (x : Nd), l[i]? = some (some x) → x.ats.length ≤ 100000) :
    Calls Tryd.prog 61 #[.pointer (some ⟨p, 0, none⟩)] w fun e w' => ∃ p', e = .returned (.pointer (some ⟨p', 0, none⟩)) ∧ Below w.heap.size w w' ∧ ∃ nb' l', Full w.heap.size w' p' nb' deep l' ∧ Like l l' := by
  have cI := is_any w p nb deep l h.t
  have cR := room_any w p nb deep l h.t
  have hle := h.t.le
  have hln := h.ln
  have cB := fun n => bare_any (w.drewN n) l.length deep hle
  have HF := Lib.hid h
  have HS := Lib.hid hs
  obtain ⟨N, hN⟩ : ∃ N, l.length = N := ⟨_, rfl⟩
  have c1 := h.t.c1
  rw [hN] at cR cB hle c1
  have HN := Lib.hid hN
  clear h hs hN
  go_enter Tryd.func61, Tryd.ntmps61
  go_upto_region 4 with (first
    | (go_at_call 47; ((with_reducible refine (cI).mono ?_); rintro e w1 ⟨rfl, rfl⟩))
    | (go_at_call 80; ((with_reducible refine (cR).mono ?_); rintro e w1 ⟨rfl, nq, rfl⟩))
    | (go_at_call 63; ((with_reducible refine (cB _).mono ?_); rintro e w2 ⟨rfl, hz2, hb2, hT2⟩)))
  have hbw : Below w.heap.size w w2 := (bdraws w nq).trans (hb2.mono (by simp))
  have hz : w2.heap.size = w.heap.size + 2 := by simpa using hz2
  have hT3 : TreeAt w2 (w.heap.size + 1) w.heap.size deep (List.replicate N none) := by simpa using hT2
  have H0 : Hid (Full w.heap.size w2 (w.heap.size + 1) w.heap.size deep (List.replicate N none) ∧ Part l 0 (List.replicate N none)) := Lib.hid ⟨full_bare hT3 hz, by have := Part.zero l; rw [HN.out] at this; exact this⟩
  have c1w := (HF.out.below hbw).t.c1
  rw [HN.out] at c1w
  have HB2 := Lib.hid hbw
  obtain ⟨P, hP⟩ : ∃ P, w.heap.size + 1 = P := ⟨_, rfl⟩
  obtain ⟨q, hq⟩ : ∃ q, w.heap.size = q := ⟨_, rfl⟩
  have HPQ := Lib.hid (And.intro hP hq)
  rw [hP] at H0
  rw [hP]
  clear hz2 hb2 hT2 hT3 hbw cI cR cB c1 hP hq
  go_wp2
  go_loopw [4, 5, 19] (fun _ _ i wr => ∃ k : Nat, k ≤ N ∧ i = .int .i64 k ∧ Hid (Below w2.heap.size w2 w2 → (Below w.heap.size w wr ∧ ∃ lc, Full w.heap.size wr P w.heap.size deep lc ∧ Part l k lc))) (fun _ _ i _ => N - (RowKit.intOf i).toNat)
  case atStart => exact ⟨0, Nat.zero_le _, rfl, Lib.hid (fun _ => ⟨HB2.out, _, H0.out⟩)⟩
  case round =>
    obtain ⟨k, hk, rfl, HA⟩ := hrel
    obtain ⟨hbw, lc, hFc, hPc⟩ := HA.out (Below.refl _ _)
    by_cases hlt : k < N
    · have hkl : k < l.length := by rw [HN.out]; exact hlt
      have hkI : (k : Int) < (N : Int) := by omega
      have hkc : k < lc.length := by rw [hPc.len]; exact hkl
      have hFw := HF.out.below hbw
      cases hy : l[k] with
      | none =>
        have hy2 : l[k]? = some none := by rw [List.getElem?_eq_getElem hkl, hy]
        have hc := hFw.t.no k hy2
        have HX : Hid (Below w2.heap.size w2 w2 → (Below w.heap.size w wr ∧ ∃ lc, Full w.heap.size wr P w.heap.size deep lc ∧ Part l (k + 1) lc)) := Lib.hid (fun _ => ⟨hbw, lc, hFc, hPc.next hy2⟩)
        clear HA hbw hFc hPc hFw hkl hkc hy hy2
        go_wp2
        go_roundw
        case rel => exact ⟨k + 1, hlt, by go_num, HX⟩
        case measure => simp [RowKit.intOf]; omega
      | some y =>
        have hy2 : l[k]? = some (some y) := by rw [List.getElem?_eq_getElem hkl, hy]
        obtain ⟨hc, hn⟩ := hFw.t.yes k y hy2
        have hhas : y.ka = none → y.kids = [] := fun e => by
          rcases (hFw.own k y hy2).2 with ⟨_, h0⟩ | ⟨g, cap, cur, e2, _⟩
          · exact List.eq_nil_of_length_eq_zero h0
          · unfold Nd.ks at e2
            rw [e] at e2
            have := (Value.slice.inj e2).1
            cases this
        have cC := fun (w1 : World) (hb : Below wr.heap.size wr w1) => copied_any B w1 y (hn.ks.below hb) hn.kl hhas ((hFw.below hb).ra k y hy2) (HS.out k y hy2)
        have d1 := hFc.t.c1
        rw [hPc.len, HN.out] at d1
        have HP : Hid (∀ w1 w5 x', Below wr.heap.size wr w1 → CopiedAt w1 w5 y x' → (w5.cell? ⟨w.heap.size, k, none⟩ = some (.pointer none) ∧ w5.frozen? ⟨w.heap.size, k, none⟩ = false) ∧ (Below w.heap.size w (w5.setCell ⟨w.heap.size, k, none⟩ (.pointer (some ⟨x'.ab, 0, none⟩))) ∧ ∃ lc, Full w.heap.size (w5.setCell ⟨w.heap.size, k, none⟩ (.pointer (some ⟨x'.ab, 0, none⟩))) P w.heap.size deep lc ∧ Part l (k + 1) lc)) := Lib.hid (fun w1 w5 x' hb hC => by
          have F1 := hFc.below hb
          have F5 := F1.below hC.bel
          refine ⟨⟨F5.t.no k (hPc.late k (Nat.le_refl _) hkl), F5.t.f k⟩, ?_, _, F1.place hkc hC.nd hC.bel hC.ab hC.own hC.ra hC.ka hC.ba, hPc.put hy2 hC.same⟩
          exact ((hbw.trans (hb.mono hbw.size)).trans (hC.bel.mono (Nat.le_trans hbw.size hb.size))).setCell (p := ⟨w.heap.size, k, none⟩) (Nat.le_refl _) _)
        have hbq0 : y.ab < w.heap.size := lt_of_cell' (HF.out.t.yes k y hy2).2.c0
        have hPq : P ≠ w.heap.size := by have := HPQ.out.1; omega
        have hPl : P < wr.heap.size := lt_of_cell' d1
        obtain ⟨e0, e1, e2, e3, e4, e5, _, _, _⟩ := hn
        obtain ⟨b, hb0⟩ : ∃ z, y.ab = z := ⟨_, rfl⟩
        obtain ⟨tg, htg⟩ : ∃ z, y.tag = z := ⟨_, rfl⟩
        obtain ⟨aa, haa⟩ : ∃ z, y.aa = z := ⟨_, rfl⟩
        obtain ⟨an, han⟩ : ∃ z, y.an = z := ⟨_, rfl⟩
        obtain ⟨ac, hac⟩ : ∃ z, y.ac = z := ⟨_, rfl⟩
        obtain ⟨tx, htx⟩ : ∃ z, y.tx = z := ⟨_, rfl⟩
        obtain ⟨up, hup⟩ : ∃ z, y.up = z := ⟨_, rfl⟩
        obtain ⟨ka, hka⟩ : ∃ z, y.ka = z := ⟨_, rfl⟩
        obtain ⟨kn, hkn⟩ : ∃ z, y.kids.length = z := ⟨_, rfl⟩
        obtain ⟨kc, hkc2⟩ : ∃ z, y.kc = z := ⟨_, rfl⟩
        rw [hb0] at hc e0 e1 e2 e3 e4 e5
        rw [htg] at e0 cC
        rw [haa, han, hac] at e1 cC
        rw [htx] at e2 cC
        rw [hup] at e4 cC
        rw [hka, hkn, hkc2] at e5 cC
        have hbl : b < wr.heap.size := lt_of_cell' e0
        rw [hb0] at hbq0
        have hbq : b ≠ w.heap.size := by omega
        have hS : (wr.cell? ⟨P, 1, none⟩ = some (.slice (some ⟨w.heap.size, 0, none⟩) N N) ∧ wr.cell? ⟨b, 0, none⟩ = some (.int .i64 tg) ∧ wr.cell? ⟨b, 1, none⟩ = some (.slice aa an ac) ∧ wr.cell? ⟨b, 2, none⟩ = some (.string tx) ∧ wr.cell? ⟨b, 3, none⟩ = some (.slice none 0 0) ∧ wr.cell? ⟨b, 4, none⟩ = some (.int .i64 up) ∧ wr.cell? ⟨b, 5, none⟩ = some (.slice ka kn kc)) := ⟨d1, e0, e1, e2, e3, e4, e5⟩
        have KS : Hid (∀ W', But w.heap.size wr W' → (W'.cell? ⟨P, 1, none⟩ = some (.slice (some ⟨w.heap.size, 0, none⟩) N N) ∧ W'.cell? ⟨b, 0, none⟩ = some (.int .i64 tg) ∧ W'.cell? ⟨b, 1, none⟩ = some (.slice aa an ac) ∧ W'.cell? ⟨b, 2, none⟩ = some (.string tx) ∧ W'.cell? ⟨b, 3, none⟩ = some (.slice none 0 0) ∧ W'.cell? ⟨b, 4, none⟩ = some (.int .i64 up) ∧ W'.cell? ⟨b, 5, none⟩ = some (.slice ka kn kc))) := Lib.hid (fun W' h => ⟨(h.cell hPl hPq 1).trans d1, (h.cell hbl hbq 0).trans e0, (h.cell hbl hbq 1).trans e1, (h.cell hbl hbq 2).trans e2, (h.cell hbl hbq 3).trans e3, (h.cell hbl hbq 4).trans e4, (h.cell hbl hbq 5).trans e5⟩)
        have hb : Hid (Below wr.heap.size wr wr) := Lib.hid (Below.refl _ _)
        have hbt : Hid (But w.heap.size wr wr) := Lib.hid (But.refl _ _)
        clear HA hbw hFc hPc hFw hkl hkc hy hy2 hhas hb0 htg haa han hac htx hup hka hkn hkc2 d1 e0 e1 e2 e3 e4 e5
        go_upto_region 8 with (fail)
        go_region_held3 (fun W' => (W'.cell? ⟨P, 1, none⟩ = some (.slice (some ⟨w.heap.size, 0, none⟩) N N) ∧ W'.cell? ⟨b, 0, none⟩ = some (.int .i64 tg) ∧ W'.cell? ⟨b, 1, none⟩ = some (.slice aa an ac) ∧ W'.cell? ⟨b, 2, none⟩ = some (.string tx) ∧ W'.cell? ⟨b, 3, none⟩ = some (.slice none 0 0) ∧ W'.cell? ⟨b, 4, none⟩ = some (.int .i64 up) ∧ W'.cell? ⟨b, 5, none⟩ = some (.slice ka kn kc))) (first | (with_reducible exact hS) | (refine KS.out _ ?_; (repeat (first | (with_reducible exact hbt.out) | (with_reducible exact But.refl _ _) | (with_reducible refine But.drew ?_) | (with_reducible refine But.alloc ?_ _) | (with_reducible refine But.setCell ?_ _ _))); done)) (first
          | (go_at_call 81; ((with_reducible refine (cC _ (show Below wr.heap.size wr _ by (repeat (first | (with_reducible exact hb.out) | (with_reducible exact Below.refl _ _) | (with_reducible refine Below.drew ?_) | (with_reducible refine Below.alloc ?_ ?_ _) | omega | (simp <;> omega))))).mono ?_); rintro e w5 ⟨x', rfl, hC⟩; obtain ⟨⟨s0, s1⟩, hR⟩ := HP.out _ _ _ (show Below wr.heap.size wr _ by (repeat (first | (with_reducible exact hb.out) | (with_reducible exact Below.refl _ _) | (with_reducible refine Below.drew ?_) | (with_reducible refine Below.alloc ?_ ?_ _) | omega | (simp <;> omega)))) hC; have HR := Lib.hid hR; have hd2 := Lib.hid ((show Below wr.heap.size wr _ by (repeat (first | (with_reducible exact hb.out) | (with_reducible exact Below.refl _ _) | (with_reducible refine Below.drew ?_) | (with_reducible refine Below.alloc ?_ ?_ _) | omega | (simp <;> omega)))).trans (hC.bel.mono (by first | exact hb.out.size | (simp; exact hb.out.size) | (simp; omega)))); clear hb hC hR; have hb := hd2; clear hd2 hbt; have hbt := Lib.hid (But.of_below (nb := w.heap.size) hb.out); replace hS := KS.out _ hbt.out)))
        all_goals go_wp2
        all_goals go_roundw
        case rel => exact ⟨k + 1, hlt, by go_num, Lib.hid (fun _ => HR.out)⟩
        case measure => simp [RowKit.intOf]; omega
    · have hkn : k = N := by omega
      subst hkn
      have HE : Hid (∃ nb' l', Full w.heap.size wr P nb' deep l' ∧ Like l l') := Lib.hid ⟨_, lc, hFc, hPc.like (by rw [HN.out]; exact Nat.le_refl _)⟩
      clear HA hFc hPc
      go_wp2
      go_ret
      exact ⟨P, rfl, hbw, HE.out⟩

end Go.Proofs.YtggjoefhopoggaaDoor
