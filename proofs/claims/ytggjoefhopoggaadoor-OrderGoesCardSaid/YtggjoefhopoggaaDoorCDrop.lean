/-
  Drop: a node goes, with all within it.
  forget, Drop.
-/
import Derived.Test.YtggjoefhopoggaaDoorCKeepC

namespace Go.Proofs.YtggjoefhopoggaaDoor
open Go.RowKit Go.Lib

/-- k is within j. -/
def Sub (l : List (Option Nd)) (j k : Nat) : Prop := (∃ y, l[k]? = some (some y)) ∧ ∃ n, upN l n (k : Int) = (j : Int)
section
variable {deep : Int} {l : List (Option Nd)} {r : Nat → Nat}
theorem upN_succ (l : List (Option Nd)) : ∀ (n : Nat) (k : Int), upN l (n + 1) k = upT l (upN l n k)
  | 0, _ => rfl
  | n + 1, k => by
    show upN l (n + 1) (upT l k) = _
    rw [upN_succ l n (upT l k)]
    rfl
theorem Inv.steps (h : Inv deep l) (hr : Rank deep l r) {m : Nat} : ∀ (n k : Nat) (z : Nd), l[k]? = some (some z) → upN l n (k : Int) = (m : Int) → r k = r m + n
  | 0, k, z, _, e => by
    have e2 : (k : Int) = (m : Int) := e
    have : k = m := by omega
    rw [this]; rfl
  | n + 1, k, z, hk, e => by
    have e2 : upN l n (upT l (k : Int)) = (m : Int) := e
    rw [(nd_some hk).2] at e2
    rcases h.par k z hk with c | ⟨i2, x2, c1, c2, _⟩
    · rw [c, upN_neg] at e2; omega
    · rw [c1] at e2
      have := h.steps hr n i2 x2 c2 e2
      have := hr.up k z i2 hk c1
      omega
theorem Inv.twoSubs (h : Inv deep l) (hr : Rank deep l r) {a b k : Nat} (hab : r a = r b) (h1 : Sub l a k) (h2 : Sub l b k) : a = b := by
  obtain ⟨⟨z, hz⟩, n, hn⟩ := h1
  obtain ⟨_, m, hm⟩ := h2
  have e1 := h.steps hr n k z hz hn
  have e2 := h.steps hr m k z hz hm
  have : n = m := by omega
  subst this
  rw [hn] at hm
  omega
theorem Inv.sub_kids (h : Inv deep l) {j : Nat} {x : Nd} (hj : l[j]? = some (some x)) (k : Nat) : Sub l j k ↔ k = j ∨ ∃ m : Nat, (m : Int) ∈ x.kids ∧ Sub l m k := by
  constructor
  · rintro ⟨hk, n, hn⟩
    cases n with
    | zero => have : (k : Int) = (j : Int) := hn; exact .inl (by omega)
    | succ n =>
      rw [upN_succ] at hn
      obtain ⟨z, hz⟩ : ∃ z, upN l n (k : Int) = z := ⟨_, rfl⟩
      rw [hz] at hn
      cases hx : ndAt l z with
      | none => rw [(nd_none hx).2] at hn; omega
      | some y =>
        obtain ⟨m, rfl, hm⟩ := nd_id hx
        rw [(nd_some hm).2] at hn
        rcases h.par m y hm with c | ⟨i, x2, c1, c2, c3⟩
        · omega
        · have : i = j := by omega
          subst this
          rw [hj] at c2
          obtain rfl := Option.some.inj (Option.some.inj c2)
          exact .inr ⟨m, c3, hk, n, hz⟩
  · rintro (rfl | ⟨m, hm, hk, n, hn⟩)
    · exact ⟨⟨x, hj⟩, 0, rfl⟩
    · obtain ⟨m2, y, e, hy, hu⟩ := h.kid j x _ hj hm
      have : m = m2 := by omega
      subst this
      exact ⟨hk, n + 1, by rw [upN_succ, hn, (nd_some hy).2, hu]⟩
/-- What is left behind Drop. -/
theorem Inv.drop (h : Inv deep l) {j : Nat} {y : Nd} (hj : l[j]? = some (some y)) (hu : y.up = -1) (hj0 : j ≠ 0) {l' : List (Option Nd)} (h1 : ∀ k, Sub l j k → l'[k]? = some none) (h2 : ∀ k, ¬ Sub l j k → l'[k]? = l[k]?) : Inv deep l' := by
  have new : ∀ (k : Nat) (z : Nd), l'[k]? = some (some z) → l[k]? = some (some z) ∧ ¬ Sub l j k := fun k z hk => by
    by_cases e : Sub l j k
    · rw [h1 k e] at hk; cases hk
    · exact ⟨by rw [← h2 k e]; exact hk, e⟩
  have step : ∀ (k i : Nat) (z : Nd), l[k]? = some (some z) → z.up = (i : Int) → (∃ x, l[i]? = some (some x)) → (Sub l j k ↔ Sub l j i) := fun k i z hk hz hi => by
    have e : ∀ n, upN l (n + 1) (k : Int) = upN l n (i : Int) := fun n => by
      show upN l n (upT l (k : Int)) = _
      rw [(nd_some hk).2, hz]
    constructor
    · rintro ⟨_, n, hn⟩
      cases n with
      | zero =>
        have e2 : (k : Int) = (j : Int) := hn
        have : k = j := by omega
        subst this
        rw [hj] at hk
        obtain rfl := Option.some.inj (Option.some.inj hk)
        omega
      | succ n => exact ⟨hi, n, by rw [← e]; exact hn⟩
    · rintro ⟨_, n, hn⟩
      exact ⟨⟨z, hk⟩, n + 1, by rw [e]; exact hn⟩
  obtain ⟨r, hr⟩ := h.dep
  refine ⟨?_, fun i x m hi hm => ?_, fun i x hi => h.nod i x (new i x hi).1, fun k z hk => ?_, ⟨r, fun k z hk => hr.le k z (new k z hk).1, fun k z i hk hz => hr.up k z i (new k z hk).1 hz, fun k z hk hz => hr.no k z (new k z hk).1 hz⟩, fun i x hi ht => h.txt i x (new i x hi).1 ht, fun i x hi => h.own i x (new i x hi).1⟩
  · obtain ⟨x0, hx0, a1, a2⟩ := h.host
    refine ⟨x0, ?_, a1, a2⟩
    rw [h2 0 (fun hs => ?_)]
    · exact hx0
    · obtain ⟨_, n, hn⟩ := hs
      cases n with
      | zero => have : ((0 : Nat) : Int) = (j : Int) := hn; omega
      | succ n =>
        have e : upN l n (upT l ((0 : Nat) : Int)) = (j : Int) := hn
        rw [(nd_some hx0).2, a1, upN_neg] at e
        omega
  · obtain ⟨b1, b2⟩ := new i x hi
    obtain ⟨k, z, rfl, c2, c3⟩ := h.kid i x m b1 hm
    have := step k i z c2 c3 ⟨x, b1⟩
    exact ⟨k, z, rfl, by rw [h2 k (fun hs => b2 (this.1 hs))]; exact c2, c3⟩
  · obtain ⟨b1, b2⟩ := new k z hk
    rcases h.par k z b1 with c | ⟨i, x, c1, c2, c3⟩
    · exact .inl c
    · have := step k i z b1 c1 ⟨x, c2⟩
      exact .inr ⟨i, x, c1, by rw [h2 i (fun hs => b2 (this.2 hs))]; exact c2, c3⟩
end

/-- A number is nobody's. -/
theorem Full.drop {B : Nat} {w : World} {p nb : Nat} {deep : Int} {l : List (Option Nd)} (h : Full B w p nb deep l) {j : Nat} (hj : j < l.length) : Full B (w.setCell ⟨nb, j, none⟩ (.pointer none)) p nb deep (l.set j none) := by
  have new : ∀ (k : Nat) (z : Nd), (l.set j none)[k]? = some (some z) → k ≠ j ∧ l[k]? = some (some z) := fun k z hk => by
    rcases set_get hk with ⟨_, e⟩ | h2
    · cases e
    · exact h2
  have hb : But nb w (w.setCell ⟨nb, j, none⟩ (.pointer none)) := (But.refl nb w).setCell j _
  have hpl : p < w.heap.size := lt_of_cell' h.t.c0
  have hown : ∀ {e : TypeId} {size n : Nat} {v : Value} {xs : List Value}, w.ownsRow B e size v n xs → (∀ b, v.ownBlock = some b → b ≠ nb) → (w.setCell ⟨nb, j, none⟩ (.pointer none)).ownsRow B e size v n xs := fun ho hne => by
    refine ⟨ho.1, ?_⟩
    rcases ho.2 with h2 | ⟨g, cap, cur, h0, hB, hg, h3⟩
    · exact .inl h2
    · exact .inr ⟨g, cap, cur, h0, hB, (hb.block g (Array.getElem?_eq_some_iff.1 hg).1 (hne g (by rw [h0]; rfl))).trans hg, h3⟩
  have hcell : ∃ u, w.cell? ⟨nb, j, none⟩ = some u := by
    cases e : l[j]? with
    | none => rw [List.getElem?_eq_none_iff] at e; omega
    | some v =>
      cases v with
      | none => exact ⟨_, h.t.no j e⟩
      | some x => exact ⟨_, (h.t.yes j x e).1⟩
  obtain ⟨u, hu⟩ := hcell
  refine ⟨⟨?_, ?_, ?_, by rw [List.length_set]; exact h.t.le, fun k hk => ?_, fun k z hk => ?_, fun k => by rw [World.frozen?_setCell]; exact h.t.f k⟩, h.pn, by simpa [World.setCell] using h.ln, h.bp, h.bn, fun i x hi => h.ab i x (new i x hi).2, fun i k x y hi hk hne => h.aa i k x y (new i x hi).2 (new k y hk).2 hne, fun i x hi => hown (h.own i x (new i x hi).2) (fun b e => (h.kb i x b (new i x hi).2 e).2.1), fun i x b hi e => ?_, fun i x hi => hown (h.ra i x (new i x hi).2) (fun b e => (h.rb i x b (new i x hi).2 e).2.1), fun i x b hi e => ?_⟩
  · exact (hb.cell hpl h.pn 0).trans h.t.c0
  · rw [List.length_set]; exact (hb.cell hpl h.pn 1).trans h.t.c1
  · exact (hb.cell hpl h.pn 2).trans h.t.c2
  · by_cases e : k = j
    · rw [e]; exact World.cell?_setCell_same _ _ _ hu
    · rw [set_ne e] at hk
      exact (World.cell?_setCell_other _ _ _ _ (fun e2 => e (congrArg Addr.off e2).symm)).trans (h.t.no k hk)
  · obtain ⟨e, h2⟩ := new k z hk
    obtain ⟨y1, y2⟩ := h.t.yes k z h2
    refine ⟨(World.cell?_setCell_other _ _ _ _ (fun e2 => e (congrArg Addr.off e2).symm)).trans y1, y2.set (q := ⟨nb, j, none⟩) (fun e2 => (h.ab k z h2).2.2 e2.symm) (fun b o e2 _ e3 => (h.kb k z b h2 (ks_block e2)).2.1 e3) _⟩
  · obtain ⟨a1, a2, a3⟩ := h.kb i x b (new i x hi).2 e
    exact ⟨a1, a2, fun k y hk => a3 k y (new k y hk).2⟩
  · obtain ⟨a1, a2, a3⟩ := h.rb i x b (new i x hi).2 e
    exact ⟨a1, a2, fun k y hk => a3 k y (new k y hk).2⟩

end Go.Proofs.YtggjoefhopoggaaDoor

namespace Go.Proofs.YtggjoefhopoggaaDoor
open Go.RowKit Go.Lib

/-- la is l, but that what is within the first a of these kids has gone. -/
structure Gone (l0 l : List (Option Nd)) (K : List Int) (a : Nat) (la : List (Option Nd)) : Prop where
  len : la.length = l.length
  no : ∀ k, (∃ b m, b < a ∧ K[b]? = some ((m : Nat) : Int) ∧ Sub l0 m k) → la[k]? = some none
  yes : ∀ k, ¬ (∃ b m, b < a ∧ K[b]? = some ((m : Nat) : Int) ∧ Sub l0 m k) → la[k]? = l[k]?

theorem nodup_at {z : Int} : ∀ (K : List Int) (a b : Nat), K.Nodup → K[a]? = some z → K[b]? = some z → a = b
  | [], a, b, _, h, _ => by simp at h
  | x :: K, a, b, hn, h1, h2 => by
    rw [List.nodup_cons] at hn
    cases a with
    | zero =>
      cases b with
      | zero => rfl
      | succ b =>
        have e : x = z := by simpa using h1
        have h3 : K[b]? = some z := by simpa using h2
        exact absurd (by rw [e]; exact List.mem_of_getElem? h3) hn.1
    | succ a =>
      have h3 : K[a]? = some z := by simpa using h1
      cases b with
      | zero =>
        have e : x = z := by simpa using h2
        exact absurd (by rw [e]; exact List.mem_of_getElem? h3) hn.1
      | succ b => rw [nodup_at K a b hn.2 h3 (by simpa using h2)]

set_option maxRecDepth 20000 in
set_option maxHeartbeats 8000000 in
theorem forget_any (B p nb : Nat) (deep : Int) (l0 : List (Option Nd)) (hI : Inv deep l0) (r : Nat → Nat) (hr : Rank deep l0 r) : ∀ (n j : Nat) (x : Nd), l0[j]? = some (some x) → deep < (r j : Int) + n →
    ∀ (w : World) (l : List (Option Nd)), Full B w p nb deep l → (∀ k, Sub l0 j k → l[k]? = l0[k]?) →
    Calls Tryd.prog 77 #[.pointer (some ⟨p, 0, none⟩), .int .i64 j] w fun e w' => e = .returned (.tuple #[]) ∧ But nb w w' ∧ Below B w w' ∧ ∃ l', Full B w' p nb deep l' ∧ l'.length = l.length ∧ (∀ k, Sub l0 j k → l'[k]? = some none) ∧ (∀ k, ¬ Sub l0 j k → l'[k]? = l[k]?)
  | 0, j, x, hj, hn => by have := hr.le j x hj; omega
  | n + 1, j, x, hj, hn => by
    intro w l hF hag
    have ih := fun (k : Nat) (y : Nd) (hk : l0[k]? = some (some y)) (hu : y.up = (j : Int)) => forget_any B p nb deep l0 hI r hr n k y hk (by have := hr.up k y j hk hu; omega)
    have hlj : l[j]? = some (some x) := by rw [hag j ⟨⟨x, hj⟩, 0, rfl⟩]; exact hj
    have hjl : j < l.length := (List.getElem?_eq_some_iff.1 hlj).1
    have c1 := hF.t.c1
    obtain ⟨yc, yn⟩ := hF.t.yes j x hlj
    have c5 := yn.c5
    have hks := yn.ks
    have hle := hF.t.le
    have hbn := hF.bn
    have hkl := yn.kl
    have hkid := hI.kid j x
    have hnod := hI.nod j x hj
    have hrow : ∀ a, a < x.kids.length → ∃ b o, x.ka = some ⟨b, o, none⟩ ∧ b ≠ nb ∧ w.cell? ⟨b, o + a, none⟩ = some (.int .i64 (x.kids[a]!)) := fun a ha => by
      rcases hks with h0 | ⟨b, o, e, h0⟩
      · rw [h0] at ha; simp at ha
      · exact ⟨b, o, e, (hF.kb j x b hlj (ks_block e)).2.1, h0 a ha⟩
    have HSub := Lib.hid (hI.sub_kids hj)
    have H0 : Hid (Full B w p nb deep l ∧ Gone l0 l x.kids 0 l) := Lib.hid ⟨hF, rfl, fun k ⟨b, m, hb, _⟩ => by omega, fun k _ => rfl⟩
    have HAG := Lib.hid hag
    have HJ := Lib.hid (And.intro hj hlj)
    have HROW := Lib.hid hrow
    have HKID := Lib.hid (fun k => hkid k hj)
    have HNOD := Lib.hid hnod
    obtain ⟨N, hN⟩ : ∃ N, l.length = N := ⟨_, rfl⟩
    obtain ⟨m, hm⟩ : ∃ m, x.kids.length = m := ⟨_, rfl⟩
    rw [hN] at c1 hjl hle
    rw [hm] at c5 hkl
    have HN := Lib.hid hN
    have HM := Lib.hid hm
    have hjI : (j : Int) < (N : Int) := by omega
    obtain ⟨b0, hb0⟩ : ∃ b, x.ab = b := ⟨_, rfl⟩
    rw [hb0] at yc c5
    obtain ⟨KA, hKA⟩ : ∃ b, x.ka = b := ⟨_, rfl⟩
    rw [hKA] at c5 HROW
    clear hKA hnod
    clear hF hag hlj hks hrow hkid yn hN hm hb0 hj
    go_enter Tryd.func77, Tryd.ntmps77
    go_wp2
    go_loopw [5, 17] (fun _ i wr => ∃ a : Nat, a ≤ m ∧ i = .int .i64 a ∧ Hid (But nb w wr ∧ Below B w wr ∧ ∃ la, Full B wr p nb deep la ∧ Gone l0 l x.kids a la)) (fun _ i _ => m - (RowKit.intOf i).toNat)
    case atStart => exact ⟨0, Nat.zero_le _, rfl, Lib.hid ⟨But.refl _ _, Below.refl _ _, l, H0.out⟩⟩
    case round =>
      obtain ⟨a, ha, rfl, HA⟩ := hrel
      by_cases hlt : a < m
      · have hal : a < x.kids.length := by rw [HM.out]; exact hlt
        have haI : (a : Int) < (m : Int) := by omega
        obtain ⟨b, o, hka, hbnb, hcell⟩ := HROW.out a hal
        obtain ⟨hbut, hbel, la, hFa, hGa⟩ := HA.out
        have hcw : wr.cell? ⟨b, o + a, none⟩ = some (.int .i64 (x.kids[a]!)) := (hbut.cell (lt_of_cell' hcell) hbnb (o + a)).trans hcell
        have hget : x.kids[a]? = some (x.kids[a]!) := by rw [List.getElem!_eq_getElem?_getD, List.getElem?_eq_getElem hal]; rfl
        obtain ⟨kj, y, ek, hy, hyu⟩ := HKID.out (x.kids[a]!) (List.mem_of_getElem? hget)
        rw [ek] at hcw hget
        have hrk := hr.up kj y j hy hyu
        have hearly : ∀ k, Sub l0 kj k → ¬ (∃ b m, b < a ∧ x.kids[b]? = some ((m : Nat) : Int) ∧ Sub l0 m k) := fun k hs ⟨b', m', hb', hkb, hs'⟩ => by
          obtain ⟨m2, y2, e2, hy2, hu2⟩ := HKID.out _ (List.mem_of_getElem? hkb)
          have hm2 : m' = m2 := by omega
          subst hm2
          have hr2 := hr.up m' y2 j hy2 hu2
          have := hI.twoSubs hr (by omega) hs hs'
          subst this
          have := nodup_at x.kids b' a HNOD.out hkb hget
          omega
        have cF := ih kj y hy hyu wr la hFa (fun k hs => by
          rw [hGa.yes k (hearly k hs)]
          exact HAG.out k ((HSub.out k).2 (.inr ⟨kj, List.mem_of_getElem? hget, hs⟩)))
        have KN : Hid (∀ w2 l', But nb wr w2 → Below B wr w2 → Full B w2 p nb deep l' → l'.length = la.length → (∀ k, Sub l0 kj k → l'[k]? = some none) → (∀ k, ¬ Sub l0 kj k → l'[k]? = la[k]?) → (But nb w w2 ∧ Below B w w2 ∧ ∃ la, Full B w2 p nb deep la ∧ Gone l0 l x.kids (a + 1) la)) := Lib.hid (fun w2 l' h1 h2 h3 h4 h5 h6 => by
          refine ⟨⟨Nat.le_trans hbut.size h1.size, fun b hb hn => (h1.block b (Nat.lt_of_lt_of_le hb hbut.size) hn).trans (hbut.block b hb hn)⟩, hbel.trans h2, l', h3, by rw [h4, hGa.len], fun k ⟨b', m', hb', hkb, hs'⟩ => ?_, fun k hk => ?_⟩
          · by_cases hs : Sub l0 kj k
            · exact h5 k hs
            · rw [h6 k hs]
              by_cases hba : b' = a
              · rw [hba, hget] at hkb
                have : m' = kj := by have := Option.some.inj hkb; omega
                rw [this] at hs'
                exact absurd hs' hs
              · exact hGa.no k ⟨b', m', by omega, hkb, hs'⟩
          · have hs : ¬ Sub l0 kj k := fun hs => hk ⟨a, kj, by omega, hget, hs⟩
            rw [h6 k hs]
            exact hGa.yes k (fun ⟨b', m', hb', hkb, hs'⟩ => hk ⟨b', m', by omega, hkb, hs'⟩))
        subst hka
        clear HA hbut hbel hFa hGa hcell hget ek hy hyu hrk hearly ih
        go_wp2_with (go_at_call 77; ((with_reducible refine (cF).mono ?_); rintro e w2 ⟨rfl, h1, h2, l', h3, h4, h5, h6⟩; have HX := Lib.hid (KN.out w2 l' h1 h2 h3 h4 h5 h6); clear h1 h2 h3 h4 h5 h6))
        go_roundw
        case rel => exact ⟨a + 1, hlt, by go_num, HX⟩
        case measure => simp [RowKit.intOf]; omega
      · have ham : a = m := by omega
        obtain ⟨hbut, hbel, la, hFa, hGa⟩ := HA.out
        obtain ⟨hj, hlj⟩ := HJ.out
        have hnj : ¬ (∃ b m, b < a ∧ x.kids[b]? = some ((m : Nat) : Int) ∧ Sub l0 m j) := fun ⟨b', m', hb', hkb, ⟨_, q, hq⟩⟩ => by
          obtain ⟨m2, y2, e2, hy2, hu2⟩ := HKID.out _ (List.mem_of_getElem? hkb)
          have hm2 : m' = m2 := by omega
          subst hm2
          have := hr.up m' y2 j hy2 hu2
          have := hI.steps hr q j x hj hq
          omega
        have hlaj : la[j]? = some (some x) := by rw [hGa.yes j hnj]; exact hlj
        have hjla : j < la.length := (List.getElem?_eq_some_iff.1 hlaj).1
        have d1 := hFa.t.c1
        rw [hGa.len, HN.out] at d1
        have dj := (hFa.t.yes j x hlaj).1
        have fj := hFa.t.f j
        have HE : Hid (But nb w (wr.setCell ⟨nb, j, none⟩ (.pointer none)) ∧ Below B w (wr.setCell ⟨nb, j, none⟩ (.pointer none)) ∧ ∃ l', Full B (wr.setCell ⟨nb, j, none⟩ (.pointer none)) p nb deep l' ∧ l'.length = l.length ∧ (∀ k, Sub l0 j k → l'[k]? = some none) ∧ (∀ k, ¬ Sub l0 j k → l'[k]? = l[k]?)) := Lib.hid (by
          refine ⟨hbut.setCell j _, hbel.setCell (p := ⟨nb, j, none⟩) hbn _, la.set j none, hFa.drop hjla, by rw [List.length_set, hGa.len], fun k hs => ?_, fun k hs => ?_⟩
          · by_cases e : k = j
            · rw [e]; exact set_at hlaj
            · rw [set_ne e]
              rcases (HSub.out k).1 hs with e2 | ⟨m', hm', hs'⟩
              · exact absurd e2 e
              · obtain ⟨b', hb'⟩ := List.getElem?_of_mem hm'
                exact hGa.no k ⟨b', m', by have := (List.getElem?_eq_some_iff.1 hb').1; rw [HM.out] at this; omega, hb', hs'⟩
          · have e : k ≠ j := fun e => hs (by rw [e]; exact (HSub.out j).2 (.inl rfl))
            rw [set_ne e]
            exact hGa.yes k (fun ⟨b', m', _, hkb, hs'⟩ => hs ((HSub.out k).2 (.inr ⟨m', List.mem_of_getElem? hkb, hs'⟩))))
        obtain ⟨b2, hb2⟩ : ∃ b, x.ab = b := ⟨_, rfl⟩
        rw [hb2] at dj
        subst ham
        clear HA hbut hbel hFa hGa hj hlj hnj hlaj hjla ih hb2
        go_wp2
        exact bodyPost_end (v := .tuple #[]) (by simp [results, Tryd.results77, go_sem]) rfl ⟨rfl, HE.out⟩

set_option maxRecDepth 20000 in
set_option maxHeartbeats 8000000 in
theorem drop_keep (B : Nat) (w : World) (p nb : Nat) (deep : Int) (l : List (Option Nd)) (h : Full B w p nb deep l) (hI : Inv deep l) (hd : deep ≤ 40) (id : Int) :
    Calls Tryd.prog 57 #[.pointer (some ⟨p, 0, none⟩), .int .i64 id] w (Kept B w p deep l.length) := by
  have KP := Lib.hid (fun (e : Ending) (w' : World) (he : ∃ v, e = .returned v) (hb : Below w.heap.size w w') => kept_of (w' := w') h hI he hb)
  have hb1 := (Below.refl _ w).alloc (Nat.le_refl _) (.cells #[.int .i64 id] 3)
  have cA := ask_one w p nb deep id l h.t h.ln
  have F1 := h.below hb1
  have cL := loose_any _ p nb deep l F1.t id
  have HB := Lib.hid hb1
  cases hx : ndAt l id with
  | none =>
    rw [(nd_none hx).1, if_neg (by decide)] at cA
    clear h hI hx hb1 F1
    go_enter Tryd.func57, Tryd.ntmps57
    go_wp2_with (go_at_call 73; ((with_reducible refine (cA).mono ?_); rintro e w1 ⟨rfl, rfl⟩))
    go_ret
    exact KP.out _ _ ⟨_, rfl⟩ HB.out
  | some y =>
    obtain ⟨j, rfl, hj⟩ := nd_id hx
    rw [(nd_some hj).1, if_pos rfl] at cA
    cases hl : looseT l (j : Int) with
    | false =>
      rw [hl] at cL
      clear h hI hx hj hb1 F1 hl
      go_enter Tryd.func57, Tryd.ntmps57
      go_wp2_with (first
        | (go_at_call 73; ((with_reducible refine (cA).mono ?_); rintro e w1 ⟨rfl, rfl⟩))
        | (go_at_call 74; ((with_reducible refine (cL).mono ?_); rintro e w1 ⟨rfl, rfl⟩)))
      go_ret
      exact KP.out _ _ ⟨_, rfl⟩ HB.out
    | true =>
      rw [hl] at cL
      have hl2 := hl
      unfold looseT at hl2
      simp only [Bool.and_eq_true, decide_eq_true_eq] at hl2
      rw [(nd_some hj).2] at hl2
      obtain ⟨r, hr⟩ := hI.dep
      have cF := forget_any B p nb deep l hI r hr 41 j y hj (by omega) _ l F1 (fun k _ => rfl)
      have HD := Lib.hid (fun (l' : List (Option Nd)) => hI.drop hj hl2.2 (by omega) (l' := l'))
      have hBw : B ≤ w.heap.size := by have := h.bn; have := h.ln; omega
      clear h hI hx hj hb1 F1 hl hl2 hr KP
      go_enter Tryd.func57, Tryd.ntmps57
      go_wp2_with (first
        | (go_at_call 73; ((with_reducible refine (cA).mono ?_); rintro e w1 ⟨rfl, rfl⟩))
        | (go_at_call 74; ((with_reducible refine (cL).mono ?_); rintro e w1 ⟨rfl, rfl⟩))
        | (go_at_call 77; ((with_reducible refine (cF).mono ?_); rintro e w2 ⟨rfl, _, h2, l', h3, h4, h5, h6⟩)))
      go_ret
      exact ⟨⟨_, rfl⟩, (HB.out.mono hBw).trans h2, nb, l', h3, HD.out l' h5 h6, h4⟩

end Go.Proofs.YtggjoefhopoggaaDoor
