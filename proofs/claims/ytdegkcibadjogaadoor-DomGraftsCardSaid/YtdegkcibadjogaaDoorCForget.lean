/-
  forget, Drop.
-/
import Derived.Test.YtdegkcibadjogaaDoorCDrop

namespace Go.Proofs.YtdegkcibadjogaaDoor
open Go.RowKit Go.Lib

/-- la is l, but that what is within the first a of these kids has gone. -/
structure Gone (l0 l : List (Option Nd)) (K : List Int) (a : Nat) (la : List (Option Nd)) : Prop where
  len : la.length = l.length
  no : ∀ k, (∃ b m, b < a ∧ K[b]? = some ((m : Nat) : Int) ∧ Sub l0 m k) → la[k]? = some none
  yes : ∀ k, ¬ (∃ b m, b < a ∧ K[b]? = some ((m : Nat) : Int) ∧ Sub l0 m k) → la[k]? = l[k]?

theorem nodup_at {z : Int} : ∀ (K : List Int) (a b : Nat), K.Nodup → K[a]? = some z → K[b]? = some z → a = b
  | [], a, b, _, h, _ => by simp at h
  | x :: K, a, b, hn, h1, h2 => by
    rw [List.nodup_cons] at hn
    cases a with
    | zero =>
      cases b with
      | zero => rfl
      | succ b =>
        have e : x = z := by simpa using h1
        have h3 : K[b]? = some z := by simpa using h2
        exact absurd (by rw [e]; exact List.mem_of_getElem? h3) hn.1
    | succ a =>
      have h3 : K[a]? = some z := by simpa using h1
      cases b with
      | zero =>
        have e : x = z := by simpa using h2
        exact absurd (by rw [e]; exact List.mem_of_getElem? h3) hn.1
      | succ b => rw [nodup_at K a b hn.2 h3 (by simpa using h2)]

set_option maxRecDepth 20000 in
set_option maxHeartbeats 8000000 in
theorem forget_any (B p nb : Nat) (deep : Int) (l0 : List (Option Nd)) (hI : Inv deep l0) (r : Nat → Nat) (hr : Rank deep l0 r) : ∀ (n j : Nat) (x : Nd), l0[j]? = some (some x) → deep < (r j : Int) + n →
    ∀ (w : World) (l : List (Option Nd)), Full B w p nb deep l → (∀ k, Sub l0 j k → l[k]? = l0[k]?) →
    Calls Tryd.prog 80 #[.pointer (some ⟨p, 0, none⟩), .int .i64 j] w fun e w' => e = .returned (.tuple #[]) ∧ But nb w w' ∧ Below B w w' ∧ ∃ l', Full B w' p nb deep l' ∧ l'.length = l.length ∧ (∀ k, Sub l0 j k → l'[k]? = some none) ∧ (∀ k, ¬ Sub l0 j k → l'[k]? = l[k]?)
  | 0, j, x, hj, hn => by have := hr.le j x hj; omega
  | n + 1, j, x, hj, hn => by
    intro w l hF hag
    have ih := fun (k : Nat) (y : Nd) (hk : l0[k]? = some (some y)) (hu : y.up = (j : Int)) => forget_any B p nb deep l0 hI r hr n k y hk (by have := hr.up k y j hk hu; omega)
    have hlj : l[j]? = some (some x) := by rw [hag j ⟨⟨x, hj⟩, 0, rfl⟩]; exact hj
    have hjl : j < l.length := (List.getElem?_eq_some_iff.1 hlj).1
    have c1 := hF.t.c1
    obtain ⟨yc, yn⟩ := hF.t.yes j x hlj
    have c5 := yn.c5
    have hks := yn.ks
    have hle := hF.t.le
    have hbn := hF.bn
    have hkl := yn.kl
    have hkid := hI.kid j x
    have hnod := hI.nod j x hj
    have hrow : ∀ a, a < x.kids.length → ∃ b o, x.ka = some ⟨b, o, none⟩ ∧ b ≠ nb ∧ w.cell? ⟨b, o + a, none⟩ = some (.int .i64 (x.kids[a]!)) := fun a ha => by
      rcases hks with h0 | ⟨b, o, e, h0⟩
      · rw [h0] at ha; simp at ha
      · exact ⟨b, o, e, (hF.kb j x b hlj (ks_block e)).2.1, h0 a ha⟩
    have HSub := Lib.hid (hI.sub_kids hj)
    have H0 : Hid (Full B w p nb deep l ∧ Gone l0 l x.kids 0 l) := Lib.hid ⟨hF, rfl, fun k ⟨b, m, hb, _⟩ => by omega, fun k _ => rfl⟩
    have HAG := Lib.hid hag
    have HJ := Lib.hid (And.intro hj hlj)
    have HROW := Lib.hid hrow
    have HKID := Lib.hid (fun k => hkid k hj)
    have HNOD := Lib.hid hnod
    obtain ⟨N, hN⟩ : ∃ N, l.length = N := ⟨_, rfl⟩
    obtain ⟨m, hm⟩ : ∃ m, x.kids.length = m := ⟨_, rfl⟩
    rw [hN] at c1 hjl hle
    rw [hm] at c5 hkl
    have HN := Lib.hid hN
    have HM := Lib.hid hm
    have hjI : (j : Int) < (N : Int) := by omega
    obtain ⟨b0, hb0⟩ : ∃ b, x.ab = b := ⟨_, rfl⟩
    rw [hb0] at yc c5
    obtain ⟨KA, hKA⟩ : ∃ b, x.ka = b := ⟨_, rfl⟩
    rw [hKA] at c5 HROW
    clear hKA hnod
    clear hF hag hlj hks hrow hkid yn hN hm hb0 hj
    go_enter Tryd.func80, Tryd.ntmps80
    go_wp2
    go_loopw [5, 17] (fun _ i wr => ∃ a : Nat, a ≤ m ∧ i = .int .i64 a ∧ Hid (But nb w wr ∧ Below B w wr ∧ ∃ la, Full B wr p nb deep la ∧ Gone l0 l x.kids a la)) (fun _ i _ => m - (RowKit.intOf i).toNat)
    case atStart => exact ⟨0, Nat.zero_le _, rfl, Lib.hid ⟨But.refl _ _, Below.refl _ _, l, H0.out⟩⟩
    case round =>
      obtain ⟨a, ha, rfl, HA⟩ := hrel
      by_cases hlt : a < m
      · have hal : a < x.kids.length := by rw [HM.out]; exact hlt
        have haI : (a : Int) < (m : Int) := by omega
        obtain ⟨b, o, hka, hbnb, hcell⟩ := HROW.out a hal
        obtain ⟨hbut, hbel, la, hFa, hGa⟩ := HA.out
        have hcw : wr.cell? ⟨b, o + a, none⟩ = some (.int .i64 (x.kids[a]!)) := (hbut.cell (lt_of_cell' hcell) hbnb (o + a)).trans hcell
        have hget : x.kids[a]? = some (x.kids[a]!) := by rw [List.getElem!_eq_getElem?_getD, List.getElem?_eq_getElem hal]; rfl
        obtain ⟨kj, y, ek, hy, hyu⟩ := HKID.out (x.kids[a]!) (List.mem_of_getElem? hget)
        rw [ek] at hcw hget
        have hrk := hr.up kj y j hy hyu
        have hearly : ∀ k, Sub l0 kj k → ¬ (∃ b m, b < a ∧ x.kids[b]? = some ((m : Nat) : Int) ∧ Sub l0 m k) := fun k hs ⟨b', m', hb', hkb, hs'⟩ => by
          obtain ⟨m2, y2, e2, hy2, hu2⟩ := HKID.out _ (List.mem_of_getElem? hkb)
          have hm2 : m' = m2 := by omega
          subst hm2
          have hr2 := hr.up m' y2 j hy2 hu2
          have := hI.twoSubs hr (by omega) hs hs'
          subst this
          have := nodup_at x.kids b' a HNOD.out hkb hget
          omega
        have cF := ih kj y hy hyu wr la hFa (fun k hs => by
          rw [hGa.yes k (hearly k hs)]
          exact HAG.out k ((HSub.out k).2 (.inr ⟨kj, List.mem_of_getElem? hget, hs⟩)))
        have KN : Hid (∀ w2 l', But nb wr w2 → Below B wr w2 → Full B w2 p nb deep l' → l'.length = la.length → (∀ k, Sub l0 kj k → l'[k]? = some none) → (∀ k, ¬ Sub l0 kj k → l'[k]? = la[k]?) → (But nb w w2 ∧ Below B w w2 ∧ ∃ la, Full B w2 p nb deep la ∧ Gone l0 l x.kids (a + 1) la)) := Lib.hid (fun w2 l' h1 h2 h3 h4 h5 h6 => by
          refine ⟨⟨Nat.le_trans hbut.size h1.size, fun b hb hn => (h1.block b (Nat.lt_of_lt_of_le hb hbut.size) hn).trans (hbut.block b hb hn)⟩, hbel.trans h2, l', h3, by rw [h4, hGa.len], fun k ⟨b', m', hb', hkb, hs'⟩ => ?_, fun k hk => ?_⟩
          · by_cases hs : Sub l0 kj k
            · exact h5 k hs
            · rw [h6 k hs]
              by_cases hba : b' = a
              · rw [hba, hget] at hkb
                have : m' = kj := by have := Option.some.inj hkb; omega
                rw [this] at hs'
                exact absurd hs' hs
              · exact hGa.no k ⟨b', m', by omega, hkb, hs'⟩
          · have hs : ¬ Sub l0 kj k := fun hs => hk ⟨a, kj, by omega, hget, hs⟩
            rw [h6 k hs]
            exact hGa.yes k (fun ⟨b', m', hb', hkb, hs'⟩ => hk ⟨b', m', by omega, hkb, hs'⟩))
        subst hka
        clear HA hbut hbel hFa hGa hcell hget ek hy hyu hrk hearly ih
        go_wp2_with (go_at_call 80; ((with_reducible refine (cF).mono ?_); rintro e w2 ⟨rfl, h1, h2, l', h3, h4, h5, h6⟩; have HX := Lib.hid (KN.out w2 l' h1 h2 h3 h4 h5 h6); clear h1 h2 h3 h4 h5 h6))
        go_roundw
        case rel => exact ⟨a + 1, hlt, by go_num, HX⟩
        case measure => simp [RowKit.intOf]; omega
      · have ham : a = m := by omega
        obtain ⟨hbut, hbel, la, hFa, hGa⟩ := HA.out
        obtain ⟨hj, hlj⟩ := HJ.out
        have hnj : ¬ (∃ b m, b < a ∧ x.kids[b]? = some ((m : Nat) : Int) ∧ Sub l0 m j) := fun ⟨b', m', hb', hkb, ⟨_, q, hq⟩⟩ => by
          obtain ⟨m2, y2, e2, hy2, hu2⟩ := HKID.out _ (List.mem_of_getElem? hkb)
          have hm2 : m' = m2 := by omega
          subst hm2
          have := hr.up m' y2 j hy2 hu2
          have := hI.steps hr q j x hj hq
          omega
        have hlaj : la[j]? = some (some x) := by rw [hGa.yes j hnj]; exact hlj
        have hjla : j < la.length := (List.getElem?_eq_some_iff.1 hlaj).1
        have d1 := hFa.t.c1
        rw [hGa.len, HN.out] at d1
        have dj := (hFa.t.yes j x hlaj).1
        have fj := hFa.t.f j
        have HE : Hid (But nb w (wr.setCell ⟨nb, j, none⟩ (.pointer none)) ∧ Below B w (wr.setCell ⟨nb, j, none⟩ (.pointer none)) ∧ ∃ l', Full B (wr.setCell ⟨nb, j, none⟩ (.pointer none)) p nb deep l' ∧ l'.length = l.length ∧ (∀ k, Sub l0 j k → l'[k]? = some none) ∧ (∀ k, ¬ Sub l0 j k → l'[k]? = l[k]?)) := Lib.hid (by
          refine ⟨hbut.setCell j _, hbel.setCell (p := ⟨nb, j, none⟩) hbn _, la.set j none, hFa.drop hjla, by rw [List.length_set, hGa.len], fun k hs => ?_, fun k hs => ?_⟩
          · by_cases e : k = j
            · rw [e]; exact set_at hlaj
            · rw [set_ne e]
              rcases (HSub.out k).1 hs with e2 | ⟨m', hm', hs'⟩
              · exact absurd e2 e
              · obtain ⟨b', hb'⟩ := List.getElem?_of_mem hm'
                exact hGa.no k ⟨b', m', by have := (List.getElem?_eq_some_iff.1 hb').1; rw [HM.out] at this; omega, hb', hs'⟩
          · have e : k ≠ j := fun e => hs (by rw [e]; exact (HSub.out j).2 (.inl rfl))
            rw [set_ne e]
            exact hGa.yes k (fun ⟨b', m', _, hkb, hs'⟩ => hs ((HSub.out k).2 (.inr ⟨m', List.mem_of_getElem? hkb, hs'⟩))))
        obtain ⟨b2, hb2⟩ : ∃ b, x.ab = b := ⟨_, rfl⟩
        rw [hb2] at dj
        subst ham
        clear HA hbut hbel hFa hGa hj hlj hnj hlaj hjla ih hb2
        go_wp2
        exact bodyPost_end (v := .tuple #[]) (by simp [results, Tryd.results80, go_sem]) rfl ⟨rfl, HE.out⟩

set_option maxRecDepth 20000 in
set_option maxHeartbeats 8000000 in
theorem drop_keep (B : Nat) (w : World) (p nb : Nat) (deep : Int) (l : List (Option Nd)) (h : Full B w p nb deep l) (hI : Inv deep l) (hd : deep ≤ 40) (id : Int) :
    Calls Tryd.prog 30 #[.pointer (some ⟨p, 0, none⟩), .int .i64 id] w (Kept B w p deep l.length) := by
  have KP := Lib.hid (fun (e : Ending) (w' : World) (he : ∃ v, e = .returned v) (hb : Below w.heap.size w w') => kept_of (w' := w') h hI he hb)
  have hb1 := (Below.refl _ w).alloc (Nat.le_refl _) (.cells #[.int .i64 id] 3)
  have cA := ask_one w p nb deep id l h.t h.ln
  have F1 := h.below hb1
  have cL := loose_any _ p nb deep l F1.t id
  have HB := Lib.hid hb1
  cases hx : ndAt l id with
  | none =>
    rw [(nd_none hx).1, if_neg (by decide)] at cA
    clear h hI hx hb1 F1
    go_enter Tryd.func30, Tryd.ntmps30
    go_wp2_with (go_at_call 44; ((with_reducible refine (cA).mono ?_); rintro e w1 ⟨rfl, rfl⟩))
    go_ret
    exact KP.out _ _ ⟨_, rfl⟩ HB.out
  | some y =>
    obtain ⟨j, rfl, hj⟩ := nd_id hx
    rw [(nd_some hj).1, if_pos rfl] at cA
    cases hl : looseT l (j : Int) with
    | false =>
      rw [hl] at cL
      clear h hI hx hj hb1 F1 hl
      go_enter Tryd.func30, Tryd.ntmps30
      go_wp2_with (first
        | (go_at_call 44; ((with_reducible refine (cA).mono ?_); rintro e w1 ⟨rfl, rfl⟩))
        | (go_at_call 46; ((with_reducible refine (cL).mono ?_); rintro e w1 ⟨rfl, rfl⟩)))
      go_ret
      exact KP.out _ _ ⟨_, rfl⟩ HB.out
    | true =>
      rw [hl] at cL
      have hl2 := hl
      unfold looseT at hl2
      simp only [Bool.and_eq_true, decide_eq_true_eq] at hl2
      rw [(nd_some hj).2] at hl2
      obtain ⟨r, hr⟩ := hI.dep
      have cF := forget_any B p nb deep l hI r hr 41 j y hj (by omega) _ l F1 (fun k _ => rfl)
      have HD := Lib.hid (fun (l' : List (Option Nd)) => hI.drop hj hl2.2 (by omega) (l' := l'))
      have hBw : B ≤ w.heap.size := by have := h.bn; have := h.ln; omega
      clear h hI hx hj hb1 F1 hl hl2 hr KP
      go_enter Tryd.func30, Tryd.ntmps30
      go_wp2_with (first
        | (go_at_call 44; ((with_reducible refine (cA).mono ?_); rintro e w1 ⟨rfl, rfl⟩))
        | (go_at_call 46; ((with_reducible refine (cL).mono ?_); rintro e w1 ⟨rfl, rfl⟩))
        | (go_at_call 80; ((with_reducible refine (cF).mono ?_); rintro e w2 ⟨rfl, _, h2, l', h3, h4, h5, h6⟩)))
      go_ret
      exact ⟨⟨_, rfl⟩, (HB.out.mono hBw).trans h2, nb, l', h3, HD.out l' h5 h6, h4⟩

end Go.Proofs.YtdegkcibadjogaaDoor
