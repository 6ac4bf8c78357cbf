/-
  weigh, Heavy.
-/
import Derived.Test.YtggjoefhopoggaaDoorCPn

namespace Go.Proofs.YtggjoefhopoggaaDoor
open Go.RowKit Go.Lib

mutual
def weighP : Pn → Int → Int
  | .mk _ _ an _ tx _ _ _ _ kids, left => if 20000 < tx.size ∨ 200 < an then -1 else weighPs kids (left - 1 - (an : Int) - ((tx.size / 64 : Nat) : Int))
def weighPs : List Pn → Int → Int
  | [], left => left
  | t :: r, left => if left < 0 then left else weighPs r (weighP t left)
end
theorem weighP_eq (t : Pn) (left : Int) : weighP t left = if 20000 < t.tx.size ∨ 200 < t.an then -1 else weighPs t.kids (left - 1 - (t.an : Int) - ((t.tx.size / 64 : Nat) : Int)) := by cases t; rw [weighP]; rfl
mutual
theorem weighP_bd : ∀ (t : Pn) (left : Int), -1000 ≤ left → left ≤ 4000 → -2000 ≤ weighP t left ∧ weighP t left ≤ 4000
  | .mk tag aa an ac tx ka kn kc ats kids, left, h1, h2 => by
    rw [weighP]
    split
    · omega
    · exact weighPs_bd kids _ (by omega) (by omega)
theorem weighPs_bd : ∀ (l : List Pn) (left : Int), -2000 ≤ left → left ≤ 4000 → -2000 ≤ weighPs l left ∧ weighPs l left ≤ 4000
  | [], left, h1, h2 => by rw [weighPs]; exact ⟨h1, h2⟩
  | t :: r, left, h1, h2 => by
    rw [weighPs]
    split
    · exact ⟨h1, h2⟩
    · obtain ⟨a, b⟩ := weighP_bd t left (by omega) h2
      exact weighPs_bd r _ a b
end
mutual
/-- A node whose weight is told is slim. -/
def slimP : Pn → Bool
  | .mk _ _ an _ tx _ _ _ _ kids => decide (tx.size ≤ 20000) && decide (an ≤ 200) && slimPs kids
def slimPs : List Pn → Bool
  | [] => true
  | t :: r => slimP t && slimPs r
end
mutual
theorem weighP_slim : ∀ (t : Pn) (left : Int), 0 ≤ weighP t left → slimP t = true ∧ weighP t left + (sizeP t : Int) ≤ left
  | .mk tag aa an ac tx ka kn kc ats kids, left, h => by
    rw [weighP] at h ⊢
    rw [slimP, sizeP]
    split at h
    · omega
    · rename_i hn
      rw [if_neg hn]
      obtain ⟨a, b⟩ := weighPs_slim kids _ h
      rw [a, decide_eq_true (by omega : tx.size ≤ 20000), decide_eq_true (by omega : an ≤ 200)]
      exact ⟨rfl, by omega⟩
theorem weighPs_slim : ∀ (l : List Pn) (left : Int), 0 ≤ weighPs l left → slimPs l = true ∧ weighPs l left + (sizePs l : Int) ≤ left
  | [], left, h => by rw [weighPs, slimPs, sizePs]; exact ⟨rfl, by omega⟩
  | t :: r, left, h => by
    rw [weighPs] at h ⊢
    rw [slimPs, sizePs]
    split at h
    · omega
    · rename_i hn
      rw [if_neg hn]
      obtain ⟨a, b⟩ := weighPs_slim r _ h
      have h3 : 0 ≤ weighP t left := by have := sizePs_len r; omega
      obtain ⟨c, d⟩ := weighP_slim t left h3
      rw [a, c]
      exact ⟨rfl, by omega⟩
end

set_option maxRecDepth 20000 in
set_option maxHeartbeats 8000000 in
theorem weigh_any : ∀ (n : Nat) (t : Pn), sizeP t ≤ n → ∀ (w : World) (left : Int), PlAt w t → -1000 ≤ left → left ≤ 4000 →
    Calls Tryd.prog 53 #[t.v, .int .i64 left] w fun e w' => e = .returned (.int .i64 (weighP t left)) ∧ Below w.heap.size w w'
  | 0, t, hn, _, _, _ => by have := sizeP_pos t; omega
  | n + 1, t, hn, w, left, hP => by
    intro l1 l2
    obtain ⟨_, _, ptz, pkn, pk1, pkr, pks⟩ := hP.parts
    have hwe := weighP_eq t left
    have hsz := sizeP_eq t
    obtain ⟨tag, h1⟩ : ∃ z, t.tag = z := ⟨_, rfl⟩
    obtain ⟨aa, h2⟩ : ∃ z, t.aa = z := ⟨_, rfl⟩
    obtain ⟨an, h3⟩ : ∃ z, t.an = z := ⟨_, rfl⟩
    obtain ⟨ac, h4⟩ : ∃ z, t.ac = z := ⟨_, rfl⟩
    obtain ⟨tx, h5⟩ : ∃ z, t.tx = z := ⟨_, rfl⟩
    obtain ⟨ka, h6⟩ : ∃ z, t.ka = z := ⟨_, rfl⟩
    obtain ⟨kn, h7⟩ : ∃ z, t.kn = z := ⟨_, rfl⟩
    obtain ⟨kc, h8⟩ : ∃ z, t.kc = z := ⟨_, rfl⟩
    have hv : t.v = .agg #[.int .i64 tag, .slice aa an ac, .string tx, .slice ka kn kc] := by unfold Pn.v; rw [h1, h2, h3, h4, h5, h6, h7, h8]
    rw [hv]
    rw [h3, h5] at hwe
    rw [h5] at ptz
    rw [h7] at pkn pk1
    rw [h6] at pkr
    obtain ⟨R, hR⟩ : ∃ R, weighP t left = R := ⟨_, rfl⟩
    rw [hR] at hwe ⊢
    unfold maxLen at pk1
    have HK := Lib.hid (And.intro pkn (And.intro pkr pks))
    have hw1 : IntKind.i64.wrap (left - 1) = left - 1 := IntWalk.i64_in _ (by omega)
    clear hP pkn pkr pks h1 h2 h3 h4 h5 h6 h7 h8 hv hR
    by_cases ht : 20000 < tx.size
    · have e1 : (20000 : Int) < (tx.size : Int) := by omega
      have e2 : R = -1 := by rw [hwe, if_pos (.inl ht)]
      subst e2
      clear hwe hsz
      go_enter Tryd.func53, Tryd.ntmps53
      go_wp2
      go_ret
      exact ⟨rfl, (Below.refl _ _).alloc (Nat.le_refl _) _⟩
    · have e1 : ¬ (20000 : Int) < (tx.size : Int) := by omega
      by_cases ha : 200 < an
      · have e3 : (200 : Int) < (an : Int) := by omega
        have e2 : R = -1 := by rw [hwe, if_pos (.inr ha)]
        subst e2
        clear hwe hsz
        go_enter Tryd.func53, Tryd.ntmps53
        go_wp2
        go_ret
        exact ⟨rfl, (Below.refl _ _).alloc (Nat.le_refl _) _⟩
      · have e3 : ¬ (200 : Int) < (an : Int) := by omega
        rw [if_neg (by omega)] at hwe
        obtain ⟨q, hq⟩ : ∃ q, tx.size / 64 = q := ⟨_, rfl⟩
        rw [hq] at hwe
        have hqd : Int.tdiv (tx.size : Int) 64 = (q : Int) := by rw [← hq]; exact (Int.ofNat_tdiv tx.size 64).symm
        have hq2 : q ≤ 313 := by omega
        have hw2 : IntKind.i64.wrap (left - 1 - (an : Int)) = left - 1 - (an : Int) := IntWalk.i64_in _ (by omega)
        have hw3 : IntKind.i64.wrap (left - 1 - (an : Int) - (q : Int)) = left - 1 - (an : Int) - (q : Int) := IntWalk.i64_in _ (by omega)
        have HR := Lib.hid hwe
        have ih := weigh_any n
        clear hwe hq
        go_enter Tryd.func53, Tryd.ntmps53
        go_wp2
        have HPn := Lib.hid hn
        obtain ⟨W, hW⟩ : ∃ W, w.alloc (.cells #[.int .i64 tag, .slice aa an ac, .string tx, .slice ka kn kc] 67) = W := ⟨_, rfl⟩
        obtain ⟨bx, hbx⟩ : ∃ z, w.heap.size = z := ⟨_, rfl⟩
        have hbW : Below w.heap.size w W := by rw [← hW]; exact (Below.refl _ _).alloc (Nat.le_refl _) _
        have x3 : W.cell? ⟨bx, 3, none⟩ = some (.slice ka kn kc) := by rw [← hW, ← hbx]; simp [go_sem]
        have HW := Lib.hid (And.intro hbW x3)
        rw [hW, hbx]
        have hl3 : -2000 ≤ left - 1 - (an : Int) - (q : Int) ∧ left - 1 - (an : Int) - (q : Int) ≤ 4000 := by omega
        obtain ⟨lf0, hlf0⟩ : ∃ z, left - 1 - (an : Int) - (q : Int) = z := ⟨_, rfl⟩
        rw [hlf0] at hl3 HR
        rw [hlf0]
        clear hW hbW x3 hqd hw1 hw2 hw3 hlf0 hn hbx
        go_loopw [1, 5] (fun v1 i wr => ∃ (k : Nat) (lf : Int), k ≤ kn ∧ i = .int .i64 k ∧ v1 = .int .i64 lf ∧ -2000 ≤ lf ∧ lf ≤ 4000 ∧ Hid (Below W.heap.size W wr) ∧ Hid (weighPs (t.kids.drop k) lf = R)) (fun _ i _ => kn - (RowKit.intOf i).toNat)
        case atStart => exact ⟨0, lf0, Nat.zero_le _, rfl, rfl, hl3.1, hl3.2, Lib.hid (Below.refl _ _), Lib.hid (by rw [List.drop_zero]; exact HR.out.symm)⟩
        case round =>
          obtain ⟨k, lf, hk, rfl, rfl, hlf1, hlf2, HB, HE⟩ := hrel
          have hbx2 := (HB.out.cell (p := ⟨bx, 3, none⟩) (lt_of_cell' HW.out.2)).trans HW.out.2
          by_cases hlt : k < kn
          · have hkl : k < t.kids.length := by rw [← HK.out.1]; exact hlt
            have hkI : (k : Int) < (kn : Int) := by omega
            have hd : t.kids.drop k = t.kids[k] :: t.kids.drop (k + 1) := List.drop_eq_getElem_cons hkl
            have he := HE.out
            rw [hd, weighPs] at he
            by_cases hneg : lf < 0
            · rw [if_pos hneg] at he
              subst he
              have hn1 : ¬ 0 ≤ lf := by omega
              have hn2 : decide (0 ≤ lf) = false := decide_eq_false hn1
              have HF := Lib.hid (HW.out.1.trans (HB.out.mono HW.out.1.size))
              clear hd HE ih hkl
              go_wp2
              go_ret
              exact ⟨rfl, HF.out⟩
            · rw [if_neg hneg] at he
              have hget : t.kids[k]? = some t.kids[k] := List.getElem?_eq_getElem hkl
              have hmem : t.kids[k] ∈ t.kids := List.getElem_mem hkl
              obtain ⟨s, hs⟩ : ∃ s, t.kids[k] = s := ⟨_, rfl⟩
              rw [hs] at he hget hmem
              have hrow := HK.out.2.1
              have hks := HK.out.2.2
              have hbr : Below w.heap.size w wr := HW.out.1.trans (HB.out.mono HW.out.1.size)
              obtain ⟨b, o, eka, hbl, hcells⟩ : ∃ b o, ka = some ⟨b, o, none⟩ ∧ b < w.heap.size ∧ ∀ (j : Nat) (t_1 : Pn), t.kids[j]? = some t_1 → w.cell? ⟨b, o + j * 4, none⟩ = some (.int .i64 t_1.tag) ∧ w.cell? ⟨b, o + j * 4 + 1, none⟩ = some (.slice t_1.aa t_1.an t_1.ac) ∧ w.cell? ⟨b, o + j * 4 + 2, none⟩ = some (.string t_1.tx) ∧ w.cell? ⟨b, o + j * 4 + 3, none⟩ = some (.slice t_1.ka t_1.kn t_1.kc) := by
                rcases hrow with h0 | h0
                · rw [h0] at hkl; simp at hkl
                · exact h0
              obtain ⟨y0, y1, y2, y3⟩ := hcells k s hget
              replace y0 := (hbr.cell (p := ⟨b, o + k * 4, none⟩) hbl).trans y0
              replace y1 := (hbr.cell (p := ⟨b, o + k * 4 + 1, none⟩) hbl).trans y1
              replace y2 := (hbr.cell (p := ⟨b, o + k * 4 + 2, none⟩) hbl).trans y2
              replace y3 := (hbr.cell (p := ⟨b, o + k * 4 + 3, none⟩) hbl).trans y3
              have hss := sizePs_mem t.kids s hmem
              have cO := ih s (by have := HPn.out; omega) wr lf ((hks s hmem).stay hbr) (by omega) (by omega)
              have hv : s.v = .agg #[.int .i64 s.tag, .slice s.aa s.an s.ac, .string s.tx, .slice s.ka s.kn s.kc] := rfl
              rw [hv] at cO
              obtain ⟨lf2, hlf⟩ : ∃ z, weighP s lf = z := ⟨_, rfl⟩
              have hbd := weighP_bd s lf (by omega) hlf2
              rw [hlf] at he cO hbd
              have HX := Lib.hid he
              have hn1 : 0 ≤ lf := by omega
              have hn2 : decide (0 ≤ lf) = true := decide_eq_true hn1
              subst eka
              clear hd HE ih hkl hget hmem hs he hrow hks hbr hcells hss hv hlf hbl
              go_wp2_with (go_at_call 53; ((with_reducible refine (cO).mono ?_); rintro e w5 ⟨rfl, b5⟩; have HB5 := Lib.hid (HB.out.trans (b5.mono HB.out.size)); clear b5))
              go_roundw
              case rel => exact ⟨k + 1, lf2, hlt, by go_num, rfl, hbd.1, hbd.2, HB5, HX⟩
              case measure => simp [RowKit.intOf]; omega
          · have hkn : k = kn := by omega
            subst hkn
            have hd : t.kids.drop k = [] := List.drop_of_length_le (by rw [HK.out.1]; exact Nat.le_refl _)
            have he := HE.out
            rw [hd, weighPs] at he
            subst he
            have HF := Lib.hid (HW.out.1.trans (HB.out.mono HW.out.1.size))
            clear hd HE ih
            go_wp2
            go_ret
            exact ⟨rfl, HF.out⟩

end Go.Proofs.YtggjoefhopoggaaDoor
