/-
  Drop, exactly; what Graft, Remove and Drop in a row leave: all as it was.
-/
import Derived.Test.YtdegkcibadjogaaDoorCCopyX
import Derived.Test.YtdegkcibadjogaaDoorCGraftX
import Derived.Test.YtdegkcibadjogaaDoorCLawBk

namespace Go.Proofs.YtdegkcibadjogaaDoor
open Go.RowKit Go.Lib

set_option maxRecDepth 20000 in
set_option maxHeartbeats 8000000 in
theorem drop_exact (B : Nat) (w : World) (p nb : Nat) (deep : Int) (l : List (Option Nd)) (h : Full B w p nb deep l) (hI : Inv deep l) (hd : deep ≤ 40) {j : Nat} {y : Nd} (hj : l[j]? = some (some y)) (hu : y.up = -1) (hj0 : j ≠ 0) :
    Calls Tryd.prog 30 #[.pointer (some ⟨p, 0, none⟩), .int .i64 (j : Int)] w fun e w' => e = .returned (.int .i64 0) ∧ Below B w w' ∧ ∃ l', Full B w' p nb deep l' ∧ Inv deep l' ∧ l'.length = l.length ∧ (∀ k, Sub l j k → l'[k]? = some none) ∧ (∀ k, ¬ Sub l j k → l'[k]? = l[k]?) ∧ Asd nb l l' w w' := by
  have hb1 := (Below.refl _ w).alloc (Nat.le_refl _) (.cells #[.int .i64 (j : Int)] 3)
  have cA := ask_one w p nb deep (j : Int) l h.t h.ln
  have F1 := h.below hb1
  have cL := loose_any _ p nb deep l F1.t (j : Int)
  have HB := Lib.hid hb1
  rw [(nd_some hj).1, if_pos rfl] at cA
  have hl : looseT l (j : Int) = true := by
    unfold looseT
    simp only [Bool.and_eq_true, decide_eq_true_eq]
    rw [(nd_some hj).2]
    exact ⟨by omega, hu⟩
  rw [hl] at cL
  obtain ⟨r, hr⟩ := hI.dep
  have cF := forget_any B p nb deep l hI r hr 41 j y hj (by omega) _ l F1 (fun k _ => rfl)
  have HD := Lib.hid (fun (l' : List (Option Nd)) => hI.drop hj hu hj0 (l' := l'))
  have hBw : B ≤ w.heap.size := by have := h.bn; have := h.ln; omega
  clear h hI hj hb1 F1 hl hr
  go_enter Tryd.func30, Tryd.ntmps30
  go_wp2_with (first
    | (go_at_call 44; ((with_reducible refine (cA).mono ?_); rintro e w1 ⟨rfl, rfl⟩))
    | (go_at_call 46; ((with_reducible refine (cL).mono ?_); rintro e w1 ⟨rfl, rfl⟩))
    | (go_at_call 80; ((with_reducible refine (cF).mono ?_); rintro e w2 ⟨rfl, hbt, h2, l', h3, h4, h5, h6⟩)))
  go_ret
  have hB2 := (HB.out.mono hBw).trans h2
  have hsz := hbt.size
  exact ⟨rfl, hB2, l', h3, HD.out l' h5 h6, h4, h5, h6, ⟨by simp at hsz; omega, fun q _ => TB.drop h5 h6 q, fun q hq hn _ => (hbt.block q (by simp; omega) hn).trans (HB.out.block q hq)⟩⟩

mutual
def szPt : Pt → Nat
  | .mk _ _ _ kids => szPts kids + 1
def szPts : List Pt → Nat
  | [] => 0
  | t :: r => szPt t + szPts r
end
mutual
theorem sizeP_pt : ∀ t : Pn, sizeP t = szPt t.pt
  | .mk tag aa an ac tx ka kn kc ats kids => by rw [sizeP, Pn.pt, szPt, sizePs_pt kids]
theorem sizePs_pt : ∀ l : List Pn, sizePs l = szPts (ptL l)
  | [] => by rw [sizePs, ptL, szPts]
  | t :: r => by rw [sizePs, ptL, szPts, sizeP_pt t, sizePs_pt r]
end
mutual
theorem szPt_anew : ∀ P : Pt, szPt (anewPt P) = szPt P
  | .mk tag tx ats kids => by rw [anewPt, szPt, szPt, szPts_anew kids]
theorem szPts_anew : ∀ l : List Pt, szPts (anewPts l) = szPts l
  | [] => by rw [anewPts]
  | t :: r => by rw [anewPts, szPts, szPts, szPt_anew t, szPts_anew r]
end
theorem sizeP_anew {t u : Pn} (h : u.pt = anewPt t.pt) : sizeP u = sizeP t := by rw [sizeP_pt, h, szPt_anew, ← sizeP_pt]

section
variable {deep : Int} {l l2 lR l' : List (Option Nd)}
theorem Like.up (h : Like l l') (id : Int) : upT l' id = upT l id := by
  by_cases h0 : 0 ≤ id
  · obtain ⟨k, rfl⟩ : ∃ k : Nat, id = (k : Int) := ⟨id.toNat, by omega⟩
    rcases hk : l[k]? with _ | (_ | y)
    · have hk' : l'[k]? = none := by
        rw [List.getElem?_eq_none_iff] at hk ⊢
        rw [h.len]; exact hk
      unfold upT ndAt
      simp [hk, hk']
    · have hk' := h.no k hk
      unfold upT ndAt
      simp [hk, hk']
    · obtain ⟨y', g1, _, _, g4, _, _⟩ := h.yes k y hk
      rw [(nd_some hk).2, (nd_some g1).2, g4]
  · unfold upT ndAt
    rw [if_neg h0, if_neg h0]
theorem Like.upN (h : Like l l') : ∀ (n : Nat) (id : Int), Proofs.YtdegkcibadjogaaDoor.upN l' n id = Proofs.YtdegkcibadjogaaDoor.upN l n id
  | 0, _ => rfl
  | n + 1, id => by
    show Proofs.YtdegkcibadjogaaDoor.upN l' n (upT l' id) = Proofs.YtdegkcibadjogaaDoor.upN l n (upT l id)
    rw [h.up, h.upN n]
theorem Like.count (h : Like l l') : countF l' = countF l := by
  have e : l'.map (·.isSome) = l.map (·.isSome) := by
    apply List.ext_getElem?
    intro k
    rw [List.getElem?_map, List.getElem?_map]
    rcases hk : l[k]? with _ | (_ | y)
    · have hk' : l'[k]? = none := by
        rw [List.getElem?_eq_none_iff] at hk ⊢
        rw [h.len]; exact hk
      rw [hk']
    · rw [h.no k hk]
    · obtain ⟨y', g1, _⟩ := h.yes k y hk
      rw [g1]; rfl
  have c : ∀ L : List (Option Nd), countF L = ((L.map (·.isSome)).filter id).length := fun L => by
    unfold countF
    rw [List.filter_map, List.length_map]
    rfl
  rw [c, c, e]
/-- What was planted, joined, removed and dropped has left no trace. -/
theorem drop_back {j : Nat} (hG : Grows l l2) (hI : Inv deep l) (hjn : l[j]? = some none) (hN : NewIn l l2 j) (hL : Like l2 lR) (hlen : l'.length = lR.length) (h1 : ∀ k, Sub lR j k → l'[k]? = some none) (h2 : ∀ k, ¬ Sub lR j k → l'[k]? = lR[k]?) : Like l l' := by
  refine ⟨by rw [hlen, hL.len, hG.len], fun k hk => ?_, fun k z hk => ?_⟩
  · have hlk : k < l2.length := by rw [hG.len]; exact (List.getElem?_eq_some_iff.1 hk).1
    cases e : l2[k] with
    | none =>
      have e2 : l2[k]? = some none := by rw [List.getElem?_eq_getElem hlk, e]
      have e3 := hL.no k e2
      rw [h2 k (fun ⟨⟨y, hy⟩, _⟩ => by rw [e3] at hy; cases hy)]
      exact e3
    | some z =>
      have e2 : l2[k]? = some (some z) := by rw [List.getElem?_eq_getElem hlk, e]
      obtain ⟨n, hn⟩ := hN k hk ⟨z, e2⟩
      obtain ⟨z', g1, _⟩ := hL.yes k z e2
      exact h1 k ⟨⟨z', g1⟩, n, by rw [hL.upN]; exact hn⟩
  · have e2 := hG.old k z hk
    obtain ⟨z', g1, g2⟩ := hL.yes k z e2
    refine ⟨z', ?_, g2⟩
    rw [h2 k (fun ⟨_, n, hn⟩ => hG.notSub hI hjn n k z hk (by rw [← hL.upN]; exact hn))]
    exact g1
end

section
variable {B : Nat} {w0 Wb wr w' : World} {S : Nat → Prop} {p nb : Nat} {d : Int} {l l2 l' : List (Option Nd)}
theorem HsSt.asd (s : HsSt B w0 Wb S p nb d l l wr) (hS : ∀ q, S q → q < Wb.heap.size) (hb : Below B wr w') (hF : Full B w' p nb d l') (hI : Inv d l') (hA : Asd nb l l' wr w') : HsSt B w0 Wb S p nb d l' l' w' := by
  have ql : ∀ q, S q → q < wr.heap.size := fun q hq => lt_of_same (hS q hq) (s.same q hq)
  exact ⟨s.b.trans hb, hF, hI, LS.refl _, fun q hq => ⟨(s.sn q hq).1, fun ht => (s.sn q hq).2 (hA.tb q (ql q hq) ht)⟩, fun q hq => (hA.sd q (ql q hq) (s.sn q hq).1 (s.sn q hq).2).trans (s.same q hq)⟩

theorem Full.aside (h : Full B wr p nb d l) (hs : ∀ q, B ≤ q → q < wr.heap.size → w'.heap[q]? = wr.heap[q]?) (hz : wr.heap.size ≤ w'.heap.size) : Full B w' p nb d l := by
  have hp := hs p h.bp (lt_of_cell' h.t.c0)
  have hn := hs nb h.bn h.ln
  have cn : ∀ j, w'.cell? ⟨nb, j, none⟩ = wr.cell? ⟨nb, j, none⟩ := fun j => World.cell?_of_block (w := wr) hn
  have own : ∀ {e size m : Nat} {v : Value} {xs : List Value}, wr.ownsRow B e size v m xs → w'.ownsRow B e size v m xs := fun ho => ownsRow_same ho (fun b e => hs b (ho.lt b e).1 (ho.lt b e).2)
  refine ⟨⟨(World.cell?_of_block (w := wr) hp).trans h.t.c0, (World.cell?_of_block (w := wr) hp).trans h.t.c1, (World.cell?_of_block (w := wr) hp).trans h.t.c2, h.t.le, fun i hi => (cn i).trans (h.t.no i hi), fun i x hi => ⟨(cn i).trans (h.t.yes i x hi).1, ?_⟩, fun i => (World.frozen?_of_block (w := wr) hn).trans (h.t.f i)⟩, h.pn, Nat.lt_of_lt_of_le h.ln hz, h.bp, h.bn, h.ab, h.aa, fun i x hi => own (h.own i x hi), h.kb, fun i x hi => own (h.ra i x hi), h.rb⟩
  have hN := (h.t.yes i x hi).2
  have hx := hs x.ab (h.ab i x hi).1 (lt_of_cell' hN.c0)
  have cx : ∀ j, w'.cell? ⟨x.ab, j, none⟩ = wr.cell? ⟨x.ab, j, none⟩ := fun j => World.cell?_of_block (w := wr) hx
  refine ⟨(cx 0).trans hN.c0, (cx 1).trans hN.c1, (cx 2).trans hN.c2, (cx 3).trans hN.c3, (cx 4).trans hN.c4, (cx 5).trans hN.c5, fun j => (World.frozen?_of_block (w := wr) hx).trans (hN.f j), ?_, hN.kl⟩
  rcases hN.ks with h0 | ⟨b, o, e, h0⟩
  · exact .inl h0
  · have hb := (h.own i x hi).lt b (ks_block e)
    exact .inr ⟨b, o, e, fun j hj => (World.cell?_of_block (w := wr) (hs b hb.1 hb.2)).trans (h0 j hj)⟩
/-- A box below the tree is written: all goes on from there. -/
theorem HsSt.reset (s : HsSt B w0 Wb S p nb d l l wr) (hS : ∀ q, S q → q < Wb.heap.size) {W : World} (hb : Below wr.heap.size wr W) {r : Nat} (hr : r < B) (hw : ∀ q, q ≠ r → w'.heap[q]? = W.heap[q]?) (hz : w'.heap.size = W.heap.size) :
    HsSt B w' w' (fun b => S b ∨ (wr.heap.size ≤ b ∧ b < W.heap.size) ∨ b = r) p nb d l l w' := by
  have s2 := s.below hS hb
  have hF : Full B w' p nb d l := s2.f.aside (fun q hq _ => hw q (by omega)) (Nat.le_of_eq hz.symm)
  have hbn := hF.bn
  have hln := s.f.ln
  refine ⟨Below.refl _ _, hF, s.i, LS.refl _, fun q hq => ?_, fun q _ => rfl⟩
  rcases hq with hq | hq | hq
  · exact s2.sn q hq
  · exact ⟨by omega, fun ht => by have := TB.lt s.f q ht; omega⟩
  · refine ⟨by omega, fun ⟨i, x, hi, hx⟩ => ?_⟩
    rcases hx with e | e
    · have := (hF.ab i x hi).1; omega
    · have := ((hF.own i x hi).lt q e).1; omega

/-- What stands after a graft that went well: all the law asks. -/
theorem grafted {P : Pt} {n i a j : Nat} {x y : Nd} {ka : Option Addr} {kc : Nat} (hI : Inv d l) (hi : l[i]? = some (some x)) (ha : a ≤ x.kids.length) (hI2 : Inv d l2) (hG : Grows l l2) (hjn : l[j]? = some none) (hj : l2[j]? = some (some y)) (hu : y.up = -1) (hc : countF l2 = countF l + n) (hP : plainF l2 41 (j : Int) = P) (hN : NewIn l l2 j) (hIJ : Inv d (joinedZ l2 i x a j y ka kc)) :
    i ≠ j ∧ j ≠ 0 ∧ (joinedZ l2 i x a j y ka kc)[i]? = some (some { x with ka := ka, kc := kc, kids := insZ x.kids a j }) ∧ (joinedZ l2 i x a j y ka kc)[j]? = some (some { y with up := (i : Int) }) ∧ (insZ x.kids a (j : Int))[a]? = some (j : Int) ∧
    plainF (joinedZ l2 i x a j y ka kc) 41 (j : Int) = P ∧ countF (joinedZ l2 i x a j y ka kc) = countF l + n ∧ upT (joinedZ l2 i x a j y ka kc) (j : Int) = (i : Int) ∧ indexT (joinedZ l2 i x a j y ka kc) (j : Int) = (a : Int) ∧
    ∀ lR, lR = removedZ (joinedZ l2 i x a j y ka kc) i { x with ka := ka, kc := kc, kids := insZ x.kids a j } a j { y with up := (i : Int) } → plainF lR 41 (j : Int) = P ∧ upT lR (j : Int) = -1 ∧ (∃ y', lR[j]? = some (some y') ∧ y'.up = -1) ∧
      ∀ l' : List (Option Nd), l'.length = lR.length → (∀ k, Sub lR j k → l'[k]? = some none) → (∀ k, ¬ Sub lR j k → l'[k]? = lR[k]?) → hasT l' (j : Int) = false ∧ countF l' = countF l ∧ plainF l' 41 0 = plainF l 41 0 := by
  have hij : i ≠ j := fun e => by rw [e, hjn] at hi; cases hi
  have hj0 : j ≠ 0 := fun e => by
    obtain ⟨x0, a1, _⟩ := hI.host
    rw [e, a1] at hjn
    cases hjn
  have hi2 := hG.old i x hi
  have gi : (joinedZ l2 i x a j y ka kc)[i]? = some (some { x with ka := ka, kc := kc, kids := insZ x.kids a j }) := by unfold joinedZ; rw [set_ne hij]; exact set_at hi2
  have gj : (joinedZ l2 i x a j y ka kc)[j]? = some (some { y with up := (i : Int) }) := by unfold joinedZ; exact set_at (w := some y) (by rw [set_ne (fun e => hij e.symm)]; exact hj)
  have hget : (insZ x.kids a (j : Int))[a]? = some (j : Int) := ins_get ha
  have hup : upT (joinedZ l2 i x a j y ka kc) (j : Int) = (i : Int) := (nd_some gj).2
  refine ⟨hij, hj0, gi, gj, hget, ?_, ?_, hup, ?_, fun lR hR => ?_⟩
  · rw [join_plain hI2 hj ka kc 41 j y hj (fun ⟨_, n, e⟩ => hG.notSub hI hjn n i x hi e)]
    exact hP
  · rw [joined_count hi2 hj hij, hc]
  · unfold indexT
    rw [hup, ndAt_of gi]
    have := ixZ_ofB (insZ x.kids a (j : Int)) 0 a (hIJ.nod i _ gi) hget
    rw [Nat.zero_add] at this
    exact this
  · have hL : Like l2 lR := by rw [hR]; exact like_there hi2 hj hij hu ha
    obtain ⟨y', g1, _, _, g4, _, _⟩ := hL.yes j y hj
    refine ⟨by rw [hL.plain]; exact hP, by rw [hL.up, (nd_some hj).2]; exact hu, ⟨y', g1, by rw [g4]; exact hu⟩, fun l' h1 h2 h3 => ?_⟩
    have hB := drop_back hG hI hjn hN hL h1 h2 h3
    refine ⟨?_, hB.count, hB.plain 41 0⟩
    have e := hB.no j hjn
    exact (nd_none (by unfold ndAt; rw [if_pos (by omega), Int.toNat_natCast, e]; rfl)).1
end

end Go.Proofs.YtdegkcibadjogaaDoor
