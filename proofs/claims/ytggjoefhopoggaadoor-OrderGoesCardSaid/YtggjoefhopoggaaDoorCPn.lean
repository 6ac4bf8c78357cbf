/-
  Plain trees in memory: what they read as; may.
  Plain trees without their places in memory; what a tree says as one; a plain tree that lies in certain blocks.
-/
import Derived.Test.YtggjoefhopoggaaDoorCCopy

namespace Go.Proofs.YtggjoefhopoggaaDoor
open Go.RowKit Go.Lib

/-- A plain tree: its parts as they lie in memory, and what they read as. -/
inductive Pn where
  | mk (tag : Int) (aa : Option Addr) (an ac : Nat) (tx : ByteArray) (ka : Option Addr) (kn kc : Nat) (ats : List (ByteArray × ByteArray)) (kids : List Pn)
def Pn.tag : Pn → Int | .mk t .. => t
def Pn.aa : Pn → Option Addr | .mk _ a .. => a
def Pn.an : Pn → Nat | .mk _ _ n .. => n
def Pn.ac : Pn → Nat | .mk _ _ _ c .. => c
def Pn.tx : Pn → ByteArray | .mk _ _ _ _ t .. => t
def Pn.ka : Pn → Option Addr | .mk _ _ _ _ _ a .. => a
def Pn.kn : Pn → Nat | .mk _ _ _ _ _ _ n .. => n
def Pn.kc : Pn → Nat | .mk _ _ _ _ _ _ _ c .. => c
def Pn.ats : Pn → Row | .mk _ _ _ _ _ _ _ _ a _ => a
def Pn.kids : Pn → List Pn | .mk _ _ _ _ _ _ _ _ _ k => k
def Pn.v (t : Pn) : Value := .agg #[.int .i64 t.tag, .slice t.aa t.an t.ac, .string t.tx, .slice t.ka t.kn t.kc]
/-- A row of plain trees lies there. -/
def KRow (w : World) (ka : Option Addr) (kids : List Pn) : Prop :=
  kids = [] ∨ ∃ b o, ka = some ⟨b, o, none⟩ ∧ b < w.heap.size ∧ ∀ (j : Nat) (t : Pn), kids[j]? = some t → w.cell? ⟨b, o + j * 4, none⟩ = some (.int .i64 t.tag) ∧ w.cell? ⟨b, o + j * 4 + 1, none⟩ = some (.slice t.aa t.an t.ac) ∧ w.cell? ⟨b, o + j * 4 + 2, none⟩ = some (.string t.tx) ∧ w.cell? ⟨b, o + j * 4 + 3, none⟩ = some (.slice t.ka t.kn t.kc)
inductive PlAt (w : World) : Pn → Prop
  | mk {t : Pn} (row : RowAt w (.slice t.aa t.an t.ac) t.ats) (sz : SizedR t.ats) (tz : t.tx.size ≤ 140737488355328) (kn : t.kn = t.kids.length) (k1 : t.kn ≤ maxLen) (kr : KRow w t.ka t.kids) (ks : ∀ s ∈ t.kids, PlAt w s) : PlAt w t
theorem KRow.below {w w' : World} {ka : Option Addr} {kids : List Pn} (h : KRow w ka kids) (hb : Below w.heap.size w w') : KRow w' ka kids := by
  rcases h with h | ⟨b, o, e, hl, h⟩
  · exact .inl h
  · refine .inr ⟨b, o, e, Nat.lt_of_lt_of_le hl hb.size, fun j t hj => ?_⟩
    obtain ⟨h0, h1, h2, h3⟩ := h j t hj
    exact ⟨(hb.cell (p := ⟨b, o + j * 4, none⟩) hl).trans h0, (hb.cell (p := ⟨b, o + j * 4 + 1, none⟩) hl).trans h1, (hb.cell (p := ⟨b, o + j * 4 + 2, none⟩) hl).trans h2, (hb.cell (p := ⟨b, o + j * 4 + 3, none⟩) hl).trans h3⟩
theorem PlAt.stay {w w' : World} {t : Pn} (h : PlAt w t) (hb : Below w.heap.size w w') : PlAt w' t := by
  induction h with
  | mk row sz tz kn k1 kr _ ih => exact .mk (row.below hb) sz tz kn k1 (kr.below hb) ih
theorem PlAt.parts {w : World} {t : Pn} (h : PlAt w t) : RowAt w (.slice t.aa t.an t.ac) t.ats ∧ SizedR t.ats ∧ t.tx.size ≤ 140737488355328 ∧ t.kn = t.kids.length ∧ t.kn ≤ maxLen ∧ KRow w t.ka t.kids ∧ ∀ s ∈ t.kids, PlAt w s := by
  cases h with
  | mk row sz tz kn k1 kr ks => exact ⟨row, sz, tz, kn, k1, kr, ks⟩

/-- Whether a node may be, of the node alone. -/
def mayP (t : Pn) : Bool := if t.tag = 0 then decide (t.an = 0) && decide (t.kn = 0) else !(nameOf t.tag).toList.isEmpty && t.tx.toList.isEmpty
mutual
def goodP : Pn → Bool
  | .mk tag aa an ac tx ka kn kc ats kids => mayP (.mk tag aa an ac tx ka kn kc ats kids) && goodPs kids
def goodPs : List Pn → Bool
  | [] => true
  | t :: r => goodP t && goodPs r
end
mutual
def sizeP : Pn → Nat
  | .mk _ _ _ _ _ _ _ _ _ kids => sizePs kids + 1
def sizePs : List Pn → Nat
  | [] => 0
  | t :: r => sizeP t + sizePs r
end
/-- Whether a text may be. -/
def okS (s : ByteArray) : Bool := decide (s.size ≤ 8192) && decide ((anewS s).size ≤ 8192)
mutual
def shortP : Pn → Bool
  | .mk _ _ _ _ tx _ _ _ _ kids => okS tx && shortPs kids
def shortPs : List Pn → Bool
  | [] => true
  | t :: r => shortP t && shortPs r
end
mutual
def highP : Int → Int → Pn → Int
  | lev, h, .mk _ _ _ _ _ _ _ _ _ kids => highPs (lev + 1) (max h lev) kids
def highPs : Int → Int → List Pn → Int
  | _, h, [] => h
  | lev, h, t :: r => highPs lev (highP lev h t) r
end
theorem goodP_eq (t : Pn) : goodP t = (mayP t && goodPs t.kids) := by cases t; rw [goodP]; rfl
theorem sizeP_eq (t : Pn) : sizeP t = sizePs t.kids + 1 := by cases t; rw [sizeP]; rfl
theorem shortP_eq (t : Pn) : shortP t = (okS t.tx && shortPs t.kids) := by cases t; rw [shortP]; rfl
theorem highP_eq (lev h : Int) (t : Pn) : highP lev h t = highPs (lev + 1) (max h lev) t.kids := by cases t; rw [highP]; rfl
theorem sizeP_pos (t : Pn) : 0 < sizeP t := by rw [sizeP_eq]; omega
theorem sizePs_mem : ∀ (l : List Pn) (t : Pn), t ∈ l → sizeP t ≤ sizePs l
  | [], _, h => by cases h
  | s :: l, t, h => by
    rw [sizePs]
    rcases List.mem_cons.1 h with rfl | h
    · omega
    · have := sizePs_mem l t h; omega
theorem sizePs_len : ∀ l : List Pn, l.length ≤ sizePs l
  | [] => Nat.le_refl _
  | s :: l => by
    rw [sizePs, List.length_cons]
    have := sizePs_len l
    have := sizeP_pos s
    omega

set_option maxRecDepth 20000 in
theorem may_any (t : Pn) (w : World) (hT : OwnT w) :
    Calls Tryd.prog 83 #[t.v] w fun e w' => e = .returned (.bool (mayP t)) ∧ Below w.heap.size w w' := by
  have cE := fun (w1 : World) (hb : Below w.heap.size w w1) => isel_any t.tag w1 (hT.below hb)
  have hbw := (Below.refl _ w).alloc (Nat.le_refl _) (.cells #[.int .i64 t.tag, .slice t.aa t.an t.ac, .string t.tx, .slice t.ka t.kn t.kc] 67)
  obtain ⟨R, hR⟩ : ∃ R, mayP t = R := ⟨_, rfl⟩
  rw [hR]
  unfold mayP at hR
  unfold Pn.v
  obtain ⟨tag, h1⟩ : ∃ z, t.tag = z := ⟨_, rfl⟩
  obtain ⟨aa, h2⟩ : ∃ z, t.aa = z := ⟨_, rfl⟩
  obtain ⟨an, h3⟩ : ∃ z, t.an = z := ⟨_, rfl⟩
  obtain ⟨ac, h4⟩ : ∃ z, t.ac = z := ⟨_, rfl⟩
  obtain ⟨tx, h5⟩ : ∃ z, t.tx = z := ⟨_, rfl⟩
  obtain ⟨ka, h6⟩ : ∃ z, t.ka = z := ⟨_, rfl⟩
  obtain ⟨kn, h7⟩ : ∃ z, t.kn = z := ⟨_, rfl⟩
  obtain ⟨kc, h8⟩ : ∃ z, t.kc = z := ⟨_, rfl⟩
  simp only [h1, h2, h3, h4, h5, h6, h7, h8] at cE hbw hR ⊢
  have HB := Lib.hid hbw
  clear h1 h2 h3 h4 h5 h6 h7 h8 hT hbw
  by_cases h0 : tag = 0
  · subst h0
    rw [if_pos rfl] at hR
    clear cE
    by_cases ha : an = 0
    · subst ha
      have hk : ((kn : Int) == 0) = R := by rw [← hR, Bool.eq_iff_iff]; simp
      subst hk
      clear hR
      go_enter Tryd.func83, Tryd.ntmps83
      go_wp2
      go_ret
      exact ⟨rfl, HB.out⟩
    · rw [decide_eq_false ha] at hR
      have hR2 : false = R := hR
      subst hR2
      have hai : ((an : Int) == 0) = false := by simpa using ha
      have hai2 : ¬ (an : Int) = 0 := by omega
      clear hR
      go_enter Tryd.func83, Tryd.ntmps83
      go_wp2
      go_ret
      exact ⟨rfl, HB.out⟩
  · rw [if_neg h0] at hR
    have hb0 : (tag == 0) = false := by simpa using h0
    have cE2 := cE _ HB.out
    cases he : (nameOf tag).toList.isEmpty with
    | true =>
      rw [he] at hR cE2
      have hR2 : false = R := hR
      subst hR2
      clear cE he h0 hR
      go_enter Tryd.func83, Tryd.ntmps83
      go_wp2_with (go_at_call 79; ((with_reducible refine (cE2).mono ?_); rintro e w1 ⟨rfl, rfl⟩))
      go_ret
      exact ⟨rfl, HB.out⟩
    | false =>
      rw [he] at hR cE2
      have hR2 : tx.toList.isEmpty = R := hR
      subst hR2
      clear cE he h0 hR
      go_enter Tryd.func83, Tryd.ntmps83
      go_wp2_with (go_at_call 79; ((with_reducible refine (cE2).mono ?_); rintro e w1 ⟨rfl, rfl⟩))
      go_ret
      exact ⟨rfl, HB.out⟩

end Go.Proofs.YtggjoefhopoggaaDoor

namespace Go.Proofs.YtggjoefhopoggaaDoor
open Go.RowKit Go.Lib

/-- A plain tree as it reads. -/
inductive Pt where
  | mk (tag : Int) (tx : ByteArray) (ats : List (ByteArray × ByteArray)) (kids : List Pt)
mutual
def Pn.pt : Pn → Pt
  | .mk tag _ _ _ tx _ _ _ ats kids => .mk tag tx ats (ptL kids)
def ptL : List Pn → List Pt
  | [] => []
  | t :: r => t.pt :: ptL r
end
theorem ptL_eq : ∀ l : List Pn, ptL l = l.map Pn.pt
  | [] => by rw [ptL]; rfl
  | t :: r => by rw [ptL, ptL_eq r]; rfl
theorem pt_eq (t : Pn) : t.pt = .mk t.tag t.tx t.ats (t.kids.map Pn.pt) := by cases t; rw [Pn.pt, ptL_eq]; rfl
/-- What a tree says of a node, down to so many steps. -/
def plainF (l : List (Option Nd)) : Nat → Int → Pt
  | 0, _ => .mk 0 ⟨#[]⟩ [] []
  | n + 1, id => match ndAt l id with
    | none => .mk 0 ⟨#[]⟩ [] []
    | some x => .mk x.tag x.tx x.ats (x.kids.map (plainF l n))
theorem plainF_none {l : List (Option Nd)} {id : Int} (h : ndAt l id = none) : ∀ n, plainF l n id = .mk 0 ⟨#[]⟩ [] []
  | 0 => rfl
  | n + 1 => by unfold plainF; rw [h]
theorem plainF_some {l : List (Option Nd)} {id : Int} {x : Nd} (h : ndAt l id = some x) (n : Nat) : plainF l (n + 1) id = .mk x.tag x.tx x.ats (x.kids.map (plainF l n)) := by
  show (match ndAt l id with | none => Pt.mk 0 ⟨#[]⟩ [] [] | some x => .mk x.tag x.tx x.ats (x.kids.map (plainF l n))) = _
  rw [h]

/-- It lies so in memory. -/
inductive PrAt (w : World) : Pn → Prop
  | mk {t : Pn} (row : RowAt w (.slice t.aa t.an t.ac) t.ats) (kn : t.kn = t.kids.length) (k1 : t.kn ≤ maxLen) (kr : KRow w t.ka t.kids) (ks : ∀ s ∈ t.kids, PrAt w s) : PrAt w t
theorem PlAt.pr {w : World} {t : Pn} (h : PlAt w t) : PrAt w t := by
  induction h with
  | mk row _ _ kn k1 kr _ ih => exact .mk row kn k1 kr ih
theorem PrAt.stay {w w' : World} {t : Pn} (h : PrAt w t) (hb : Below w.heap.size w w') : PrAt w' t := by
  induction h with
  | mk row kn k1 kr _ ih => exact .mk (row.below hb) kn k1 (kr.below hb) ih
theorem PrAt.parts {w : World} {t : Pn} (h : PrAt w t) : RowAt w (.slice t.aa t.an t.ac) t.ats ∧ t.kn = t.kids.length ∧ t.kn ≤ maxLen ∧ KRow w t.ka t.kids ∧ ∀ s ∈ t.kids, PrAt w s := by
  cases h with
  | mk row kn k1 kr ks => exact ⟨row, kn, k1, kr, ks⟩

/-- It lies in these blocks: wherever they stand as they stand here, it lies so. -/
structure PlOn (S : Nat → Prop) (w : World) (t : Pn) : Prop where
  lt : ∀ b, S b → b < w.heap.size
  at_ : ∀ w' : World, (∀ b, S b → w'.heap[b]? = w.heap[b]?) → PrAt w' t
theorem PlOn.here {S : Nat → Prop} {w : World} {t : Pn} (h : PlOn S w t) : PrAt w t := h.at_ w (fun _ _ => rfl)
theorem lt_of_same {w w' : World} {b : Nat} (hb : b < w.heap.size) (h : w'.heap[b]? = w.heap[b]?) : b < w'.heap.size := by
  rcases Nat.lt_or_ge b w'.heap.size with h1 | h1
  · exact h1
  · rw [Array.getElem?_eq_none h1, Array.getElem?_eq_getElem hb] at h
    cases h
theorem PlOn.keep {S : Nat → Prop} {w w' : World} {t : Pn} (h : PlOn S w t) (hs : ∀ b, S b → w'.heap[b]? = w.heap[b]?) : PlOn S w' t :=
  ⟨fun b hb => lt_of_same (h.lt b hb) (hs b hb), fun w2 h2 => h.at_ w2 (fun b hb => (h2 b hb).trans (hs b hb))⟩
theorem PlOn.more {S S' : Nat → Prop} {w : World} {t : Pn} (h : PlOn S w t) (hs : ∀ b, S b → S' b) (hl : ∀ b, S' b → b < w.heap.size) : PlOn S' w t :=
  ⟨hl, fun w2 h2 => h.at_ w2 (fun b hb => h2 b (hs b hb))⟩

theorem infoNode : (Tryd.prog.info? 67).map (fun i => (i.zero, i.size, i.bytes)) = some (some (.agg #[.int .i64 0, .slice none 0 0, .string ⟨#[]⟩, .slice none 0 0]), 4, 72) := by kernel_rfl
/-- A plain tree's cells. -/
def encN (t : Pn) : List Value := [.int .i64 t.tag, .slice t.aa t.an t.ac, .string t.tx, .slice t.ka t.kn t.kc]
def cellsN (l : List Pn) : List Value := l.flatMap encN
theorem cellsN_length : ∀ l : List Pn, (cellsN l).length = l.length * 4
  | [] => rfl
  | a :: l => by
    have := cellsN_length l
    show (encN a ++ cellsN l).length = _
    rw [List.length_append, this]
    simp [encN]; omega
theorem cellsN_append (l m : List Pn) : cellsN (l ++ m) = cellsN l ++ cellsN m := by unfold cellsN; rw [List.flatMap_append]
theorem cellsN_at : ∀ (l : List Pn) (j : Nat) (t : Pn), l[j]? = some t → (cellsN l)[j * 4]? = some (.int .i64 t.tag) ∧ (cellsN l)[j * 4 + 1]? = some (.slice t.aa t.an t.ac) ∧ (cellsN l)[j * 4 + 2]? = some (.string t.tx) ∧ (cellsN l)[j * 4 + 3]? = some (.slice t.ka t.kn t.kc)
  | [], j, t, h => by simp at h
  | a :: l, 0, t, h => by
    have e : a = t := by simpa using h
    subst e
    exact ⟨rfl, rfl, rfl, rfl⟩
  | a :: l, j + 1, t, h => by
    have ih := cellsN_at l j t (by simpa using h)
    have e : cellsN (a :: l) = .int .i64 a.tag :: .slice a.aa a.an a.ac :: .string a.tx :: .slice a.ka a.kn a.kc :: cellsN l := rfl
    have e1 : (j + 1) * 4 = j * 4 + 1 + 1 + 1 + 1 := by omega
    rw [e, e1]
    simpa using ih
theorem cellsN_one (l : List Pn) : ∀ u ∈ cellsN l, u.oneCell' = true := by
  intro u hu
  unfold cellsN at hu
  rw [List.mem_flatMap] at hu
  obtain ⟨a, _, hu⟩ := hu
  simp only [encN, List.mem_cons, List.not_mem_nil, or_false] at hu
  rcases hu with rfl | rfl | rfl | rfl <;> rfl

theorem addN (b o i : Nat) : (⟨b, o, none⟩ : Addr).add i = ⟨b, o + i, none⟩ := by unfold Addr.add; split <;> simp_all
/-- A row of plain trees of one's own reads as their row. -/
theorem krow_of_own {B : Nat} {w : World} {a : Option Addr} {n c : Nat} {l : List Pn} (h : w.ownsRow B 67 4 (.slice a n c) n (cellsN l)) : KRow w a l := by
  by_cases h0 : l = []
  · exact .inl h0
  · rcases h.2 with ⟨e, _⟩ | ⟨g, cap, cur, e, hB, hg, _⟩
    · have h1 := h.1
      exfalso
      rw [cellsN_length] at h1
      have : l.length ≠ 0 := fun e => h0 (List.eq_nil_of_length_eq_zero e)
      obtain ⟨_, e2, _⟩ := Value.slice.inj e
      omega
    · obtain ⟨rfl, _, _⟩ := Value.slice.inj e
      refine .inr ⟨g, 0, rfl, (Array.getElem?_eq_some_iff.1 hg).1, fun j t hj => ?_⟩
      have hc := fun k u hu => h.cells rfl k u hu
      obtain ⟨h1, h2, h3, h4⟩ := cellsN_at l j t hj
      have k0 := hc _ _ h1
      have k1 := hc _ _ h2
      have k2 := hc _ _ h3
      have k3 := hc _ _ h4
      rw [addN] at k0 k1 k2 k3
      rw [Nat.zero_add]
      rw [Nat.zero_add] at k0 k1 k2 k3
      exact ⟨k0, k1, k2, k3⟩

theorem ownsRow_same {w w' : World} {B size m : Nat} {t : TypeId} {v : Value} {xs : List Value} (h : w.ownsRow B t size v m xs) (hs : ∀ b, v.ownBlock = some b → w'.heap[b]? = w.heap[b]?) : w'.ownsRow B t size v m xs := by
  refine ⟨h.1, ?_⟩
  rcases h.2 with h2 | ⟨g, cap, cur, h0, hB, hg, h3⟩
  · exact .inl h2
  · exact .inr ⟨g, cap, cur, h0, hB, (hs g (by rw [h0]; rfl)).trans hg, h3⟩

/-- A node whose rows are one's own, and whose kids lie there, lies there. -/
theorem PlOn.node {S : Nat → Prop} {w : World} {B1 B2 : Nat} {tag : Int} {aa ka : Option Addr} {an ac kc : Nat} {tx : ByteArray} {ats : Row} {kids : List Pn} (hS : ∀ b, S b → b < w.heap.size)
    (ho : w.ownsRow B1 116 2 (.slice aa an ac) ats.length (cellsR ats)) (ha : ∀ b, (Value.slice aa an ac).ownBlock = some b → S b)
    (hk : w.ownsRow B2 67 4 (.slice ka kids.length kc) kids.length (cellsN kids)) (hkb : ∀ b, (Value.slice ka kids.length kc).ownBlock = some b → S b) (hl : kids.length ≤ 100000)
    (hks : ∀ s ∈ kids, PlOn S w s) : PlOn S w (.mk tag aa an ac tx ka kids.length kc ats kids) := by
  refine ⟨hS, fun w' hw => ?_⟩
  have o1 := ownsRow_same ho (fun b e => hw b (ha b e))
  have o2 := ownsRow_same hk (fun b e => hw b (hkb b e))
  exact .mk (rowAt_of_own o1) rfl (by show kids.length ≤ maxLen; unfold maxLen; omega) (krow_of_own o2) (fun s hs => (hks s hs).at_ w' hw)

end Go.Proofs.YtggjoefhopoggaaDoor
