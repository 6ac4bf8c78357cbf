/-
  Plain trees in memory: what they read as; may.
-/
import Derived.Test.YtdegkcibadjogaaDoorCopy
namespace Go.Proofs.YtdegkcibadjogaaDoor
open Go.RowKit Go.Lib

/-- A plain tree: its parts as they lie in memory, and what they read as. -/
inductive Pn where
  | mk (tag : Int) (aa : Option Addr) (an ac : Nat) (tx : ByteArray) (ka : Option Addr) (kn kc : Nat) (ats : List (ByteArray × ByteArray)) (kids : List Pn)
def Pn.tag : Pn → Int | .mk t .. => t
def Pn.aa : Pn → Option Addr | .mk _ a .. => a
def Pn.an : Pn → Nat | .mk _ _ n .. => n
def Pn.ac : Pn → Nat | .mk _ _ _ c .. => c
def Pn.tx : Pn → ByteArray | .mk _ _ _ _ t .. => t
def Pn.ka : Pn → Option Addr | .mk _ _ _ _ _ a .. => a
def Pn.kn : Pn → Nat | .mk _ _ _ _ _ _ n .. => n
def Pn.kc : Pn → Nat | .mk _ _ _ _ _ _ _ c .. => c
def Pn.ats : Pn → Row | .mk _ _ _ _ _ _ _ _ a _ => a
def Pn.kids : Pn → List Pn | .mk _ _ _ _ _ _ _ _ _ k => k
def Pn.v (t : Pn) : Value := .agg #[.int .i64 t.tag, .slice t.aa t.an t.ac, .string t.tx, .slice t.ka t.kn t.kc]
/-- A row of plain trees lies there. -/
def KRow (w : World) (ka : Option Addr) (kids : List Pn) : Prop :=
  kids = [] ∨ ∃ b o, ka = some ⟨b, o, none⟩ ∧ b < w.heap.size ∧ ∀ (j : Nat) (t : Pn), kids[j]? = some t → w.cell? ⟨b, o + j * 4, none⟩ = some (.int .i64 t.tag) ∧ w.cell? ⟨b, o + j * 4 + 1, none⟩ = some (.slice t.aa t.an t.ac) ∧ w.cell? ⟨b, o + j * 4 + 2, none⟩ = some (.string t.tx) ∧ w.cell? ⟨b, o + j * 4 + 3, none⟩ = some (.slice t.ka t.kn t.kc)
inductive PlAt (w : World) : Pn → Prop
  | mk {t : Pn} (row : RowAt w (.slice t.aa t.an t.ac) t.ats) (sz : SizedR t.ats) (tz : t.tx.size ≤ 140737488355328) (kn : t.kn = t.kids.length) (k1 : t.kn ≤ maxLen) (kr : KRow w t.ka t.kids) (ks : ∀ s ∈ t.kids, PlAt w s) : PlAt w t
theorem KRow.below {w w' : World} {ka : Option Addr} {kids : List Pn} (h : KRow w ka kids) (hb : Below w.heap.size w w') : KRow w' ka kids := by
  rcases h with h | ⟨b, o, e, hl, h⟩
  · exact .inl h
  · refine .inr ⟨b, o, e, Nat.lt_of_lt_of_le hl hb.size, fun j t hj => ?_⟩
    obtain ⟨h0, h1, h2, h3⟩ := h j t hj
    exact ⟨(hb.cell (p := ⟨b, o + j * 4, none⟩) hl).trans h0, (hb.cell (p := ⟨b, o + j * 4 + 1, none⟩) hl).trans h1, (hb.cell (p := ⟨b, o + j * 4 + 2, none⟩) hl).trans h2, (hb.cell (p := ⟨b, o + j * 4 + 3, none⟩) hl).trans h3⟩
theorem PlAt.stay {w w' : World} {t : Pn} (h : PlAt w t) (hb : Below w.heap.size w w') : PlAt w' t := by
  induction h with
  | mk row sz tz kn k1 kr _ ih => exact .mk (row.below hb) sz tz kn k1 (kr.below hb) ih
theorem PlAt.parts {w : World} {t : Pn} (h : PlAt w t) : RowAt w (.slice t.aa t.an t.ac) t.ats ∧ SizedR t.ats ∧ t.tx.size ≤ 140737488355328 ∧ t.kn = t.kids.length ∧ t.kn ≤ maxLen ∧ KRow w t.ka t.kids ∧ ∀ s ∈ t.kids, PlAt w s := by
  cases h with
  | mk row sz tz kn k1 kr ks => exact ⟨row, sz, tz, kn, k1, kr, ks⟩

/-- Whether a node may be, of the node alone. -/
def mayP (t : Pn) : Bool := if t.tag = 0 then decide (t.an = 0) && decide (t.kn = 0) else !(nameOf t.tag).toList.isEmpty && t.tx.toList.isEmpty
mutual
def goodP : Pn → Bool
  | .mk tag aa an ac tx ka kn kc ats kids => mayP (.mk tag aa an ac tx ka kn kc ats kids) && goodPs kids
def goodPs : List Pn → Bool
  | [] => true
  | t :: r => goodP t && goodPs r
end
mutual
def sizeP : Pn → Nat
  | .mk _ _ _ _ _ _ _ _ _ kids => sizePs kids + 1
def sizePs : List Pn → Nat
  | [] => 0
  | t :: r => sizeP t + sizePs r
end
/-- Whether a text may be. -/
def okS (s : ByteArray) : Bool := decide (s.size ≤ 8192) && decide ((anewS s).size ≤ 8192)
mutual
def shortP : Pn → Bool
  | .mk _ _ _ _ tx _ _ _ _ kids => okS tx && shortPs kids
def shortPs : List Pn → Bool
  | [] => true
  | t :: r => shortP t && shortPs r
end
mutual
def highP : Int → Int → Pn → Int
  | lev, h, .mk _ _ _ _ _ _ _ _ _ kids => highPs (lev + 1) (max h lev) kids
def highPs : Int → Int → List Pn → Int
  | _, h, [] => h
  | lev, h, t :: r => highPs lev (highP lev h t) r
end
theorem goodP_eq (t : Pn) : goodP t = (mayP t && goodPs t.kids) := by cases t; rw [goodP]; rfl
theorem sizeP_eq (t : Pn) : sizeP t = sizePs t.kids + 1 := by cases t; rw [sizeP]; rfl
theorem shortP_eq (t : Pn) : shortP t = (okS t.tx && shortPs t.kids) := by cases t; rw [shortP]; rfl
theorem highP_eq (lev h : Int) (t : Pn) : highP lev h t = highPs (lev + 1) (max h lev) t.kids := by cases t; rw [highP]; rfl
theorem sizeP_pos (t : Pn) : 0 < sizeP t := by rw [sizeP_eq]; omega
theorem sizePs_mem : ∀ (l : List Pn) (t : Pn), t ∈ l → sizeP t ≤ sizePs l
  | [], _, h => by cases h
  | s :: l, t, h => by
    rw [sizePs]
    rcases List.mem_cons.1 h with rfl | h
    · omega
    · have := sizePs_mem l t h; omega
theorem sizePs_len : ∀ l : List Pn, l.length ≤ sizePs l
  | [] => Nat.le_refl _
  | s :: l => by
    rw [sizePs, List.length_cons]
    have := sizePs_len l
    have := sizeP_pos s
    omega

set_option maxRecDepth 20000 in
theorem may_any (t : Pn) (w : World) (hT : OwnT w) :
    Calls Tryd.prog 94 #[t.v] w fun e w' => e = .returned (.bool (mayP t)) ∧ Below w.heap.size w w' := by
  have cE := fun (w1 : World) (hb : Below w.heap.size w w1) => isel_any t.tag w1 (hT.below hb)
  have hbw := (Below.refl _ w).alloc (Nat.le_refl _) (.cells #[.int .i64 t.tag, .slice t.aa t.an t.ac, .string t.tx, .slice t.ka t.kn t.kc] 34)
  obtain ⟨R, hR⟩ : ∃ R, mayP t = R := ⟨_, rfl⟩
  rw [hR]
  unfold mayP at hR
  unfold Pn.v
  obtain ⟨tag, h1⟩ : ∃ z, t.tag = z := ⟨_, rfl⟩
  obtain ⟨aa, h2⟩ : ∃ z, t.aa = z := ⟨_, rfl⟩
  obtain ⟨an, h3⟩ : ∃ z, t.an = z := ⟨_, rfl⟩
  obtain ⟨ac, h4⟩ : ∃ z, t.ac = z := ⟨_, rfl⟩
  obtain ⟨tx, h5⟩ : ∃ z, t.tx = z := ⟨_, rfl⟩
  obtain ⟨ka, h6⟩ : ∃ z, t.ka = z := ⟨_, rfl⟩
  obtain ⟨kn, h7⟩ : ∃ z, t.kn = z := ⟨_, rfl⟩
  obtain ⟨kc, h8⟩ : ∃ z, t.kc = z := ⟨_, rfl⟩
  simp only [h1, h2, h3, h4, h5, h6, h7, h8] at cE hbw hR ⊢
  have HB := Lib.hid hbw
  clear h1 h2 h3 h4 h5 h6 h7 h8 hT hbw
  by_cases h0 : tag = 0
  · subst h0
    rw [if_pos rfl] at hR
    clear cE
    by_cases ha : an = 0
    · subst ha
      have hk : ((kn : Int) == 0) = R := by rw [← hR, Bool.eq_iff_iff]; simp
      subst hk
      clear hR
      go_enter Tryd.func94, Tryd.ntmps94
      go_wp2
      go_ret
      exact ⟨rfl, HB.out⟩
    · rw [decide_eq_false ha] at hR
      have hR2 : false = R := hR
      subst hR2
      have hai : ((an : Int) == 0) = false := by simpa using ha
      have hai2 : ¬ (an : Int) = 0 := by omega
      clear hR
      go_enter Tryd.func94, Tryd.ntmps94
      go_wp2
      go_ret
      exact ⟨rfl, HB.out⟩
  · rw [if_neg h0] at hR
    have hb0 : (tag == 0) = false := by simpa using h0
    have cE2 := cE _ HB.out
    cases he : (nameOf tag).toList.isEmpty with
    | true =>
      rw [he] at hR cE2
      have hR2 : false = R := hR
      subst hR2
      clear cE he h0 hR
      go_enter Tryd.func94, Tryd.ntmps94
      go_wp2_with (go_at_call 82; ((with_reducible refine (cE2).mono ?_); rintro e w1 ⟨rfl, rfl⟩))
      go_ret
      exact ⟨rfl, HB.out⟩
    | false =>
      rw [he] at hR cE2
      have hR2 : tx.toList.isEmpty = R := hR
      subst hR2
      clear cE he h0 hR
      go_enter Tryd.func94, Tryd.ntmps94
      go_wp2_with (go_at_call 82; ((with_reducible refine (cE2).mono ?_); rintro e w1 ⟨rfl, rfl⟩))
      go_ret
      exact ⟨rfl, HB.out⟩

end Go.Proofs.YtdegkcibadjogaaDoor
