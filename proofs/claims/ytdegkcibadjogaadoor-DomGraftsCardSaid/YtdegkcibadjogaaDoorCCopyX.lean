/-
  The document's CopyNode: the same plain tree, in blocks of its own; AnewNode.
-/
import Derived.Test.YtdegkcibadjogaaDoorCCopyS

namespace Go.Proofs.YtdegkcibadjogaaDoor
open Go.RowKit Go.Lib

section
variable {r skn skc : Nat} {tag : Int} {aa a2 ska : Option Addr} {an ac n2 c2 : Nat} {tx : ByteArray} {w w0 W w2 : World} {ats : Row}
theorem TnBox.row (h : TnBox r tag aa an ac tx ska skn skc w) (a2 : Option Addr) (n2 c2 : Nat) : TnBox r tag a2 n2 c2 tx ska skn skc (w.setCell ⟨r, 1, none⟩ (.slice a2 n2 c2)) :=
  have hc : ∀ j, j ≠ 1 → (w.setCell ⟨r, 1, none⟩ (.slice a2 n2 c2)).cell? ⟨r, j, none⟩ = w.cell? ⟨r, j, none⟩ := fun j hj => World.cell?_setCell_other _ _ _ _ (fun e => hj (congrArg Addr.off e).symm)
  have hd : ∀ j, (w.setCell ⟨r, 1, none⟩ (.slice a2 n2 c2)).cell? ⟨r + 1, j, none⟩ = w.cell? ⟨r + 1, j, none⟩ := fun j => World.cell?_of_block (w := w) (Below.heap_setCell _ ⟨r, 1, none⟩ _ (r + 1) (by show r + 1 ≠ r; omega))
  ⟨(hc 0 (by decide)).trans h.y0, World.cell?_setCell_same _ _ _ h.y1, (hc 2 (by decide)).trans h.y2, (hc 3 (by decide)).trans h.y3, fun j => by rw [World.frozen?_setCell]; exact h.yf j, (hd 0).trans h.z0, (hd 1).trans h.z1, (hd 2).trans h.z2, (hd 3).trans h.z3, fun j => by rw [World.frozen?_setCell]; exact h.zf j⟩
theorem CyS.begin (hq : w0.heap.size = r) (hsW : W.heap.size = r + 1 + 1) (hbW : Below w0.heap.size w0 W) (hbx : TnBox r tag aa an ac tx ska skn skc W) (hb2 : Below W.heap.size W w2)
    (o2 : w2.ownsRow W.heap.size 61 2 (.slice a2 ats.length c2) ats.length (cellsR ats)) : CyS w0 w2.heap.size r tag a2 c2 tx ats ska skn skc none 0 [] (fun _ _ => False) (w2.setCell ⟨r, 1, none⟩ (.slice a2 ats.length c2)) := by
  have hs2 := hb2.size
  have ob : ∀ b, (Value.slice a2 ats.length c2).ownBlock = some b → r + 1 + 1 ≤ b ∧ b < w2.heap.size := fun b e => by have := o2.lt b e; rw [hsW] at this; exact this
  have set_ : ∀ b, b ≠ r → (w2.setCell ⟨r, 1, none⟩ (.slice a2 ats.length c2)).heap[b]? = w2.heap[b]? := fun b hb => Below.heap_setCell _ ⟨r, 1, none⟩ _ b hb
  refine ⟨(hbW.trans (hb2.mono hbW.size)).setCell (p := ⟨r, 1, none⟩) (Nat.le_of_eq hq) _, by simp [World.setCell], ?_, ?_, fun b e => ?_, World.ownsRow_nil _ _ _ _, fun b e => (by cases e), fun j hj => (by cases hj), fun j j' hj => (by cases hj), fun j s hs => (by simp at hs)⟩
  · exact (hbx.same (hb2.block r (by omega)) (hb2.block (r + 1) (by omega))).row a2 ats.length c2
  · exact own_mono2 (ownsRow_same o2 (fun b e => set_ b (by have := ob b e; omega))) hbW.size
  · have := ob b e
    exact ⟨by omega, by omega, by omega⟩
theorem below_grown2 {a w w' : World} {q : Nat} (hb : Below a.heap.size a w) (hq : a.heap.size ≤ q) (gr : w.grownBy w' (some q)) : Below a.heap.size a w' :=
  ⟨gr.os.trans hb.os, gr.tape.trans hb.tape, gr.output.trans hb.output, Nat.le_trans hb.size gr.size, fun k hk => (gr.block k (Nat.lt_of_lt_of_le hk hb.size) (fun e => by have := Option.some.inj e; omega)).trans (hb.block k hk)⟩
end
set_option maxRecDepth 20000 in
set_option maxHeartbeats 8000000 in
theorem copyNode_any : ∀ (n : Nat) (t : Pn), sizeP t ≤ n → n ≤ 100000 → ∀ w : World, PlAt w t → slimP t = true →
    Calls Tryd.prog 57 #[t.v] w (CopyPost t.pt w)
  | 0, t, hn, _, _, _, _ => by have := sizeP_pos t; omega
  | n + 1, .mk tag aa an ac tx ska kn skc ats kids, hn, hnn, w, hP, hsl => by
    obtain ⟨prow, _, _, pkn, pk1, pkr, pks⟩ := hP.parts
    rw [sizeP] at hn
    rw [slimP] at hsl
    simp only [Bool.and_eq_true, decide_eq_true_eq] at hsl
    obtain ⟨⟨htx, han⟩, hks⟩ := hsl
    obtain ⟨i0, hi, hz0, hz1, hz2⟩ := info_parts infoNode
    obtain ⟨j0, hj, hy0, hy1, hy2⟩ := info_parts infoAttr
    replace prow : RowAt w (.slice aa an ac) ats := prow
    replace pkr : KRow w ska kids := pkr
    replace pks : ∀ s ∈ kids, PlAt w s := pks
    replace pkn : kn = kids.length := pkn
    subst pkn
    have hae : an = ats.length := by
      obtain ⟨_, _, e⟩ := prow.len
      exact (Value.slice.inj e).2.1
    subst hae
    have hlen := sizePs_len kids
    have cZ : ∀ s ∈ kids, ∀ w1 : World, Below w.heap.size w w1 → Calls Tryd.prog 57 #[s.v] w1 (CopyPost s.pt w1) := fun s hs w1 hb => copyNode_any n s (by have := sizePs_mem kids s hs; omega) (by omega) w1 ((pks s hs).stay hb) (slimPs_mem kids s hs hks)
    have HZ := Lib.hid cZ
    have HKR := Lib.hid pkr
    rw [pt_eq]
    show Calls Tryd.prog 57 #[.agg #[.int .i64 tag, .slice aa ats.length ac, .string tx, .slice ska kids.length skc]] w (CopyPost (.mk tag tx ats (kids.map Pn.pt)) w)
    obtain ⟨m, hm⟩ : ∃ m, kids.length = m := ⟨_, rfl⟩
    obtain ⟨L, hL⟩ : ∃ L, ats.length = L := ⟨_, rfl⟩
    have hmm : m ≤ 100000 := by omega
    rw [hL] at han prow
    rw [hm, hL]
    have HM := Lib.hid hm
    have HL := Lib.hid hL
    have HR := Lib.hid prow
    clear hP pks pk1 pkr hks hn cZ hlen hm hL prow
    go_enter Tryd.func57, Tryd.ntmps57
    go_upto_region 1 with (fail)
    obtain ⟨r, hr⟩ : ∃ r, w.heap.size = r := ⟨_, rfl⟩
    obtain ⟨Wa, hWa⟩ : ∃ z, (w.alloc (.cells #[.int .i64 tag, .slice aa L ac, .string tx, .slice ska m skc] 34)).alloc (.cells #[.int .i64 0, .slice none 0 0, .string ⟨#[]⟩, .slice none 0 0] 34) = z := ⟨_, rfl⟩
    have hba : Below w.heap.size w Wa := by rw [← hWa]; exact ((Below.refl _ _).alloc (Nat.le_refl _) _).alloc (by simp) _
    have hsa : Wa.heap.size = r + 1 + 1 := by rw [← hWa, ← hr]; simp
    have hbox : TnBox r tag aa L ac tx ska m skc Wa := by
      rw [← hWa, ← hr]
      exact ⟨by simp [go_sem], by simp [go_sem], by simp [go_sem], by simp [go_sem], fun j => by simp [go_sem], by simp [go_sem], by simp [go_sem], by simp [go_sem], by simp [go_sem], fun j => by simp [go_sem]⟩
    have y1 := hbox.y1
    have yf1 := hbox.yf 1
    have KB : Hid (∀ W', Below Wa.heap.size Wa W' → W'.cell? ⟨r, 1, none⟩ = some (.slice aa L ac) ∧ W'.frozen? ⟨r, 1, none⟩ = false) := Lib.hid (fun W' h => ⟨(h.cell (p := ⟨r, 1, none⟩) (by show r < _; omega)).trans y1, (h.frozen (p := ⟨r, 1, none⟩) (by show r < _; omega)).trans yf1⟩)
    have y1a : ∀ o : Obj, (Wa.alloc o).cell? ⟨r, 1, none⟩ = some (.slice aa L ac) := fun o => (KB.out _ ((Below.refl _ _).alloc (Nat.le_refl _) o)).1
    have HO : Hid (∀ W', Below (Wa.alloc (.cells #[] 61)).heap.size (Wa.alloc (.cells #[] 61)) W' → W'.ownsRow Wa.heap.size 61 2 (.slice (some ⟨Wa.heap.size, 0, none⟩) 0 0) 0 []) := Lib.hid (fun W' h => ownsRow_below (World.ownsRow_made Wa #[] 0 (Nat.le_refl _) (Nat.zero_le _) rfl) h)
    have HRW : Hid (∀ W', Below Wa.heap.size Wa W' → RowAt W' (.slice aa L ac) ats) := Lib.hid (fun W' h => HR.out.below (hba.trans (h.mono hba.size)))
    rw [hWa]
    (try simp only [hr])
    have HBA := Lib.hid hba
    have HBX := Lib.hid hbox
    clear hWa hba hbox
    go_upto_region 2 with (at_builtin; refine wpList_append_row rfl _ _ 31 rfl Wa.heap.size j0 _ 32 Tryd.underlying31 hj hy0 hy1 hy2 rfl (.slice (some ⟨Wa.heap.size, 0, none⟩) 0 0) 0 [] (by go_simp) (HO.out _ (by (repeat (first | (with_reducible exact Below.refl _ _) | (with_reducible refine Below.drew ?_) | (with_reducible refine Below.alloc ?_ ?_ _) | omega | (simp <;> omega))))) (.slice aa L ac) ats (by go_simp) (HRW.out _ (by (repeat (first | (with_reducible exact Below.refl _ _) | (with_reducible refine Below.drew ?_) | (with_reducible refine Below.alloc ?_ ?_ _) | omega | (simp <;> omega))))) (by have := HL.out; unfold maxLen; omega) (by have := HL.out; omega) (by simp) ?_; intro v3 w3 own3 gr3; rw [Nat.zero_add, List.nil_append] at own3; obtain ⟨a2, c2, rfl⟩ := (rowAt_of_own own3).len; have hb3 := below_grown2 ((Below.refl _ Wa).alloc (Nat.le_refl _) (.cells #[] 61)) (Nat.le_refl _) gr3; obtain ⟨y1b, yf1b⟩ := KB.out _ hb3; clear y1 yf1 y1a)
    have S0 := CyS.begin hr hsa HBA.out HBX.out hb3 own3
    have hB1 : r + 1 < w3.heap.size := by have := hb3.size; omega
    obtain ⟨B1, hB1e⟩ : ∃ z, w3.heap.size = z := ⟨_, rfl⟩
    rw [hB1e] at S0 hB1
    obtain ⟨W5, hW5⟩ : ∃ z, w3.setCell ⟨r, 1, none⟩ (.slice a2 ats.length c2) = z := ⟨_, rfl⟩
    rw [hW5] at S0
    rw [hW5]
    have HS0 := Lib.hid S0
    clear S0 hW5 hB1e own3 gr3 hb3 y1b yf1b HBA HBX KB HO HRW hsa hj hy0 hy1 hy2 HL HR
    go_wp2
    go_loopw [3, 4] (fun l i wr => ∃ (ts : List Pn) (ka : Option Addr) (kc : Nat) (T : Nat → Nat → Prop), ts.length ≤ m ∧ l = .slice ka ts.length kc ∧ i = .int .i64 (ts.length : Int) ∧ Hid (CyS w B1 r tag a2 c2 tx ats ska m skc ka kc ts T wr) ∧ Hid (ts.map Pn.pt = (kids.take ts.length).map Pn.pt)) (fun _ i _ => m - (RowKit.intOf i).toNat)
    case atStart => exact ⟨[], none, 0, fun _ _ => False, Nat.zero_le _, rfl, rfl, HS0, Lib.hid rfl⟩
    case round =>
      obtain ⟨ts, ka, kc, T, hle, rfl, rfl, HS, HP⟩ := hrel
      obtain ⟨k, hk⟩ : ∃ k, ts.length = k := ⟨_, rfl⟩
      by_cases hlt : k < m
      · have hkl2 : k < kids.length := by rw [HM.out]; exact hlt
        have hbr : Below w.heap.size w wr := HS.out.b
        have hwr : w.heap.size ≤ wr.heap.size := hbr.size
        obtain ⟨s, hs⟩ : ∃ s, kids[k]? = some s := ⟨_, List.getElem?_eq_getElem hkl2⟩
        obtain ⟨b, o, ek, hbw, hkc⟩ : ∃ b o, ska = some ⟨b, o, none⟩ ∧ b < w.heap.size ∧ ∀ (j : Nat) (t : Pn), kids[j]? = some t → w.cell? ⟨b, o + j * 4, none⟩ = some (.int .i64 t.tag) ∧ w.cell? ⟨b, o + j * 4 + 1, none⟩ = some (.slice t.aa t.an t.ac) ∧ w.cell? ⟨b, o + j * 4 + 2, none⟩ = some (.string t.tx) ∧ w.cell? ⟨b, o + j * 4 + 3, none⟩ = some (.slice t.ka t.kn t.kc) := by
          rcases HKR.out with h0 | h0
          · rw [h0] at hkl2; simp at hkl2
          · exact h0
        obtain ⟨u0, u1, u2, u3⟩ := hkc k s hs
        replace u0 := (hbr.cell (p := ⟨b, o + k * 4, none⟩) hbw).trans u0
        replace u1 := (hbr.cell (p := ⟨b, o + k * 4 + 1, none⟩) hbw).trans u1
        replace u2 := (hbr.cell (p := ⟨b, o + k * 4 + 2, none⟩) hbw).trans u2
        replace u3 := (hbr.cell (p := ⟨b, o + k * 4 + 3, none⟩) hbw).trans u3
        have hin : s ∈ kids := List.mem_of_getElem? hs
        have hnx : kids.take (k + 1) = kids.take k ++ [s] := by rw [List.take_add_one, hs]; rfl
        have cZ : ∀ w1 : World, Below wr.heap.size wr w1 → Calls Tryd.prog 57 #[.agg #[.int .i64 s.tag, .slice s.aa s.an s.ac, .string s.tx, .slice s.ka s.kn s.kc]] w1 (CopyPost s.pt w1) := fun w1 hb1 => HZ.out s hin w1 (hbr.trans (hb1.mono hwr))
        unfold CopyPost at cZ
        have HN : Hid (∀ t : Pn, t.pt = s.pt → (ts ++ [t]).map Pn.pt = (kids.take (ts.length + 1)).map Pn.pt) := Lib.hid (fun t ht => by
          rw [List.map_append, HP.out, hk, hnx, List.map_append]
          simp [ht])
        have hkI : (ts.length : Int) < (m : Int) := by omega
        subst ek
        have y3 := HS.out.box.y3
        have HO : Hid (∀ W', Below wr.heap.size wr W' → W'.ownsRow w.heap.size 34 4 (.slice ka ts.length kc) ts.length (cellsN ts)) := Lib.hid (fun W' h => ownsRow_below HS.out.ok h)
        have hlen : ts.length ≤ 100000 := by omega
        rw [← hk] at u0 u1 u2 u3
        have cZ0 := cZ wr (Below.refl _ _)
        clear hkc hin hnx hs hkl2 hbr hk HP HS0 hbw cZ
        go_wp2_with (first
          | (go_at_call 57; ((with_reducible refine (cZ0).mono ?_); rintro e w4 ⟨tg, a3, n3, c3, x3, k3, m3, c4, ats3, kids3, rfl, hpt, hb4, hon⟩; have HB4 := Lib.hid hb4; have HON := Lib.hid hon; have HPT := Lib.hid hpt; have hsz4 := hb4.size; clear hb4 hon hpt y3 u0 u1 u2 u3))
          | (at_builtin; refine wpList_append_where rfl _ _ 32 rfl w.heap.size 34 i0 _ 4 72 Tryd.underlying32 hi hz0 hz1 hz2 rfl (by decide) (.slice ka ts.length kc) ts.length (cellsN ts) rfl (HO.out _ (HB4.out.trans (((Below.refl _ w4).alloc (Nat.le_refl _) _).mono hsz4))) ⟨_, 0, none⟩ 1 1 [.int .i64 tg, .slice a3 n3 c3, .string x3, .slice k3 m3 c4] rfl rfl (by
                intro j u hu
                match j, hu with
                | 0, hu => cases hu; simp [go_sem]
                | 1, hu => cases hu; simp [go_sem]
                | 2, hu => cases hu; simp [go_sem]
                | 3, hu => cases hu; simp [go_sem]
                | j + 4, hu => simp at hu) (by
                intro u hu
                simp only [List.mem_cons, List.not_mem_nil, or_false] at hu
                rcases hu with rfl | rfl | rfl | rfl <;> rfl) (by unfold maxLen; omega) (by omega) (by simp; omega) (by decide) ?_; intro g5 k5 w5 own5 gr5 hw5; have HNX := Lib.hid (CyS.next (t := .mk tg a3 n3 c3 x3 k3 m3 c4 ats3 kids3) HS.out hB1 HB4.out (Nat.le_refl _) HON.out ((Below.refl _ w4).alloc (Nat.le_refl _) _) own5 gr5 hw5)))
        all_goals go_roundw
        all_goals first
          | exact ⟨ts ++ [.mk tg a3 n3 c3 x3 k3 m3 c4 ats3 kids3], some ⟨g5, 0, none⟩, k5, _, by simp; omega, by simp, by simp, by simpa using HNX, Lib.hid (by rw [HN.out _ HPT.out]; simp)⟩
          | (simp [RowKit.intOf]; omega)
      · have hkm : ts.length = m := by omega
        have HF : Hid (ts.map Pn.pt = kids.map Pn.pt) := Lib.hid (by rw [HP.out, hkm, List.take_of_length_le (by rw [HM.out]; exact Nat.le_refl _)])
        have hIk : (ts.length : Int) = (m : Int) := by omega
        obtain ⟨y0, y1, y2, y3, yf, z0, z1, z2, z3, zf⟩ := HS.out.box
        have yf3 := yf 3
        have zf0 := zf 0
        have zf1 := zf 1
        have zf2 := zf 2
        have zf3 := zf 3
        have hrw : r + 1 < wr.heap.size := by have := HS.out.hs; omega
        have hx5 : (Pn.mk tag a2 ats.length c2 tx ka ts.length kc ats ts).pt = .mk tag tx ats (kids.map Pn.pt) := by
          rw [pt_eq]
          show Pt.mk tag tx ats (ts.map Pn.pt) = _
          rw [HF.out]
        have HX5 := Lib.hid hx5
        have HTS : Hid (ts.length ≤ 1000000) := Lib.hid (by omega)
        clear zf yf HP HS0 hx5 HF hk hlt hle hkm
        rw [hIk]
        go_wp2
        refine bodyPost_ret (v := .agg #[.int .i64 tag, .slice a2 ats.length c2, .string tx, .slice ka ts.length kc]) (by simp [results, Tryd.results57, go_sem, *]) rfl ?_
        refine ⟨tag, a2, ats.length, c2, tx, ka, ts.length, kc, ats, ts, rfl, HX5.out, ?_, ?_⟩
        · exact ((((HS.out.b.setCell (p := ⟨r, 3, none⟩) (Nat.le_of_eq hr) _).setCell (p := ⟨r + 1, 0, none⟩) (by show w.heap.size ≤ r + 1; omega) _).setCell (p := ⟨r + 1, 1, none⟩) (by show w.heap.size ≤ r + 1; omega) _).setCell (p := ⟨r + 1, 2, none⟩) (by show w.heap.size ≤ r + 1; omega) _).setCell (p := ⟨r + 1, 3, none⟩) (by show w.heap.size ≤ r + 1; omega) _
        · exact HS.out.done (Nat.le_of_eq hr) hB1 HTS.out (by omega) (((((wr.setCell ⟨r, 3, none⟩ (.slice ka ts.length kc)).setCell ⟨r + 1, 0, none⟩ (.int .i64 tag)).setCell ⟨r + 1, 1, none⟩ (.slice a2 ats.length c2)).setCell ⟨r + 1, 2, none⟩ (.string tx)).setCell ⟨r + 1, 3, none⟩ (.slice ka ts.length kc))
            (fun b hb hb2 => ((((Below.heap_setCell _ ⟨r + 1, 3, none⟩ _ b hb2).trans (Below.heap_setCell _ ⟨r + 1, 2, none⟩ _ b hb2)).trans (Below.heap_setCell _ ⟨r + 1, 1, none⟩ _ b hb2)).trans (Below.heap_setCell _ ⟨r + 1, 0, none⟩ _ b hb2)).trans (Below.heap_setCell _ ⟨r, 3, none⟩ _ b hb)) (by simp [World.setCell])

/-- What AnewNode answers. -/
def AnewPost (P : Pt) (w : World) (e : Ending) (w' : World) : Prop :=
  ∃ (tag : Int) (aa : Option Addr) (an ac : Nat) (tx : ByteArray) (ka : Option Addr) (kn kc : Nat) (ats : Row) (kids : List Pn), e = .returned (.agg #[.int .i64 tag, .slice aa an ac, .string tx, .slice ka kn kc]) ∧ (Pn.mk tag aa an ac tx ka kn kc ats kids).pt = P ∧ Below w.heap.size w w' ∧ PlOn (fun b => w.heap.size ≤ b ∧ b < w'.heap.size) w' (Pn.mk tag aa an ac tx ka kn kc ats kids)

set_option maxRecDepth 20000 in
set_option maxHeartbeats 4000000 in
theorem anewNode_any (t : Pn) (ht : sizeP t ≤ 100000) (w : World) (hP : PlAt w t) (hsl : slimP t = true) :
    Calls Tryd.prog 25 #[t.v] w (AnewPost (anewPt t.pt) w) := by
  have cC := fun (W : World) (hb : Below w.heap.size w W) => copyNode_any (sizeP t) t (Nat.le_refl _) ht W (hP.stay hb) hsl
  obtain ⟨tag, aa, an, ac, tx, ka, kn, kc, ats, kids⟩ := t
  obtain ⟨P, hPt⟩ : ∃ P, (Pn.mk tag aa an ac tx ka kn kc ats kids).pt = P := ⟨_, rfl⟩
  rw [hPt] at cC ⊢
  change ∀ W, _ → Calls Tryd.prog 57 #[.agg #[.int .i64 tag, .slice aa an ac, .string tx, .slice ka kn kc]] W (CopyPost P W) at cC
  show Calls Tryd.prog 25 #[.agg #[.int .i64 tag, .slice aa an ac, .string tx, .slice ka kn kc]] w (AnewPost (anewPt P) w)
  clear hP hsl hPt ht
  go_enter Tryd.func25, Tryd.ntmps25
  go_upto_region 1 with (fail)
  obtain ⟨r, hr⟩ : ∃ r, w.heap.size = r := ⟨_, rfl⟩
  obtain ⟨Wa, hWa⟩ : ∃ z, (w.alloc (.cells #[.int .i64 tag, .slice aa an ac, .string tx, .slice ka kn kc] 34)).alloc (.cells #[.int .i64 0, .slice none 0 0, .string ⟨#[]⟩, .slice none 0 0] 34) = z := ⟨_, rfl⟩
  have hba : Below w.heap.size w Wa := by rw [← hWa]; exact ((Below.refl _ _).alloc (Nat.le_refl _) _).alloc (by simp) _
  have hsa : Wa.heap.size = r + 1 + 1 := by rw [← hWa, ← hr]; simp
  have hbox : TnBox r tag aa an ac tx ka kn kc Wa := by
    rw [← hWa, ← hr]
    exact ⟨by simp [go_sem], by simp [go_sem], by simp [go_sem], by simp [go_sem], fun j => by simp [go_sem], by simp [go_sem], by simp [go_sem], by simp [go_sem], by simp [go_sem], fun j => by simp [go_sem]⟩
  have KB : Hid (∀ W', Below Wa.heap.size Wa W' → TnBox r tag aa an ac tx ka kn kc W') := Lib.hid (fun W' h => hbox.same (h.block r (by omega)) (h.block (r + 1) (by omega)))
  rw [hWa]
  (try simp only [hr])
  clear hWa
  obtain ⟨y0, y1, y2, y3, _, _, _, _, _, _⟩ := hbox
  have cC0 := cC Wa hba
  unfold CopyPost at cC0
  have HBA := Lib.hid hba
  clear hba cC
  go_upto_region 2 with (go_at_call 57; ((with_reducible refine (cC0).mono ?_); rintro e w2 ⟨tg, a3, n3, c3, x3, k3, m3, d3, s3, l3, rfl, hpt, hb2, hon⟩; have HB2 := Lib.hid hb2; have HON := Lib.hid hon; have HPT := Lib.hid hpt; clear hb2 hon hpt y0 y1 y2 y3; obtain ⟨y0, y1, y2, y3, yf, _, _, _, _, _⟩ := KB.out _ HB2.out; have yf0 := yf 0; have yf1 := yf 1; have yf2 := yf 2; have yf3 := yf 3; clear yf))
  obtain ⟨W3, hW3⟩ : ∃ z, (((w2.setCell ⟨r, 0, none⟩ (.int .i64 tg)).setCell ⟨r, 1, none⟩ (.slice a3 n3 c3)).setCell ⟨r, 2, none⟩ (.string x3)).setCell ⟨r, 3, none⟩ (.slice k3 m3 d3) = z := ⟨_, rfl⟩
  have hset : ∀ b, b ≠ r → W3.heap[b]? = w2.heap[b]? := fun b hb => by
    rw [← hW3]
    exact (((Below.heap_setCell _ ⟨r, 3, none⟩ _ b hb).trans (Below.heap_setCell _ ⟨r, 2, none⟩ _ b hb)).trans (Below.heap_setCell _ ⟨r, 1, none⟩ _ b hb)).trans (Below.heap_setCell _ ⟨r, 0, none⟩ _ b hb)
  have hs2 := HB2.out.size
  have hs3 : W3.heap.size = w2.heap.size := by rw [← hW3]; simp [World.setCell]
  have hb3 : Below w.heap.size w W3 := by
    rw [← hW3]
    exact ((((HBA.out.trans (HB2.out.mono HBA.out.size)).setCell (p := ⟨r, 0, none⟩) (Nat.le_of_eq hr) _).setCell (p := ⟨r, 1, none⟩) (Nat.le_of_eq hr) _).setCell (p := ⟨r, 2, none⟩) (Nat.le_of_eq hr) _).setCell (p := ⟨r, 3, none⟩) (Nat.le_of_eq hr) _
  have hbx3 : TnBox r tg a3 n3 c3 x3 k3 m3 d3 W3 := by
    have h4 : At4 W3 r 0 (.mk tg a3 n3 c3 x3 k3 m3 d3 s3 l3) := by
      rw [← hW3]
      exact set4_at (t := .mk tag aa an ac tx ka kn kc [] []) (u := .mk tg a3 n3 c3 x3 k3 m3 d3 s3 l3) ⟨y0, y1, y2, y3⟩
    have h0 := KB.out _ HB2.out
    have h1 := hset (r + 1) (by omega)
    exact ⟨h4.c0, h4.c1, h4.c2, h4.c3, fun j => by rw [← hW3]; simp only [World.frozen?_setCell]; exact h0.yf j, (World.cell?_of_block (w := w2) h1).trans h0.z0, (World.cell?_of_block (w := w2) h1).trans h0.z1, (World.cell?_of_block (w := w2) h1).trans h0.z2, (World.cell?_of_block (w := w2) h1).trans h0.z3, fun j => (World.frozen?_of_block (w := w2) h1).trans (h0.zf j)⟩
  have cT := HON.out.run W3 (fun b hb => hset b (by omega))
  rw [HPT.out] at cT
  unfold TurnPost at cT
  have KT : Hid (∀ w', Bes (fun b => Wa.heap.size ≤ b ∧ b < w2.heap.size) W3 w' → TnBox r tg a3 n3 c3 x3 k3 m3 d3 w') := Lib.hid (fun w' h => hbx3.same (h.block r (by omega) (by omega)) (h.block (r + 1) (by omega) (by omega)))
  rw [hW3]
  clear y0 y1 y2 y3 yf0 yf1 yf2 yf3 hW3 hset KB HPT HON
  obtain ⟨y0, y1, y2, y3, _, z0, z1, z2, z3, zf⟩ := hbx3
  have HB3 := Lib.hid hb3
  clear hb3 cC0 zf
  change Calls Tryd.prog 77 #[.agg #[.int .i64 tg, .slice a3 n3 c3, .string x3, .slice k3 m3 d3]] W3 _ at cT
  go_wp2_with (go_at_call 77; ((with_reducible refine (cT).mono ?_); rintro e w5 ⟨tg5, a5, n5, c5, x5, k5, m5, d5, s5, l5, rfl, hpt, hb5, hon⟩; have HB5 := Lib.hid hb5; have HON := Lib.hid hon; have HPT := Lib.hid hpt; clear hb5 hon hpt y0 y1 y2 y3 z0 z1 z2 z3; obtain ⟨_, _, _, _, _, z0, z1, z2, z3, zf⟩ := KT.out _ HB5.out; have zf0 := zf 0; have zf1 := zf 1; have zf2 := zf 2; have zf3 := zf 3; clear zf))
  refine bodyPost_ret (v := .agg #[.int .i64 tg5, .slice a5 n5 c5, .string x5, .slice k5 m5 d5]) (by simp [results, Tryd.results25, go_sem, *]) rfl ?_
  have hr1 : w.heap.size ≤ r + 1 := by omega
  refine ⟨tg5, a5, n5, c5, x5, k5, m5, d5, s5, l5, rfl, HPT.out, ?_, ?_⟩
  · have hB : Below w.heap.size w w5 := HB3.out.trans (HB5.out.below (B := w.heap.size) (fun b hb => by omega) HB3.out.size)
    exact (((hB.setCell (p := ⟨r + 1, 0, none⟩) hr1 _).setCell (p := ⟨r + 1, 1, none⟩) hr1 _).setCell (p := ⟨r + 1, 2, none⟩) hr1 _).setCell (p := ⟨r + 1, 3, none⟩) hr1 _
  · have hs5 := HB5.out.size
    refine (HON.out.keep (w' := (((w5.setCell ⟨r + 1, 0, none⟩ (.int .i64 tg5)).setCell ⟨r + 1, 1, none⟩ (.slice a5 n5 c5)).setCell ⟨r + 1, 2, none⟩ (.string x5)).setCell ⟨r + 1, 3, none⟩ (.slice k5 m5 d5)) (fun b hb => ?_)).more (fun b hb => ⟨by omega, by simp [World.setCell]; omega⟩) (fun b hb => hb.2)
    have hne : b ≠ r + 1 := by omega
    exact (((Below.heap_setCell _ ⟨r + 1, 3, none⟩ _ b hne).trans (Below.heap_setCell _ ⟨r + 1, 2, none⟩ _ b hne)).trans (Below.heap_setCell _ ⟨r + 1, 1, none⟩ _ b hne)).trans (Below.heap_setCell _ ⟨r + 1, 0, none⟩ _ b hne)

end Go.Proofs.YtdegkcibadjogaaDoor
