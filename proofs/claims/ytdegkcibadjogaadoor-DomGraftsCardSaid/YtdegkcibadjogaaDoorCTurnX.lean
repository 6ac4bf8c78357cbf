/-
  The document's turn: a plain tree in blocks of its own, its texts written anew in place.
-/
import Derived.Test.YtdegkcibadjogaaDoorCTurnS
import Derived.Test.YtdegkcibadjogaaDoorCAppN
import Derived.Deep.RegionLaw

namespace Go.Proofs.YtdegkcibadjogaaDoor
open Go.RowKit Go.Lib

/-- Two boxes: what is handed in, and the answer's, still empty. -/
structure TnBox (r : Nat) (tag : Int) (aa : Option Addr) (an ac : Nat) (tx : ByteArray) (ka : Option Addr) (kn kc : Nat) (w : World) : Prop where
  y0 : w.cell? ⟨r, 0, none⟩ = some (.int .i64 tag)
  y1 : w.cell? ⟨r, 1, none⟩ = some (.slice aa an ac)
  y2 : w.cell? ⟨r, 2, none⟩ = some (.string tx)
  y3 : w.cell? ⟨r, 3, none⟩ = some (.slice ka kn kc)
  yf : ∀ j, w.frozen? ⟨r, j, none⟩ = false
  z0 : w.cell? ⟨r + 1, 0, none⟩ = some (.int .i64 0)
  z1 : w.cell? ⟨r + 1, 1, none⟩ = some (.slice none 0 0)
  z2 : w.cell? ⟨r + 1, 2, none⟩ = some (.string ⟨#[]⟩)
  z3 : w.cell? ⟨r + 1, 3, none⟩ = some (.slice none 0 0)
  zf : ∀ j, w.frozen? ⟨r + 1, j, none⟩ = false
section
variable {r : Nat} {tag : Int} {aa ka : Option Addr} {an ac kn kc : Nat} {tx : ByteArray} {w w' : World}
theorem TnBox.same (h : TnBox r tag aa an ac tx ka kn kc w) (h0 : w'.heap[r]? = w.heap[r]?) (h1 : w'.heap[r + 1]? = w.heap[r + 1]?) : TnBox r tag aa an ac tx ka kn kc w' :=
  have hc : ∀ j, w'.cell? ⟨r, j, none⟩ = w.cell? ⟨r, j, none⟩ := fun _ => World.cell?_of_block (w := w) h0
  have hd : ∀ j, w'.cell? ⟨r + 1, j, none⟩ = w.cell? ⟨r + 1, j, none⟩ := fun _ => World.cell?_of_block (w := w) h1
  ⟨(hc 0).trans h.y0, (hc 1).trans h.y1, (hc 2).trans h.y2, (hc 3).trans h.y3, fun j => (World.frozen?_of_block (w := w) h0).trans (h.yf j), (hd 0).trans h.z0, (hd 1).trans h.z1, (hd 2).trans h.z2, (hd 3).trans h.z3, fun j => (World.frozen?_of_block (w := w) h1).trans (h.zf j)⟩
theorem TnBox.anew (h : TnBox r tag aa an ac tx ka kn kc w) (s : ByteArray) : TnBox r tag aa an ac s ka kn kc (w.setCell ⟨r, 2, none⟩ (.string s)) :=
  have hc : ∀ j, j ≠ 2 → (w.setCell ⟨r, 2, none⟩ (.string s)).cell? ⟨r, j, none⟩ = w.cell? ⟨r, j, none⟩ := fun j hj => World.cell?_setCell_other _ _ _ _ (fun e => hj (congrArg Addr.off e).symm)
  have hd : ∀ j, (w.setCell ⟨r, 2, none⟩ (.string s)).cell? ⟨r + 1, j, none⟩ = w.cell? ⟨r + 1, j, none⟩ := fun j => World.cell?_of_block (w := w) (Below.heap_setCell _ ⟨r, 2, none⟩ _ (r + 1) (by show r + 1 ≠ r; omega))
  ⟨(hc 0 (by decide)).trans h.y0, (hc 1 (by decide)).trans h.y1, World.cell?_setCell_same _ _ _ h.y2, (hc 3 (by decide)).trans h.y3, fun j => by rw [World.frozen?_setCell]; exact h.yf j, (hd 0).trans h.z0, (hd 1).trans h.z1, (hd 2).trans h.z2, (hd 3).trans h.z3, fun j => by rw [World.frozen?_setCell]; exact h.zf j⟩
end

section
variable {S A : Nat → Prop} {T : Nat → Nat → Prop} {g : Nat} {w W W1 wr : World} {aa ka : Option Addr} {an ac kc : Nat} {ats : Row} {kids us : List Pn} {tag : Int} {tx : ByteArray}
theorem TurnSt.begin (hI : TurnIn S A T g w aa an ac ats kids) (hW : ∀ b, S b → W1.heap[b]? = w.heap[b]?) : TurnSt S A T g w W1 kids [] W1 :=
  ⟨⟨rfl, rfl, rfl, Nat.le_refl _, fun _ _ _ => rfl⟩, fun j u h => by simp at h, fun j _ hj b hT => hW b (hI.ts j hj b hT).1, fun j s h => (hI.at4 j s h).same (hW g (hI.gs (fun e => by rw [e] at h; simp at h))), fun hne j => (World.frozen?_of_block (w := w) (hW g (hI.gs hne))).trans (hI.fz hne j), fun b hA => hW b (hI.asub b hA).1⟩
theorem TurnSt.pts (h : TurnSt S A T g w W1 kids us wr) (hl : us.length = kids.length) : us.map Pn.pt = kids.map fun s => anewPt s.pt := by
  apply List.ext_getElem?
  intro j
  rw [List.getElem?_map, List.getElem?_map]
  rcases Nat.lt_or_ge j us.length with hj | hj
  · obtain ⟨s, e1, e2, _⟩ := h.done j us[j] (List.getElem?_eq_getElem hj)
    rw [List.getElem?_eq_getElem hj, e1]
    simp [e2]
  · rw [List.getElem?_eq_none hj, List.getElem?_eq_none (by omega)]
    rfl
theorem TurnSt.end_ (h : TurnSt S A T g w W1 kids us wr) (hI : TurnIn S A T g w aa an ac ats kids) (hl : us.length = kids.length) (hSW : ∀ b, S b → b < W.heap.size) (hbW : Below W.heap.size W W1) (hka : kids ≠ [] → ka = some ⟨g, 0, none⟩) {q : Nat} (hq : W.heap.size ≤ q) (hq1 : q < W1.heap.size) (v0 v1 v2 v3 : Value) (tx' : ByteArray) :
    Bes S W (set4 wr q 0 v0 v1 v2 v3) ∧ PlOn (fun b => S b ∨ (W.heap.size ≤ b ∧ b < (set4 wr q 0 v0 v1 v2 v3).heap.size)) (set4 wr q 0 v0 v1 v2 v3) (.mk tag aa an ac tx' ka us.length kc ats us) := by
  have hs1 := hbW.size
  have hs2 := h.b.size
  have hB : Bes S W wr := (Bes.of_below (S := S) hbW).trans h.b (fun _ _ e => e)
  refine ⟨(((hB.setCell q _ _ (.inr hq)).setCell q _ _ (.inr hq)).setCell q _ _ (.inr hq)).setCell q _ _ (.inr hq), ⟨fun b hb => ?_, fun W2 h2 => ?_⟩⟩
  · rcases hb with hb | hb
    · have := hSW b hb
      rw [set4_size]; omega
    · exact hb.2
  · have hS2 : ∀ b, b ≠ q → (S b ∨ (W.heap.size ≤ b ∧ b < wr.heap.size)) → W2.heap[b]? = wr.heap[b]? := fun b hb hb2 => (h2 b (by rw [set4_size]; exact hb2)).trans (set4_block hb)
    have hSq : ∀ b, S b → b ≠ q := fun b hb => by have := hSW b hb; omega
    have hus : us ≠ [] → kids ≠ [] := fun hne e => hne (List.eq_nil_of_length_eq_zero (by rw [hl, e]; rfl))
    refine .mk (hI.row W2 (fun b hA => (hS2 b (hSq b (hI.asub b hA).1) (.inl (hI.asub b hA).1)).trans (h.att b hA))) rfl (by show us.length ≤ maxLen; unfold maxLen; have := hI.kl; omega) ?_ (fun u hu => ?_)
    · by_cases hne : us = []
      · exact .inl hne
      · have hg := hI.gs (hus hne)
        have hgs := hS2 g (hSq g hg) (.inl hg)
        refine .inr ⟨g, 0, hka (hus hne), lt_of_same (by have := hSW g hg; omega) hgs, fun j t hj => ?_⟩
        have hj' : us[j]? = some t := hj
        have h4 := (h.row j t (by rw [List.getElem?_append_left (List.getElem?_eq_some_iff.1 hj').1]; exact hj')).same hgs
        rw [Nat.zero_add]
        exact ⟨h4.c0, h4.c1, h4.c2, h4.c3⟩
    · obtain ⟨j, hj, rfl⟩ := List.getElem_of_mem hu
      obtain ⟨s, e1, _, e3⟩ := h.done j us[j] (List.getElem?_eq_getElem hj)
      refine e3.at_ W2 (fun b hb => ?_)
      rcases hb with hb | hb
      · have hSb := (hI.ts j (List.getElem?_eq_some_iff.1 e1).1 b hb).1
        exact hS2 b (hSq b hSb) (.inl hSb)
      · exact hS2 b (by omega) (.inr ⟨by omega, hb.2⟩)

set_option maxRecDepth 20000 in
set_option maxHeartbeats 8000000 in
theorem turn_of (hI : TurnIn S A T g w aa an ac ats kids) (htx : tx.size ≤ 1000000) (hka : kids ≠ [] → ka = some ⟨g, 0, none⟩) : TurnOK S w (.mk tag aa an ac tx ka kids.length kc ats kids) := by
  refine ⟨hI.lt, fun W hW => ?_⟩
  have hSW : ∀ b, S b → b < W.heap.size := fun b hb => lt_of_same (hI.lt b hb) (hW b hb)
  rw [anewPt_eq]
  show Calls Tryd.prog 77 #[.agg #[.int .i64 tag, .slice aa an ac, .string tx, .slice ka kids.length kc]] W (TurnPost S (.mk tag (anewS tx) ats (kids.map fun s => anewPt s.pt)) W)
  have cN := fun (W' : World) => ranew_any tx W' htx
  obtain ⟨X, hX⟩ : ∃ X, anewS tx = X := ⟨_, rfl⟩
  rw [hX] at cN ⊢
  obtain ⟨n, hn⟩ : ∃ n, kids.length = n := ⟨_, rfl⟩
  have hkl := hI.kl
  rw [hn] at hkl ⊢
  have HI := Lib.hid hI
  have HN := Lib.hid hn
  have HW := Lib.hid (And.intro hSW (And.intro hW hka))
  clear hI hn hSW hW hka hX htx
  go_enter Tryd.func77, Tryd.ntmps77
  go_upto_region 1 with (fail)
  obtain ⟨r, hr⟩ : ∃ r, W.heap.size = r := ⟨_, rfl⟩
  obtain ⟨Wa, hWa⟩ : ∃ z, (W.alloc (.cells #[.int .i64 tag, .slice aa an ac, .string tx, .slice ka n kc] 34)).alloc (.cells #[.int .i64 0, .slice none 0 0, .string ⟨#[]⟩, .slice none 0 0] 34) = z := ⟨_, rfl⟩
  have hba : Below W.heap.size W Wa := by rw [← hWa]; exact ((Below.refl _ _).alloc (Nat.le_refl _) _).alloc (by simp) _
  have hsa : Wa.heap.size = r + 1 + 1 := by rw [← hWa, ← hr]; simp
  have hbox : TnBox r tag aa an ac tx ka n kc Wa := by
    rw [← hWa, ← hr]
    exact ⟨by simp [go_sem], by simp [go_sem], by simp [go_sem], by simp [go_sem], fun j => by simp [go_sem], by simp [go_sem], by simp [go_sem], by simp [go_sem], by simp [go_sem], fun j => by simp [go_sem]⟩
  have KB : Hid (∀ W', Below Wa.heap.size Wa W' → TnBox r tag aa an ac tx ka n kc W') := Lib.hid (fun W' h => hbox.same (h.block r (by omega)) (h.block (r + 1) (by omega)))
  rw [hWa]
  (try simp only [hr])
  clear hWa
  obtain ⟨y0, y1, y2, y3, yf, _, _, _, _, _⟩ := hbox
  have yf2 := yf 2
  have HBA := Lib.hid hba
  clear yf hba
  go_upto_region 2 with (go_at_call 86; ((with_reducible refine (cN _).mono ?_); rintro e w2 ⟨rfl, hb2⟩; clear y0 y1 y2 y3 yf2; have hbx2 := KB.out _ hb2; obtain ⟨y0, y1, y2, y3, yf, _, _, _, _, _⟩ := hbx2; have yf2 := yf 2; clear yf))
  obtain ⟨W1, hW1⟩ : ∃ z, w2.setCell ⟨r, 2, none⟩ (.string X) = z := ⟨_, rfl⟩
  have hbox1 : TnBox r tag aa an ac X ka n kc W1 := by rw [← hW1]; exact (KB.out _ hb2).anew X
  have hb1 : Below W.heap.size W W1 := by rw [← hW1]; exact (HBA.out.trans (hb2.mono HBA.out.size)).setCell (p := ⟨r, 2, none⟩) (Nat.le_of_eq hr) _
  have hs1 : r + 1 < W1.heap.size := lt_of_cell' hbox1.z0
  rw [hW1]
  clear hW1 y0 y1 y2 y3 yf2 hb2 hsa KB
  have HB1 := Lib.hid hb1
  have HBX := Lib.hid hbox1
  have H0 : Hid (TurnSt S A T g w W1 kids [] W1) := Lib.hid (TurnSt.begin HI.out (fun b hb => (hb1.block b (HW.out.1 b hb)).trans (HW.out.2.1 b hb)))
  have KR : Hid (∀ us wr, TurnSt S A T g w W1 kids us wr → TnBox r tag aa an ac X ka n kc wr) := Lib.hid (fun us wr h => HBX.out.same (h.b.block r (by omega) (fun e => by have := HW.out.1 r e; omega)) (h.b.block (r + 1) hs1 (fun e => by have := HW.out.1 (r + 1) e; omega)))
  clear hb1 hbox1
  go_wp2
  go_loopw [3] (fun i wr => ∃ us : List Pn, us.length ≤ n ∧ i = .int .i64 (us.length : Int) ∧ Hid (TurnSt S A T g w W1 kids us wr)) (fun i _ => n - (RowKit.intOf i).toNat)
  case atStart => exact ⟨[], Nat.zero_le _, rfl, H0⟩
  case round =>
    obtain ⟨us, hle, rfl, HS⟩ := hrel
    have hbx := KR.out us wr HS.out
    by_cases hlt : us.length < n
    · have hkl2 : us.length < kids.length := by rw [HN.out]; exact hlt
      have hkI : (us.length : Int) < (n : Int) := by omega
      have hne : kids ≠ [] := fun e => by rw [e] at hkl2; simp at hkl2
      obtain ⟨s, hs⟩ : ∃ s, kids[us.length]? = some s := ⟨_, List.getElem?_eq_getElem hkl2⟩
      have eka := HW.out.2.2 hne
      have cT : ∀ W', W'.heap = wr.heap → Calls Tryd.prog 77 #[.agg #[.int .i64 s.tag, .slice s.aa s.an s.ac, .string s.tx, .slice s.ka s.kn s.kc]] W' (TurnPost (T us.length) (anewPt s.pt) W') := fun W' hW' => (HI.out.ks us.length s hs).run W' (fun b hb => by rw [hW']; exact HS.out.rest us.length (Nat.le_refl _) hkl2 b hb)
      have h4 := HS.out.row us.length s (by rw [List.getElem?_append_right (Nat.le_refl _), Nat.sub_self, List.getElem?_drop, Nat.add_zero]; exact hs)
      obtain ⟨u0, u1, u2, u3⟩ := h4
      have y3 := hbx.y3
      rw [eka] at y3
      have hgS := HW.out.1 g (HI.out.gs hne)
      have KN : Hid (∀ (W' w4 : World), W'.heap = wr.heap → (W'.os = wr.os ∧ W'.tape = wr.tape ∧ W'.output = wr.output) → Bes (T us.length) W' w4 → (w4.cell? ⟨r, 3, none⟩ = some (.slice (some ⟨g, 0, none⟩) n kc) ∧ At4 w4 g (us.length * 4) s ∧ ∀ j, w4.frozen? ⟨g, j, none⟩ = false) ∧
          ∀ u : Pn, PlOn (fun b => T us.length b ∨ (W'.heap.size ≤ b ∧ b < w4.heap.size)) w4 u → u.pt = anewPt s.pt → TurnSt S A T g w W1 kids (us ++ [u]) (set4 w4 g (us.length * 4) (.int .i64 u.tag) (.slice u.aa u.an u.ac) (.string u.tx) (.slice u.ka u.kn u.kc))) := Lib.hid (fun W' w4 hW' hos hb => by
        have hsw : W'.heap.size = wr.heap.size := by rw [hW']
        have hbs := HS.out.b.size
        have hr4 : w4.heap[r]? = wr.heap[r]? := (hb.block r (by omega) (fun e => by have := HW.out.1 r (HI.out.ts _ hkl2 r e).1; omega)).trans (by rw [hW'])
        have hg4 : w4.heap[g]? = wr.heap[g]? := (hb.block g (by omega) (fun e => (HI.out.ts _ hkl2 g e).2.1 rfl)).trans (by rw [hW'])
        refine ⟨⟨(World.cell?_of_block (w := wr) hr4).trans y3, At4.same ⟨u0, u1, u2, u3⟩ hg4, fun j => (World.frozen?_of_block (w := wr) hg4).trans (HS.out.fz hne j)⟩, fun u hon hpt => ?_⟩
        exact HS.out.next HI.out (fun b hb => by have := HW.out.1 b hb; omega) hs hW' hos hb hon hpt)
      have hgf := HS.out.fz hne
      clear hbx hs hkl2 hne H0
      rw [eka]
      go_upto_region 5 with (fail)
      go_region_law (refine step_call rfl (f := 77) (vs := #[.agg #[.int .i64 s.tag, .slice s.aa s.an s.ac, .string s.tx, .slice s.ka s.kn s.kc]]) rfl rfl (by kernel_rfl) (by kernel_rfl) (by go_simp) (cT _ (by rfl)) ?_; rintro e w4 ⟨tg, a3, n3, c3, x3, k3, m3, d3, s3, l3, rfl, hpt, hbs, hon⟩; obtain ⟨⟨z3, hz4, hzf⟩, hnx⟩ := KN.out _ _ (by rfl) ⟨by rfl, by rfl, by rfl⟩ hbs; have HNX := Lib.hid (hnx _ hon hpt); clear y3 u0 u1 u2 u3 hgf hnx hbs hon hpt; obtain ⟨u0, u1, u2, u3⟩ := hz4; have y3 := z3; clear z3; have f0 := hzf (us.length * 4); have f1 := hzf (us.length * 4 + 1); have f2 := hzf (us.length * 4 + 2); have f3 := hzf (us.length * 4 + 3); clear hzf; refine ⟨_, rfl, ?_⟩)
      all_goals go_wp2
      all_goals go_roundw
      all_goals first
        | exact ⟨us ++ [.mk tg a3 n3 c3 x3 k3 m3 d3 s3 l3], by simp; omega, by simp, HNX⟩
        | (simp [RowKit.intOf]; omega)
    · have hkm : us.length = n := by omega
      have hE := HS.out.end_ (tag := tag) (ka := ka) (kc := kc) HI.out (by rw [HN.out]; exact hkm) HW.out.1 HB1.out HW.out.2.2 (q := r + 1) (by omega) hs1 (.int .i64 tag) (.slice aa an ac) (.string X) (.slice ka n kc) X
      have hpts := HS.out.pts (by rw [HN.out]; exact hkm)
      rw [hkm] at hE
      have HE := Lib.hid hE
      have HP : Hid ((Pn.mk tag aa an ac X ka n kc ats us).pt = .mk tag X ats (kids.map fun s => anewPt s.pt)) := Lib.hid (by
        rw [pt_eq]
        show Pt.mk tag X ats (us.map Pn.pt) = _
        rw [hpts])
      have hIk : (us.length : Int) = (n : Int) := by omega
      obtain ⟨y0, y1, y2, y3, _, z0, z1, z2, z3, zf⟩ := hbx
      have zf0 := zf 0
      have zf1 := zf 1
      have zf2 := zf 2
      have zf3 := zf 3
      clear zf hE hpts H0 HS hle hlt
      rw [hIk]
      go_wp2
      refine bodyPost_ret (v := .agg #[.int .i64 tag, .slice aa an ac, .string X, .slice ka n kc]) (by simp [results, Tryd.results77, go_sem, *]) rfl ?_
      exact ⟨tag, aa, an, ac, X, ka, n, kc, ats, us, rfl, HP.out, HE.out.1, HE.out.2⟩
end

end Go.Proofs.YtdegkcibadjogaaDoor
