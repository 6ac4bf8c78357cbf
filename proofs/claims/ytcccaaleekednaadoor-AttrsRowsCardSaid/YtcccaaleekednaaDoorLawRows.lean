/-
  The walk of the statement AttrsRows.
-/
import Derived.Test.YtcccaaleekednaaDoorWalksS
namespace Go.Proofs.YtcccaaleekednaaDoor
open Go.RowKit Go.Lib

set_option maxHeartbeats 16000000 in
theorem lawRows_walk (v : Value) (l : Row) (name value : ByteArray) (w : World) (hE : Env w) (hv : RowAt w v l)
    (hz : ∀ a ∈ l, a.1.size ≤ 140737488355328 ∧ a.2.size ≤ 140737488355328) (hs1 : name.size ≤ 140737488355328) (hs2 : value.size ≤ 140737488355328) :
    Calls Tryd.prog 4 #[v, .string name, .string value] w fun e w' => e = .returned (.bool true) ∧ Below w.heap.size w w' := by
  have cW := fun wx hx => awake_any wx hx
  obtain ⟨a1, c1, rfl⟩ := hv.len
  have hb := (Below.refl w.heap.size w).alloc (Nat.le_refl _) (.cells #[.string name, .string value] 9)
  go_enter Tryd.func4, Tryd.ntmps4
  go_wp2_with fail
  refine (long_any _ _ l [name, value] _ (hv.below hb) (texts_two w name value 9) hz (by simp [tot]; omega) (by simp)).mono ?_
  rintro e w1 ⟨bb, rfl, hl1, hb1⟩
  replace hb := hb.trans (hb1.mono hb.size)
  clear hb1
  cases bb with
  | true =>
    clear hl1
    go_wp2_with (go_at_call 9; ((with_reducible refine (cW _ (hE.below hb)).mono ?_); rintro e wn ⟨rfl, hbn⟩; replace hb := hb.trans (hbn.mono hb.size)))
    go_ret
    exact ⟨rfl, hb⟩
  | false =>
    have hlt := hl1 rfl
    obtain ⟨hsh, hts⟩ := short_of hlt
    have hlen : l.length ≤ 200 := hlt.1
    have z1 := hts name (by simp)
    have z2 := hts value (by simp)
    clear hl1 hlt hts hz hs1 hs2
    have HSH := Lib.hid hsh
    have HV := Lib.hid hv
    clear hsh
    -- the row's copy
    go_wp2_with fail
    refine (rown_any _ l _ (hv.below hb) (by omega)).mono ?_
    intro e ww h
    obtain ⟨aw, cw, rfl, hrw, _, hbn⟩ := h.res
    replace hb := hb.trans (hbn.mono hb.size)
    have hbw := Below.refl ww.heap.size ww
    clear hbn hv h
    obtain ⟨L, hL⟩ : ∃ L, l.length = L := ⟨_, rfl⟩
    have HL := Lib.hid hL
    -- the contracts
    have cF : ∀ wx, RowAt wx (.slice aw l.length cw) l → _ := fun wx hx => rfind_any _ l name wx hx (by omega)
    have cG : ∀ wx, RowAt wx (.slice a1 l.length c1) l → _ := fun wx hx => get_any _ l name wx hx
    have cM : ∀ wx, Env wx → RowAt wx (.slice a1 l.length c1) l → _ := fun wx hx hy => mayRow_any _ l wx hx hy HSH.out
    have rM : ∀ wx, RowAt wx (.slice aw l.length cw) l → _ := fun wx hx => rmayRow_any _ l wx hx HSH.out
    have cPa : ∀ wx, Env wx → RowAt wx (.slice a1 l.length c1) l → _ := fun wx hx hy => putA_any _ l name value wx hx hy (by omega) (by omega) (by omega)
    have cPb : ∀ wx, RowAt wx (.slice aw l.length cw) l → _ := fun wx hy => rputA_any _ l name value wx hy (by omega) (by omega) (by omega)
    have cDa : ∀ wx, RowAt wx (.slice a1 l.length c1) l → _ := fun wx hy => dropA_any _ l name wx hy (by omega)
    have cDb : ∀ wx, RowAt wx (.slice aw l.length cw) l → _ := fun wx hy => rdropA_any _ l name wx hy (by omega)
    have cOa : ∀ wx, RowAt wx (.slice a1 l.length c1) l → _ := fun wx hy => onlyA_any _ l name ⟨#[104, 114, 101, 102]⟩ wx hy (by omega)
    have cOb : ∀ wx, RowAt wx (.slice aw l.length cw) l → _ := fun wx hy => ronlyA_any _ l name ⟨#[104, 114, 101, 102]⟩ wx hy (by omega)
    have cS : ∀ wx, RowAt wx (.slice a1 l.length c1) l → RowAt wx (.slice aw l.length cw) l → _ := fun wx hx hy => rsame_self _ _ l wx hx hy (by omega)
    have hma := putM_le l name value
    have hmd := dropM_le l name
    have hmx := onlyR_le l [name, ⟨#[104, 114, 101, 102]⟩]
    unfold ResOwn at cPa cDa
    unfold ResRow at cPb cDb
    unfold RowOwn at cOa cOb
    unfold gotV at cG
    obtain ⟨ma, hma1⟩ : ∃ m, putM l name value = m := ⟨_, rfl⟩
    obtain ⟨ea, hea⟩ : ∃ m, putE name value = m := ⟨_, rfl⟩
    obtain ⟨md, hmd1⟩ : ∃ m, dropM l name = m := ⟨_, rfl⟩
    obtain ⟨ed, hed⟩ : ∃ m, dropE l name = m := ⟨_, rfl⟩
    obtain ⟨mx, hmx1⟩ : ∃ m, onlyR l [name, ⟨#[104, 114, 101, 102]⟩] = m := ⟨_, rfl⟩
    obtain ⟨Y, hY⟩ : ∃ Y, mayR l = Y := ⟨_, rfl⟩
    rw [hma1] at hma
    rw [hmd1] at hmd
    rw [hmx1] at hmx
    simp only [hma1, hea] at cPa cPb
    simp only [hmd1, hed] at cDa cDb
    simp only [hmx1] at cOa cOb
    simp only [hY] at cM rM
    clear hma1 hea hmd1 hed hmx1 hY HSH
    replace hma : ma.length ≤ 100000 := by omega
    replace hmd : md.length ≤ 100000 := by omega
    replace hmx : mx.length ≤ 100000 := by omega
    have hhas := hasR_iff l name
    unfold findZ at cF
    have hcell : ∀ k, k < l.length → ∀ wx, Below ww.heap.size ww wx → ∃ b o d, aw = some ⟨b, o, none⟩ ∧ d = cw ∧ wx.cell? ⟨b, o + k * 2 + 1, none⟩ = some (.string (l[k]!).2) := fun k hk wx hx => by
      rcases hrw.below hx with ⟨_, _, e, _, e2⟩ | ⟨b, o, d, e, _, _, _, hc⟩
      · rw [e2] at hk; simp at hk
      · exact ⟨b, o, d, (Value.slice.inj e).1, (Value.slice.inj e).2.2.symm, (hc k hk).2⟩
    simp only [hL] at hrw HV cF cG cM rM cPa cPb cDa cDb cOa cOb cS ⊢
    by_cases hk : findR l name < L
    · have hk0 : findR l name < l.length := by rw [hL]; exact hk
      rw [decide_eq_true hk0] at hhas
      have hgr := getR_at l name hk0
      simp only [if_pos hk] at cF
      simp only [hhas, hgr] at cG
      have hcw0 := hcell _ hk0
      obtain ⟨k, hK⟩ : ∃ k, findR l name = k := ⟨_, rfl⟩
      simp only [hK] at cF cG hcw0
      rw [hK] at hk
      clear hk0
      obtain ⟨b, o, d, rfl, rfl, _⟩ := hcw0 ww (Below.refl _ _)
      have hcw : ∀ wx, Below ww.heap.size ww wx → wx.cell? ⟨b, o + k * 2 + 1, none⟩ = some (.string (l[k]!).2) := fun wx hx => by
        obtain ⟨b', o', d', e, _, h⟩ := hcw0 wx hx
        simp only [Option.some.injEq, Addr.mk.injEq, and_true] at e
        obtain ⟨rfl, rfl⟩ := e
        exact h
      obtain ⟨G, hG⟩ : ∃ G, (l[k]!).2 = G := ⟨_, rfl⟩
      simp only [hG] at hcw cG
      have gG : (G.toList == G.toList) = true := by simp
      have hkI : (k : Int) < (L : Int) := by omega
      have hkI0 : (0 : Int) ≤ (k : Int) := by omega
      clear hhas hgr hcw0 hcell hK hG hL HL
      go_wp2_with (first
        | (go_at_call 17; ((with_reducible refine (cF _ (hrw.below hbw)).mono ?_); rintro e wn ⟨rfl, rfl⟩))
        | (go_at_call 18; ((with_reducible refine (cG _ (HV.out.below hb)).mono ?_); rintro e wn ⟨rfl, hbn⟩; replace hb := hb.trans (hbn.mono hb.size); (try replace hbw := hbw.trans (hbn.mono hbw.size)); (try replace hba := hba.trans (hbn.mono hba.size)); (try replace hbb := hbb.trans (hbn.mono hbb.size)); (try replace hbc := hbc.trans (hbn.mono hbc.size)); (try replace hbd := hbd.trans (hbn.mono hbd.size)); (try replace hbx := hbx.trans (hbn.mono hbx.size)); (try replace hby := hby.trans (hbn.mono hby.size))))
        | (go_at_call 19; ((with_reducible refine (cM _ (hE.below hb) (HV.out.below hb)).mono ?_); rintro e wn ⟨rfl, hbn⟩; replace hb := hb.trans (hbn.mono hb.size); (try replace hbw := hbw.trans (hbn.mono hbw.size)); (try replace hba := hba.trans (hbn.mono hba.size)); (try replace hbb := hbb.trans (hbn.mono hbb.size)); (try replace hbc := hbc.trans (hbn.mono hbc.size)); (try replace hbd := hbd.trans (hbn.mono hbd.size)); (try replace hbx := hbx.trans (hbn.mono hbx.size)); (try replace hby := hby.trans (hbn.mono hby.size))))
        | (go_at_call 20; ((with_reducible refine (rM _ (hrw.below hbw)).mono ?_); rintro e wn ⟨rfl, hbn⟩; replace hb := hb.trans (hbn.mono hb.size); (try replace hbw := hbw.trans (hbn.mono hbw.size)); (try replace hba := hba.trans (hbn.mono hba.size)); (try replace hbb := hbb.trans (hbn.mono hbb.size)); (try replace hbc := hbc.trans (hbn.mono hbc.size)); (try replace hbd := hbd.trans (hbn.mono hbd.size)); (try replace hbx := hbx.trans (hbn.mono hbx.size)); (try replace hby := hby.trans (hbn.mono hby.size)); have hq := hcw _ hbw))
        | (go_at_call 21; ((with_reducible refine (cPa _ (hE.below hb) (HV.out.below hb)).mono ?_); rintro e wn ⟨aa, ca, rfl, hra, hoa, hbn⟩; have hB1 := hb.size; have hB2 := hbw.size; replace hb := hb.trans (hbn.mono hb.size); (try replace hbw := hbw.trans (hbn.mono hbw.size)); (try replace hba := hba.trans (hbn.mono hba.size)); (try replace hbb := hbb.trans (hbn.mono hbb.size)); (try replace hbc := hbc.trans (hbn.mono hbc.size)); (try replace hbd := hbd.trans (hbn.mono hbd.size)); (try replace hbx := hbx.trans (hbn.mono hbx.size)); (try replace hby := hby.trans (hbn.mono hby.size)); have hba := Below.refl wn.heap.size wn))
        | (go_at_call 22; ((with_reducible refine (cPb _ (hrw.below hbw)).mono ?_); rintro e wn ⟨ab, cb, rfl, hrb, hbn⟩; replace hb := hb.trans (hbn.mono hb.size); (try replace hbw := hbw.trans (hbn.mono hbw.size)); (try replace hba := hba.trans (hbn.mono hba.size)); (try replace hbb := hbb.trans (hbn.mono hbb.size)); (try replace hbc := hbc.trans (hbn.mono hbc.size)); (try replace hbd := hbd.trans (hbn.mono hbd.size)); (try replace hbx := hbx.trans (hbn.mono hbx.size)); (try replace hby := hby.trans (hbn.mono hby.size)); have hbb := Below.refl wn.heap.size wn))
        | (go_at_call 23; ((with_reducible refine (cDa _ (HV.out.below hb)).mono ?_); rintro e wn ⟨ac, cc, rfl, hrc, hoc, hbn⟩; have hC1 := hb.size; have hC2 := hbw.size; have hC3 := hba.size; replace hb := hb.trans (hbn.mono hb.size); (try replace hbw := hbw.trans (hbn.mono hbw.size)); (try replace hba := hba.trans (hbn.mono hba.size)); (try replace hbb := hbb.trans (hbn.mono hbb.size)); (try replace hbc := hbc.trans (hbn.mono hbc.size)); (try replace hbd := hbd.trans (hbn.mono hbd.size)); (try replace hbx := hbx.trans (hbn.mono hbx.size)); (try replace hby := hby.trans (hbn.mono hby.size)); have hbc := Below.refl wn.heap.size wn))
        | (go_at_call 24; ((with_reducible refine (cDb _ (hrw.below hbw)).mono ?_); rintro e wn ⟨ad, cd, rfl, hrd, hbn⟩; replace hb := hb.trans (hbn.mono hb.size); (try replace hbw := hbw.trans (hbn.mono hbw.size)); (try replace hba := hba.trans (hbn.mono hba.size)); (try replace hbb := hbb.trans (hbn.mono hbb.size)); (try replace hbc := hbc.trans (hbn.mono hbc.size)); (try replace hbd := hbd.trans (hbn.mono hbd.size)); (try replace hbx := hbx.trans (hbn.mono hbx.size)); (try replace hby := hby.trans (hbn.mono hby.size)); have hbd := Below.refl wn.heap.size wn))
        | (go_at_call 25; ((with_reducible refine (cOa _ (HV.out.below hb)).mono ?_); rintro e wn ⟨ax, cx, rfl, hrx, hox, hbn⟩; have hX1 := hb.size; have hX2 := hbw.size; have hX3 := hba.size; have hX4 := hbc.size; replace hb := hb.trans (hbn.mono hb.size); (try replace hbw := hbw.trans (hbn.mono hbw.size)); (try replace hba := hba.trans (hbn.mono hba.size)); (try replace hbb := hbb.trans (hbn.mono hbb.size)); (try replace hbc := hbc.trans (hbn.mono hbc.size)); (try replace hbd := hbd.trans (hbn.mono hbd.size)); (try replace hbx := hbx.trans (hbn.mono hbx.size)); (try replace hby := hby.trans (hbn.mono hby.size)); have hbx := Below.refl wn.heap.size wn))
        | (go_at_call 26; ((with_reducible refine (cOb _ (hrw.below hbw)).mono ?_); rintro e wn ⟨ay, cy, rfl, hry, _, hbn⟩; replace hb := hb.trans (hbn.mono hb.size); (try replace hbw := hbw.trans (hbn.mono hbw.size)); (try replace hba := hba.trans (hbn.mono hba.size)); (try replace hbb := hbb.trans (hbn.mono hbb.size)); (try replace hbc := hbc.trans (hbn.mono hbc.size)); (try replace hbd := hbd.trans (hbn.mono hbd.size)); (try replace hbx := hbx.trans (hbn.mono hbx.size)); (try replace hby := hby.trans (hbn.mono hby.size)); have hby := Below.refl wn.heap.size wn))
        | (go_at_call 27; ((with_reducible refine (rsame_self _ _ ma _ (hra.below hba) (hrb.below hbb) hma).mono ?_); rintro e wn ⟨rfl, hbn⟩; replace hb := hb.trans (hbn.mono hb.size); (try replace hbw := hbw.trans (hbn.mono hbw.size)); (try replace hba := hba.trans (hbn.mono hba.size)); (try replace hbb := hbb.trans (hbn.mono hbb.size)); (try replace hbc := hbc.trans (hbn.mono hbc.size)); (try replace hbd := hbd.trans (hbn.mono hbd.size)); (try replace hbx := hbx.trans (hbn.mono hbx.size)); (try replace hby := hby.trans (hbn.mono hby.size))))
        | (go_at_call 27; ((with_reducible refine (rsame_self _ _ md _ (hrc.below hbc) (hrd.below hbd) hmd).mono ?_); rintro e wn ⟨rfl, hbn⟩; replace hb := hb.trans (hbn.mono hb.size); (try replace hbw := hbw.trans (hbn.mono hbw.size)); (try replace hba := hba.trans (hbn.mono hba.size)); (try replace hbb := hbb.trans (hbn.mono hbb.size)); (try replace hbc := hbc.trans (hbn.mono hbc.size)); (try replace hbd := hbd.trans (hbn.mono hbd.size)); (try replace hbx := hbx.trans (hbn.mono hbx.size)); (try replace hby := hby.trans (hbn.mono hby.size))))
        | (go_at_call 27; ((with_reducible refine (rsame_self _ _ mx _ (hrx.below hbx) (hry.below hby) hmx).mono ?_); rintro e wn ⟨rfl, hbn⟩; replace hb := hb.trans (hbn.mono hb.size); (try replace hbw := hbw.trans (hbn.mono hbw.size)); (try replace hba := hba.trans (hbn.mono hba.size)); (try replace hbb := hbb.trans (hbn.mono hbb.size)); (try replace hbc := hbc.trans (hbn.mono hbc.size)); (try replace hbd := hbd.trans (hbn.mono hbd.size)); (try replace hbx := hbx.trans (hbn.mono hbx.size)); (try replace hby := hby.trans (hbn.mono hby.size)))))
      have hOa := hoa.below hba
      have hOc := hoc.below hbc
      have hOx := hox.below hbx
      have la := hoa.lt
      have lc := hoc.lt
      have lx := hox.lt
      clear hrb hbb hrd hbd hry hby hra hrc hrx hba hbc hbx hoa hoc hox
      refine (spoil_any _ _ _ _ hOa (by omega)).mono ?_
      rintro e w7 ⟨rfl, hg1⟩
      replace hOc := hOc.kept hg1 (B2 := _) (fun j hj => (la j hj).2) hC3
      replace hOx := hOx.kept hg1 (B2 := _) (fun j hj => (la j hj).2) hX3
      replace hbw := Below.spoilt hbw hbw.size hg1 (fun j hj => Nat.le_trans hB2 (la j hj).1)
      replace hb := Below.spoilt hb hb.size hg1 (fun j hj => Nat.le_trans hB1 (la j hj).1)
      clear hg1 la hOa
      go_wp2_with fail
      refine (spoil_any _ _ _ _ hOc (by omega)).mono ?_
      rintro e w8 ⟨rfl, hg1⟩
      replace hOx := hOx.kept hg1 (B2 := _) (fun j hj => (lc j hj).2) hX4
      replace hbw := Below.spoilt hbw hbw.size hg1 (fun j hj => Nat.le_trans hC2 (lc j hj).1)
      replace hb := Below.spoilt hb hb.size hg1 (fun j hj => Nat.le_trans hC1 (lc j hj).1)
      clear hg1 lc hOc
      go_wp2_with fail
      refine (spoil_any _ _ _ _ hOx (by omega)).mono ?_
      rintro e w9 ⟨rfl, hg1⟩
      replace hbw := Below.spoilt hbw hbw.size hg1 (fun j hj => Nat.le_trans hX2 (lx j hj).1)
      replace hb := Below.spoilt hb hb.size hg1 (fun j hj => Nat.le_trans hX1 (lx j hj).1)
      clear hg1 lx hOx
      go_wp2_with (first
        | (go_at_call 27; ((with_reducible refine (cS _ (HV.out.below hb) (hrw.below hbw)).mono ?_); rintro e wn ⟨rfl, hbn⟩; replace hb := hb.trans (hbn.mono hb.size)))
        | (go_at_call 9; ((with_reducible refine (cW _ (hE.below hb)).mono ?_); rintro e wn ⟨rfl, hbn⟩; replace hb := hb.trans (hbn.mono hb.size))))
      go_ret
      exact ⟨rfl, hb⟩
    · have hk0 : ¬ findR l name < l.length := by rw [hL]; exact hk
      rw [decide_eq_false hk0] at hhas
      have hgr := getR_none l name hk0
      simp only [if_neg hk] at cF
      simp only [hhas, hgr] at cG
      clear hhas hgr hcell hk0 hk hL HL
      go_wp2_with (first
        | (go_at_call 17; ((with_reducible refine (cF _ (hrw.below hbw)).mono ?_); rintro e wn ⟨rfl, rfl⟩))
        | (go_at_call 18; ((with_reducible refine (cG _ (HV.out.below hb)).mono ?_); rintro e wn ⟨rfl, hbn⟩; replace hb := hb.trans (hbn.mono hb.size); (try replace hbw := hbw.trans (hbn.mono hbw.size)); (try replace hba := hba.trans (hbn.mono hba.size)); (try replace hbb := hbb.trans (hbn.mono hbb.size)); (try replace hbc := hbc.trans (hbn.mono hbc.size)); (try replace hbd := hbd.trans (hbn.mono hbd.size)); (try replace hbx := hbx.trans (hbn.mono hbx.size)); (try replace hby := hby.trans (hbn.mono hby.size))))
        | (go_at_call 19; ((with_reducible refine (cM _ (hE.below hb) (HV.out.below hb)).mono ?_); rintro e wn ⟨rfl, hbn⟩; replace hb := hb.trans (hbn.mono hb.size); (try replace hbw := hbw.trans (hbn.mono hbw.size)); (try replace hba := hba.trans (hbn.mono hba.size)); (try replace hbb := hbb.trans (hbn.mono hbb.size)); (try replace hbc := hbc.trans (hbn.mono hbc.size)); (try replace hbd := hbd.trans (hbn.mono hbd.size)); (try replace hbx := hbx.trans (hbn.mono hbx.size)); (try replace hby := hby.trans (hbn.mono hby.size))))
        | (go_at_call 20; ((with_reducible refine (rM _ (hrw.below hbw)).mono ?_); rintro e wn ⟨rfl, hbn⟩; replace hb := hb.trans (hbn.mono hb.size); (try replace hbw := hbw.trans (hbn.mono hbw.size)); (try replace hba := hba.trans (hbn.mono hba.size)); (try replace hbb := hbb.trans (hbn.mono hbb.size)); (try replace hbc := hbc.trans (hbn.mono hbc.size)); (try replace hbd := hbd.trans (hbn.mono hbd.size)); (try replace hbx := hbx.trans (hbn.mono hbx.size)); (try replace hby := hby.trans (hbn.mono hby.size))))
        | (go_at_call 21; ((with_reducible refine (cPa _ (hE.below hb) (HV.out.below hb)).mono ?_); rintro e wn ⟨aa, ca, rfl, hra, hoa, hbn⟩; have hB1 := hb.size; have hB2 := hbw.size; replace hb := hb.trans (hbn.mono hb.size); (try replace hbw := hbw.trans (hbn.mono hbw.size)); (try replace hba := hba.trans (hbn.mono hba.size)); (try replace hbb := hbb.trans (hbn.mono hbb.size)); (try replace hbc := hbc.trans (hbn.mono hbc.size)); (try replace hbd := hbd.trans (hbn.mono hbd.size)); (try replace hbx := hbx.trans (hbn.mono hbx.size)); (try replace hby := hby.trans (hbn.mono hby.size)); have hba := Below.refl wn.heap.size wn))
        | (go_at_call 22; ((with_reducible refine (cPb _ (hrw.below hbw)).mono ?_); rintro e wn ⟨ab, cb, rfl, hrb, hbn⟩; replace hb := hb.trans (hbn.mono hb.size); (try replace hbw := hbw.trans (hbn.mono hbw.size)); (try replace hba := hba.trans (hbn.mono hba.size)); (try replace hbb := hbb.trans (hbn.mono hbb.size)); (try replace hbc := hbc.trans (hbn.mono hbc.size)); (try replace hbd := hbd.trans (hbn.mono hbd.size)); (try replace hbx := hbx.trans (hbn.mono hbx.size)); (try replace hby := hby.trans (hbn.mono hby.size)); have hbb := Below.refl wn.heap.size wn))
        | (go_at_call 23; ((with_reducible refine (cDa _ (HV.out.below hb)).mono ?_); rintro e wn ⟨ac, cc, rfl, hrc, hoc, hbn⟩; have hC1 := hb.size; have hC2 := hbw.size; have hC3 := hba.size; replace hb := hb.trans (hbn.mono hb.size); (try replace hbw := hbw.trans (hbn.mono hbw.size)); (try replace hba := hba.trans (hbn.mono hba.size)); (try replace hbb := hbb.trans (hbn.mono hbb.size)); (try replace hbc := hbc.trans (hbn.mono hbc.size)); (try replace hbd := hbd.trans (hbn.mono hbd.size)); (try replace hbx := hbx.trans (hbn.mono hbx.size)); (try replace hby := hby.trans (hbn.mono hby.size)); have hbc := Below.refl wn.heap.size wn))
        | (go_at_call 24; ((with_reducible refine (cDb _ (hrw.below hbw)).mono ?_); rintro e wn ⟨ad, cd, rfl, hrd, hbn⟩; replace hb := hb.trans (hbn.mono hb.size); (try replace hbw := hbw.trans (hbn.mono hbw.size)); (try replace hba := hba.trans (hbn.mono hba.size)); (try replace hbb := hbb.trans (hbn.mono hbb.size)); (try replace hbc := hbc.trans (hbn.mono hbc.size)); (try replace hbd := hbd.trans (hbn.mono hbd.size)); (try replace hbx := hbx.trans (hbn.mono hbx.size)); (try replace hby := hby.trans (hbn.mono hby.size)); have hbd := Below.refl wn.heap.size wn))
        | (go_at_call 25; ((with_reducible refine (cOa _ (HV.out.below hb)).mono ?_); rintro e wn ⟨ax, cx, rfl, hrx, hox, hbn⟩; have hX1 := hb.size; have hX2 := hbw.size; have hX3 := hba.size; have hX4 := hbc.size; replace hb := hb.trans (hbn.mono hb.size); (try replace hbw := hbw.trans (hbn.mono hbw.size)); (try replace hba := hba.trans (hbn.mono hba.size)); (try replace hbb := hbb.trans (hbn.mono hbb.size)); (try replace hbc := hbc.trans (hbn.mono hbc.size)); (try replace hbd := hbd.trans (hbn.mono hbd.size)); (try replace hbx := hbx.trans (hbn.mono hbx.size)); (try replace hby := hby.trans (hbn.mono hby.size)); have hbx := Below.refl wn.heap.size wn))
        | (go_at_call 26; ((with_reducible refine (cOb _ (hrw.below hbw)).mono ?_); rintro e wn ⟨ay, cy, rfl, hry, _, hbn⟩; replace hb := hb.trans (hbn.mono hb.size); (try replace hbw := hbw.trans (hbn.mono hbw.size)); (try replace hba := hba.trans (hbn.mono hba.size)); (try replace hbb := hbb.trans (hbn.mono hbb.size)); (try replace hbc := hbc.trans (hbn.mono hbc.size)); (try replace hbd := hbd.trans (hbn.mono hbd.size)); (try replace hbx := hbx.trans (hbn.mono hbx.size)); (try replace hby := hby.trans (hbn.mono hby.size)); have hby := Below.refl wn.heap.size wn))
        | (go_at_call 27; ((with_reducible refine (rsame_self _ _ ma _ (hra.below hba) (hrb.below hbb) hma).mono ?_); rintro e wn ⟨rfl, hbn⟩; replace hb := hb.trans (hbn.mono hb.size); (try replace hbw := hbw.trans (hbn.mono hbw.size)); (try replace hba := hba.trans (hbn.mono hba.size)); (try replace hbb := hbb.trans (hbn.mono hbb.size)); (try replace hbc := hbc.trans (hbn.mono hbc.size)); (try replace hbd := hbd.trans (hbn.mono hbd.size)); (try replace hbx := hbx.trans (hbn.mono hbx.size)); (try replace hby := hby.trans (hbn.mono hby.size))))
        | (go_at_call 27; ((with_reducible refine (rsame_self _ _ md _ (hrc.below hbc) (hrd.below hbd) hmd).mono ?_); rintro e wn ⟨rfl, hbn⟩; replace hb := hb.trans (hbn.mono hb.size); (try replace hbw := hbw.trans (hbn.mono hbw.size)); (try replace hba := hba.trans (hbn.mono hba.size)); (try replace hbb := hbb.trans (hbn.mono hbb.size)); (try replace hbc := hbc.trans (hbn.mono hbc.size)); (try replace hbd := hbd.trans (hbn.mono hbd.size)); (try replace hbx := hbx.trans (hbn.mono hbx.size)); (try replace hby := hby.trans (hbn.mono hby.size))))
        | (go_at_call 27; ((with_reducible refine (rsame_self _ _ mx _ (hrx.below hbx) (hry.below hby) hmx).mono ?_); rintro e wn ⟨rfl, hbn⟩; replace hb := hb.trans (hbn.mono hb.size); (try replace hbw := hbw.trans (hbn.mono hbw.size)); (try replace hba := hba.trans (hbn.mono hba.size)); (try replace hbb := hbb.trans (hbn.mono hbb.size)); (try replace hbc := hbc.trans (hbn.mono hbc.size)); (try replace hbd := hbd.trans (hbn.mono hbd.size)); (try replace hbx := hbx.trans (hbn.mono hbx.size)); (try replace hby := hby.trans (hbn.mono hby.size)))))
      have hOa := hoa.below hba
      have hOc := hoc.below hbc
      have hOx := hox.below hbx
      have la := hoa.lt
      have lc := hoc.lt
      have lx := hox.lt
      clear hrb hbb hrd hbd hry hby hra hrc hrx hba hbc hbx hoa hoc hox
      refine (spoil_any _ _ _ _ hOa (by omega)).mono ?_
      rintro e w7 ⟨rfl, hg1⟩
      replace hOc := hOc.kept hg1 (B2 := _) (fun j hj => (la j hj).2) hC3
      replace hOx := hOx.kept hg1 (B2 := _) (fun j hj => (la j hj).2) hX3
      replace hbw := Below.spoilt hbw hbw.size hg1 (fun j hj => Nat.le_trans hB2 (la j hj).1)
      replace hb := Below.spoilt hb hb.size hg1 (fun j hj => Nat.le_trans hB1 (la j hj).1)
      clear hg1 la hOa
      go_wp2_with fail
      refine (spoil_any _ _ _ _ hOc (by omega)).mono ?_
      rintro e w8 ⟨rfl, hg1⟩
      replace hOx := hOx.kept hg1 (B2 := _) (fun j hj => (lc j hj).2) hX4
      replace hbw := Below.spoilt hbw hbw.size hg1 (fun j hj => Nat.le_trans hC2 (lc j hj).1)
      replace hb := Below.spoilt hb hb.size hg1 (fun j hj => Nat.le_trans hC1 (lc j hj).1)
      clear hg1 lc hOc
      go_wp2_with fail
      refine (spoil_any _ _ _ _ hOx (by omega)).mono ?_
      rintro e w9 ⟨rfl, hg1⟩
      replace hbw := Below.spoilt hbw hbw.size hg1 (fun j hj => Nat.le_trans hX2 (lx j hj).1)
      replace hb := Below.spoilt hb hb.size hg1 (fun j hj => Nat.le_trans hX1 (lx j hj).1)
      clear hg1 lx hOx
      go_wp2_with (first
        | (go_at_call 27; ((with_reducible refine (cS _ (HV.out.below hb) (hrw.below hbw)).mono ?_); rintro e wn ⟨rfl, hbn⟩; replace hb := hb.trans (hbn.mono hb.size)))
        | (go_at_call 9; ((with_reducible refine (cW _ (hE.below hb)).mono ?_); rintro e wn ⟨rfl, hbn⟩; replace hb := hb.trans (hbn.mono hb.size))))
      go_ret
      exact ⟨rfl, hb⟩

end Go.Proofs.YtcccaaleekednaaDoor
