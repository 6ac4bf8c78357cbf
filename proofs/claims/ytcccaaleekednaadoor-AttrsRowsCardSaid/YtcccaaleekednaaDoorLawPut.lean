/-
  The walk of the statement AttrsPut.
-/
import Derived.Test.YtcccaaleekednaaDoorLawOnly
import Derived.Test.YtcccaaleekednaaDoorWalksJ
namespace Go.Proofs.YtcccaaleekednaaDoor
open Go.RowKit Go.Lib

theorem texts_three (w : World) (s u x : ByteArray) (t : TypeId) : TextsAt (w.alloc (.cells #[.string s, .string u, .string x] t)) (.slice (some ⟨w.heap.size, 0, none⟩) 3 3) [s, u, x] := by
  refine .inr ⟨w.heap.size, 3, rfl, by simp, by simp, fun j hj => ?_⟩
  have hj2 : j = 0 ∨ j = 1 ∨ j = 2 := by simp at hj; omega
  rcases hj2 with rfl | rfl | rfl <;> simp

theorem putR_all {Q : At → Prop} : ∀ (l : Row) (n v : ByteArray), (∀ a ∈ l, Q a) → Q (n, v) → (∀ a ∈ l, Q (a.1, v)) → ∀ a ∈ putR l n v, Q a
  | [], n, v, _, h2, _ => by intro a ha; simp [putR] at ha; rw [ha]; exact h2
  | b :: l, n, v, h1, h2, h3 => by
    intro a ha
    by_cases e : b.1 = n
    · simp only [putR, if_pos e, List.mem_cons] at ha
      rcases ha with rfl | ha
      · exact h3 b (by simp)
      · exact h1 a (by simp [ha])
    · simp only [putR, if_neg e, List.mem_cons] at ha
      rcases ha with rfl | ha
      · exact h1 _ (by simp)
      · exact putR_all l n v (fun x hx => h1 x (by simp [hx])) h2 (fun x hx => h3 x (by simp [hx])) a ha
theorem short_put {l : Row} {ts : List ByteArray} {n v : ByteArray} (h : l.length ≤ 200 ∧ totR l + tot ts ≤ 20000) (hn : n ∈ ts) (hv : v ∈ ts) : Short (putR l n v) := by
  have h1 := tot_mem ts n hn
  have h2 := tot_mem ts v hv
  have hQ : ∀ a ∈ putR l n v, a.1.size ≤ 100000 ∧ a.2.size ≤ 100000 := putR_all l n v (fun a ha => by have := totR_mem l a ha; omega) ⟨by show n.size ≤ _; omega, by show v.size ≤ _; omega⟩ (fun a ha => by have := totR_mem l a ha; exact ⟨by show a.1.size ≤ _; omega, by show v.size ≤ _; omega⟩)
  refine ⟨?_, fun j hj => ?_⟩
  · rw [putR_length]; split <;> omega
  · have e : (putR l n v)[j]! = (putR l n v)[j] := by rw [List.getElem!_eq_getElem?_getD, List.getElem?_eq_getElem hj]; rfl
    rw [e]
    exact hQ _ (List.getElem_mem hj)

/-- What Put, Drop answer where they do, as slices. -/
def PutLen (m : Row) (w : World) (e : Ending) (w' : World) : Prop := ∃ a c, e = .returned (.tuple #[.slice a m.length c, .int .i64 0]) ∧ RowAt w' (.slice a m.length c) m ∧ Below w.heap.size w w'
theorem PutPost.len {m : Row} {w : World} {e : Ending} {w' : World} (h : PutPost m w e w') : PutLen m w e w' := by
  obtain ⟨v', rfl, hown, hb⟩ := h
  have hr := rowAt_of_own hown
  obtain ⟨a, c, rfl⟩ := hr.len
  exact ⟨a, c, rfl, hr, hb⟩

set_option maxHeartbeats 8000000 in
theorem lawPut_walk (v : Value) (l : Row) (name value other : ByteArray) (w : World) (hE : Env w) (hv : RowAt w v l)
    (hz : ∀ a ∈ l, a.1.size ≤ 140737488355328 ∧ a.2.size ≤ 140737488355328) (hs1 : name.size ≤ 140737488355328) (hs2 : value.size ≤ 140737488355328) (hs3 : other.size ≤ 140737488355328) :
    Calls Tryd.prog 6 #[v, .string name, .string value, .string other] w fun e w' => e = .returned (.bool true) ∧ Below w.heap.size w w' := by
  have cW := fun wx hx => awake_any wx hx
  obtain ⟨a1, c1, rfl⟩ := hv.len
  have hb := (Below.refl w.heap.size w).alloc (Nat.le_refl _) (.cells #[.string name, .string value, .string other] 9)
  go_enter Tryd.func6, Tryd.ntmps6
  go_wp2_with fail
  refine (long_any _ _ l [name, value, other] _ (hv.below hb) (texts_three w name value other 9) hz (by simp [tot]; omega) (by simp)).mono ?_
  rintro e w1 ⟨bb, rfl, hl1, hb1⟩
  replace hb := hb.trans (hb1.mono hb.size)
  clear hb1
  cases bb with
  | true =>
    clear hl1
    go_wp2_with (go_at_call 9; ((with_reducible refine (cW _ (hE.below hb)).mono ?_); rintro e wn ⟨rfl, hbn⟩; replace hb := hb.trans (hbn.mono hb.size)))
    go_ret
    exact ⟨rfl, hb⟩
  | false =>
    have hlt := hl1 rfl
    obtain ⟨hsh, hts⟩ := short_of hlt
    have hsm := short_put (n := name) (v := value) hlt (by simp) (by simp)
    have hlen : l.length ≤ 200 := hlt.1
    have z1 := hts name (by simp)
    have z2 := hts value (by simp)
    clear hl1 hlt hts hz hs1 hs2 hs3
    have HSH := Lib.hid hsh
    have HSM := Lib.hid hsm
    clear hsh hsm
    by_cases hP : (nameS name && valueS value) = true
    · -- put
      have HV := Lib.hid hv
      have cP := fun wx hx hy => put_yes (.slice a1 l.length c1) l name value wx hx hy (by omega) (by omega) (by omega) hP
      have hmh := putR_has l name value
      have hgn := putR_get l name value
      obtain ⟨m, hm⟩ : ∃ m, putR l name value = m := ⟨_, rfl⟩
      have hml := putR_length l name value
      have hoth := putR_other_get l name value other
      have hothh := putR_other_has l name value other
      have hmay : mayR l = true → mayR m = true := fun h => by
        rw [Bool.and_eq_true] at hP
        rw [← hm]
        exact mayR_put l name value hP.1 hP.2 h
      have hdl := dropR_length m name (by rw [← hm]; exact hmh)
      have hdp : hasR l name = false → dropR m name = l := fun h => by rw [← hm]; exact dropR_put l name value h
      rw [hm] at cP hmh hgn hml hoth hothh HSM
      obtain ⟨N, hN⟩ : ∃ N, l.length = N := ⟨_, rfl⟩
      obtain ⟨L, hL⟩ : ∃ L, m.length = L := ⟨_, rfl⟩
      obtain ⟨J, hJ⟩ : ∃ J, (dropR m name).length = J := ⟨_, rfl⟩
      have hgm : ∀ vm wx, RowAt wx vm m → Calls Tryd.prog 18 #[vm, .string name] wx fun e w' => e = .returned (.tuple #[.string value, .bool true]) ∧ Below wx.heap.size wx w' := fun vm wx hx => by
        have h := get_any vm m name wx hx
        unfold gotV at h
        rwa [hgn, hmh] at h
      have hgl : ∀ (o : ByteArray) wx, RowAt wx (.slice a1 N c1) l → Calls Tryd.prog 18 #[.slice a1 N c1, .string o] wx fun e w' => e = .returned (.tuple #[.string (getR l o), .bool (hasR l o)]) ∧ Below wx.heap.size wx w' := fun o wx hx => get_any _ l o wx hx
      have hgo : ∀ vm wx, RowAt wx vm m → Calls Tryd.prog 18 #[vm, .string other] wx fun e w' => e = .returned (.tuple #[.string (getR m other), .bool (hasR m other)]) ∧ Below wx.heap.size wx w' := fun vm wx hx => get_any vm m other wx hx
      have cMl : ∀ wx, Env wx → RowAt wx (.slice a1 N c1) l → Calls Tryd.prog 19 #[.slice a1 N c1] wx fun e w' => e = .returned (.bool (mayR l)) ∧ Below wx.heap.size wx w' := fun wx hx hy => mayRow_any _ l wx hx hy HSH.out
      have cMm : ∀ vm wx, Env wx → RowAt wx vm m → Calls Tryd.prog 19 #[vm] wx fun e w' => e = .returned (.bool (mayR m)) ∧ Below wx.heap.size wx w' := fun vm wx hx hy => mayRow_any _ m wx hx hy HSM.out
      have hml2 : m.length ≤ 1000 := HSM.out.1
      have cD : ∀ vm wx, RowAt wx vm m → Calls Tryd.prog 23 #[vm, .string name] wx (PutLen (dropR m name) wx) := fun vm wx hx => (drop_yes vm m name wx hx (by omega) hmh).mono fun e w' h => h.len
      have cS : ∀ vn wx, RowAt wx vn (dropR m name) → RowAt wx (.slice a1 N c1) l → Calls Tryd.prog 29 #[vn, .slice a1 N c1] wx fun e w' => e = .returned (.bool (sameR (dropR m name) l)) ∧ Below wx.heap.size wx w' := fun vn wx hx hy => same_any vn _ _ l wx hx hy
      unfold PutLen at cD
      have cP2 : ∀ wx, Env wx → RowAt wx (.slice a1 N c1) l → Calls Tryd.prog 21 #[.slice a1 N c1, .string name, .string value] wx (PutLen m wx) := fun wx hx hy => by
        rw [← hN] at hy ⊢
        exact (cP wx hx hy).mono fun e w' h => h.len
      unfold PutLen at cP2
      obtain ⟨S, hS⟩ : ∃ S, sameR (dropR m name) l = S := ⟨_, rfl⟩
      have hSw : hasR l name = false → S = true := fun h => by rw [← hS, hdp h]; exact decide_eq_true rfl
      simp only [hS] at cS
      obtain ⟨W, hW⟩ : ∃ W, hasR l name = W := ⟨_, rfl⟩
      rw [hW] at hml hSw
      rw [hN, hL] at hml
      rw [hJ, hL] at hdl
      rw [hL] at cP2
      rw [hJ] at cD
      have cGn : ∀ wx, RowAt wx (.slice a1 N c1) l → Calls Tryd.prog 18 #[.slice a1 N c1, .string name] wx fun e w' => (∃ G, e = .returned (.tuple #[.string G, .bool W])) ∧ Below wx.heap.size wx w' := fun wx hx => by
        refine (hgl name wx hx).mono ?_
        rintro e w' ⟨rfl, hbx⟩
        exact ⟨⟨getR l name, by rw [hW]⟩, hbx⟩
      have cGo : ∀ wx, RowAt wx (.slice a1 N c1) l → Calls Tryd.prog 18 #[.slice a1 N c1, .string other] wx fun e w' => e = .returned (.tuple #[.string (getR l other), .bool (hasR l other)]) ∧ Below wx.heap.size wx w' := fun wx hx => hgl other wx hx
      obtain ⟨Y, hY⟩ : ∃ Y, mayR l = Y := ⟨_, rfl⟩
      obtain ⟨Y2, hY2⟩ : ∃ Y2, mayR m = Y2 := ⟨_, rfl⟩
      rw [hY, hY2] at hmay
      simp only [hY] at cMl
      simp only [hY2] at cMm
      obtain ⟨G, hG⟩ : ∃ G, getR l other = G := ⟨_, rfl⟩
      obtain ⟨H, hH⟩ : ∃ H, hasR l other = H := ⟨_, rfl⟩
      obtain ⟨G2, hG2⟩ : ∃ G2, getR m other = G2 := ⟨_, rfl⟩
      obtain ⟨H2, hH2⟩ : ∃ H2, hasR m other = H2 := ⟨_, rfl⟩
      rw [hG, hG2] at hoth
      rw [hH, hH2] at hothh
      simp only [hG, hH] at cGo
      simp only [hG2, hH2] at hgo
      rw [hN] at HV ⊢
      clear hgl cP hmh hgn hm hdp hP hS hW hY hY2 hG hH hG2 hH2 HSH HSM hv hN hJ
      have hL2 := hL
      clear hL
      have gV : (value.toList == value.toList) = true := by simp
      have gG : (G.toList == G.toList) = true := by simp
      rw [hL2] at hml2
      have hw64 : wrap64 ((L : Int) - 1) = (J : Int) := by unfold wrap64; omega
      have hJ2 : ((J : Int) != wrap64 ((L : Int) - 1)) = false := by rw [hw64]; simp
      have hJ2b : ((J : Int) != (L : Int) - 1) = false := by simp; omega
      have hmlW : W = true → L = N := fun h => by rw [h] at hml; simpa using hml
      have HML := Lib.hid hmlW
      clear hmlW hml hw64 hL2
      by_cases ho : other = name
      · have go : (other.toList == name.toList) = true := by rw [str_eq]; exact decide_eq_true ho
        clear hoth hothh ho
        cases W with
        | true =>
          have hLN := HML.out rfl
          subst hLN
          clear HML hSw
          cases Y with
          | true =>
            have hy := hmay rfl
            subst hy
            clear hmay
            go_wp2_with (first
              | (go_at_call 21; ((with_reducible refine (cP2 _ (hE.below hb) (HV.out.below hb)).mono ?_); rintro e wm ⟨am, cm, rfl, hrm, hbn⟩; replace hb := hb.trans (hbn.mono hb.size); have hbm := Below.refl wm.heap.size wm))
              | (go_at_call 18; ((with_reducible refine (hgm _ _ (hrm.below hbm)).mono ?_); rintro e wn ⟨rfl, hbn⟩; replace hb := hb.trans (hbn.mono hb.size); replace hbm := hbm.trans (hbn.mono hbm.size)))
              | (go_at_call 18; ((with_reducible refine (cGo _ (HV.out.below hb)).mono ?_); rintro e wn ⟨rfl, hbn⟩; replace hb := hb.trans (hbn.mono hb.size); replace hbm := hbm.trans (hbn.mono hbm.size)))
              | (go_at_call 18; ((with_reducible refine (hgo _ _ (hrm.below hbm)).mono ?_); rintro e wn ⟨rfl, hbn⟩; replace hb := hb.trans (hbn.mono hb.size); replace hbm := hbm.trans (hbn.mono hbm.size)))
              | (go_at_call 18; ((with_reducible refine (cGn _ (HV.out.below hb)).mono ?_); rintro e wn ⟨⟨G3, rfl⟩, hbn⟩; replace hb := hb.trans (hbn.mono hb.size); replace hbm := hbm.trans (hbn.mono hbm.size)))
              | (go_at_call 19; ((with_reducible refine (cMl _ (hE.below hb) (HV.out.below hb)).mono ?_); rintro e wn ⟨rfl, hbn⟩; replace hb := hb.trans (hbn.mono hb.size); replace hbm := hbm.trans (hbn.mono hbm.size)))
              | (go_at_call 19; ((with_reducible refine (cMm _ _ (hE.below hb) (hrm.below hbm)).mono ?_); rintro e wn ⟨rfl, hbn⟩; replace hb := hb.trans (hbn.mono hb.size); replace hbm := hbm.trans (hbn.mono hbm.size)))
              | (go_at_call 23; ((with_reducible refine (cD _ _ (hrm.below hbm)).mono ?_); rintro e wd ⟨an, cn, rfl, hrn, hbn⟩; replace hb := hb.trans (hbn.mono hb.size); have hbd := Below.refl wd.heap.size wd))
              | (go_at_call 29; ((with_reducible refine (cS _ _ (hrn.below hbd) (HV.out.below hb)).mono ?_); rintro e wn ⟨rfl, hbn⟩; replace hb := hb.trans (hbn.mono hb.size)))
              | (go_at_call 9; ((with_reducible refine (cW _ (hE.below hb)).mono ?_); rintro e wn ⟨rfl, hbn⟩; replace hb := hb.trans (hbn.mono hb.size))))
            go_ret
            exact ⟨rfl, hb⟩
          | false =>
            clear hmay
            go_wp2_with (first
              | (go_at_call 21; ((with_reducible refine (cP2 _ (hE.below hb) (HV.out.below hb)).mono ?_); rintro e wm ⟨am, cm, rfl, hrm, hbn⟩; replace hb := hb.trans (hbn.mono hb.size); have hbm := Below.refl wm.heap.size wm))
              | (go_at_call 18; ((with_reducible refine (hgm _ _ (hrm.below hbm)).mono ?_); rintro e wn ⟨rfl, hbn⟩; replace hb := hb.trans (hbn.mono hb.size); replace hbm := hbm.trans (hbn.mono hbm.size)))
              | (go_at_call 18; ((with_reducible refine (cGo _ (HV.out.below hb)).mono ?_); rintro e wn ⟨rfl, hbn⟩; replace hb := hb.trans (hbn.mono hb.size); replace hbm := hbm.trans (hbn.mono hbm.size)))
              | (go_at_call 18; ((with_reducible refine (hgo _ _ (hrm.below hbm)).mono ?_); rintro e wn ⟨rfl, hbn⟩; replace hb := hb.trans (hbn.mono hb.size); replace hbm := hbm.trans (hbn.mono hbm.size)))
              | (go_at_call 18; ((with_reducible refine (cGn _ (HV.out.below hb)).mono ?_); rintro e wn ⟨⟨G3, rfl⟩, hbn⟩; replace hb := hb.trans (hbn.mono hb.size); replace hbm := hbm.trans (hbn.mono hbm.size)))
              | (go_at_call 19; ((with_reducible refine (cMl _ (hE.below hb) (HV.out.below hb)).mono ?_); rintro e wn ⟨rfl, hbn⟩; replace hb := hb.trans (hbn.mono hb.size); replace hbm := hbm.trans (hbn.mono hbm.size)))
              | (go_at_call 19; ((with_reducible refine (cMm _ _ (hE.below hb) (hrm.below hbm)).mono ?_); rintro e wn ⟨rfl, hbn⟩; replace hb := hb.trans (hbn.mono hb.size); replace hbm := hbm.trans (hbn.mono hbm.size)))
              | (go_at_call 23; ((with_reducible refine (cD _ _ (hrm.below hbm)).mono ?_); rintro e wd ⟨an, cn, rfl, hrn, hbn⟩; replace hb := hb.trans (hbn.mono hb.size); have hbd := Below.refl wd.heap.size wd))
              | (go_at_call 29; ((with_reducible refine (cS _ _ (hrn.below hbd) (HV.out.below hb)).mono ?_); rintro e wn ⟨rfl, hbn⟩; replace hb := hb.trans (hbn.mono hb.size)))
              | (go_at_call 9; ((with_reducible refine (cW _ (hE.below hb)).mono ?_); rintro e wn ⟨rfl, hbn⟩; replace hb := hb.trans (hbn.mono hb.size))))
            go_ret
            exact ⟨rfl, hb⟩
        | false =>
          have hS1 := hSw rfl
          subst hS1
          clear HML hSw
          cases Y with
          | true =>
            have hy := hmay rfl
            subst hy
            clear hmay
            go_wp2_with (first
              | (go_at_call 21; ((with_reducible refine (cP2 _ (hE.below hb) (HV.out.below hb)).mono ?_); rintro e wm ⟨am, cm, rfl, hrm, hbn⟩; replace hb := hb.trans (hbn.mono hb.size); have hbm := Below.refl wm.heap.size wm))
              | (go_at_call 18; ((with_reducible refine (hgm _ _ (hrm.below hbm)).mono ?_); rintro e wn ⟨rfl, hbn⟩; replace hb := hb.trans (hbn.mono hb.size); replace hbm := hbm.trans (hbn.mono hbm.size)))
              | (go_at_call 18; ((with_reducible refine (cGo _ (HV.out.below hb)).mono ?_); rintro e wn ⟨rfl, hbn⟩; replace hb := hb.trans (hbn.mono hb.size); replace hbm := hbm.trans (hbn.mono hbm.size)))
              | (go_at_call 18; ((with_reducible refine (hgo _ _ (hrm.below hbm)).mono ?_); rintro e wn ⟨rfl, hbn⟩; replace hb := hb.trans (hbn.mono hb.size); replace hbm := hbm.trans (hbn.mono hbm.size)))
              | (go_at_call 18; ((with_reducible refine (cGn _ (HV.out.below hb)).mono ?_); rintro e wn ⟨⟨G3, rfl⟩, hbn⟩; replace hb := hb.trans (hbn.mono hb.size); replace hbm := hbm.trans (hbn.mono hbm.size)))
              | (go_at_call 19; ((with_reducible refine (cMl _ (hE.below hb) (HV.out.below hb)).mono ?_); rintro e wn ⟨rfl, hbn⟩; replace hb := hb.trans (hbn.mono hb.size); replace hbm := hbm.trans (hbn.mono hbm.size)))
              | (go_at_call 19; ((with_reducible refine (cMm _ _ (hE.below hb) (hrm.below hbm)).mono ?_); rintro e wn ⟨rfl, hbn⟩; replace hb := hb.trans (hbn.mono hb.size); replace hbm := hbm.trans (hbn.mono hbm.size)))
              | (go_at_call 23; ((with_reducible refine (cD _ _ (hrm.below hbm)).mono ?_); rintro e wd ⟨an, cn, rfl, hrn, hbn⟩; replace hb := hb.trans (hbn.mono hb.size); have hbd := Below.refl wd.heap.size wd))
              | (go_at_call 29; ((with_reducible refine (cS _ _ (hrn.below hbd) (HV.out.below hb)).mono ?_); rintro e wn ⟨rfl, hbn⟩; replace hb := hb.trans (hbn.mono hb.size)))
              | (go_at_call 9; ((with_reducible refine (cW _ (hE.below hb)).mono ?_); rintro e wn ⟨rfl, hbn⟩; replace hb := hb.trans (hbn.mono hb.size))))
            go_ret
            exact ⟨rfl, hb⟩
          | false =>
            clear hmay
            go_wp2_with (first
              | (go_at_call 21; ((with_reducible refine (cP2 _ (hE.below hb) (HV.out.below hb)).mono ?_); rintro e wm ⟨am, cm, rfl, hrm, hbn⟩; replace hb := hb.trans (hbn.mono hb.size); have hbm := Below.refl wm.heap.size wm))
              | (go_at_call 18; ((with_reducible refine (hgm _ _ (hrm.below hbm)).mono ?_); rintro e wn ⟨rfl, hbn⟩; replace hb := hb.trans (hbn.mono hb.size); replace hbm := hbm.trans (hbn.mono hbm.size)))
              | (go_at_call 18; ((with_reducible refine (cGo _ (HV.out.below hb)).mono ?_); rintro e wn ⟨rfl, hbn⟩; replace hb := hb.trans (hbn.mono hb.size); replace hbm := hbm.trans (hbn.mono hbm.size)))
              | (go_at_call 18; ((with_reducible refine (hgo _ _ (hrm.below hbm)).mono ?_); rintro e wn ⟨rfl, hbn⟩; replace hb := hb.trans (hbn.mono hb.size); replace hbm := hbm.trans (hbn.mono hbm.size)))
              | (go_at_call 18; ((with_reducible refine (cGn _ (HV.out.below hb)).mono ?_); rintro e wn ⟨⟨G3, rfl⟩, hbn⟩; replace hb := hb.trans (hbn.mono hb.size); replace hbm := hbm.trans (hbn.mono hbm.size)))
              | (go_at_call 19; ((with_reducible refine (cMl _ (hE.below hb) (HV.out.below hb)).mono ?_); rintro e wn ⟨rfl, hbn⟩; replace hb := hb.trans (hbn.mono hb.size); replace hbm := hbm.trans (hbn.mono hbm.size)))
              | (go_at_call 19; ((with_reducible refine (cMm _ _ (hE.below hb) (hrm.below hbm)).mono ?_); rintro e wn ⟨rfl, hbn⟩; replace hb := hb.trans (hbn.mono hb.size); replace hbm := hbm.trans (hbn.mono hbm.size)))
              | (go_at_call 23; ((with_reducible refine (cD _ _ (hrm.below hbm)).mono ?_); rintro e wd ⟨an, cn, rfl, hrn, hbn⟩; replace hb := hb.trans (hbn.mono hb.size); have hbd := Below.refl wd.heap.size wd))
              | (go_at_call 29; ((with_reducible refine (cS _ _ (hrn.below hbd) (HV.out.below hb)).mono ?_); rintro e wn ⟨rfl, hbn⟩; replace hb := hb.trans (hbn.mono hb.size)))
              | (go_at_call 9; ((with_reducible refine (cW _ (hE.below hb)).mono ?_); rintro e wn ⟨rfl, hbn⟩; replace hb := hb.trans (hbn.mono hb.size))))
            go_ret
            exact ⟨rfl, hb⟩
      · have go : (other.toList == name.toList) = false := by rw [str_eq]; exact decide_eq_false ho
        have e1 := hoth ho
        have e2 := hothh ho
        clear hoth hothh ho
        subst e1 e2
        cases W with
        | true =>
          have hLN := HML.out rfl
          subst hLN
          clear HML hSw
          cases Y with
          | true =>
            have hy := hmay rfl
            subst hy
            clear hmay
            cases H2
            all_goals
              go_wp2_with (first
                | (go_at_call 21; ((with_reducible refine (cP2 _ (hE.below hb) (HV.out.below hb)).mono ?_); rintro e wm ⟨am, cm, rfl, hrm, hbn⟩; replace hb := hb.trans (hbn.mono hb.size); have hbm := Below.refl wm.heap.size wm))
                | (go_at_call 18; ((with_reducible refine (hgm _ _ (hrm.below hbm)).mono ?_); rintro e wn ⟨rfl, hbn⟩; replace hb := hb.trans (hbn.mono hb.size); replace hbm := hbm.trans (hbn.mono hbm.size)))
                | (go_at_call 18; ((with_reducible refine (cGo _ (HV.out.below hb)).mono ?_); rintro e wn ⟨rfl, hbn⟩; replace hb := hb.trans (hbn.mono hb.size); replace hbm := hbm.trans (hbn.mono hbm.size)))
                | (go_at_call 18; ((with_reducible refine (hgo _ _ (hrm.below hbm)).mono ?_); rintro e wn ⟨rfl, hbn⟩; replace hb := hb.trans (hbn.mono hb.size); replace hbm := hbm.trans (hbn.mono hbm.size)))
                | (go_at_call 18; ((with_reducible refine (cGn _ (HV.out.below hb)).mono ?_); rintro e wn ⟨⟨G3, rfl⟩, hbn⟩; replace hb := hb.trans (hbn.mono hb.size); replace hbm := hbm.trans (hbn.mono hbm.size)))
                | (go_at_call 19; ((with_reducible refine (cMl _ (hE.below hb) (HV.out.below hb)).mono ?_); rintro e wn ⟨rfl, hbn⟩; replace hb := hb.trans (hbn.mono hb.size); replace hbm := hbm.trans (hbn.mono hbm.size)))
                | (go_at_call 19; ((with_reducible refine (cMm _ _ (hE.below hb) (hrm.below hbm)).mono ?_); rintro e wn ⟨rfl, hbn⟩; replace hb := hb.trans (hbn.mono hb.size); replace hbm := hbm.trans (hbn.mono hbm.size)))
                | (go_at_call 23; ((with_reducible refine (cD _ _ (hrm.below hbm)).mono ?_); rintro e wd ⟨an, cn, rfl, hrn, hbn⟩; replace hb := hb.trans (hbn.mono hb.size); have hbd := Below.refl wd.heap.size wd))
                | (go_at_call 29; ((with_reducible refine (cS _ _ (hrn.below hbd) (HV.out.below hb)).mono ?_); rintro e wn ⟨rfl, hbn⟩; replace hb := hb.trans (hbn.mono hb.size)))
                | (go_at_call 9; ((with_reducible refine (cW _ (hE.below hb)).mono ?_); rintro e wn ⟨rfl, hbn⟩; replace hb := hb.trans (hbn.mono hb.size))))
              go_ret
              exact ⟨rfl, hb⟩
          | false =>
            clear hmay
            cases H2
            all_goals
              go_wp2_with (first
                | (go_at_call 21; ((with_reducible refine (cP2 _ (hE.below hb) (HV.out.below hb)).mono ?_); rintro e wm ⟨am, cm, rfl, hrm, hbn⟩; replace hb := hb.trans (hbn.mono hb.size); have hbm := Below.refl wm.heap.size wm))
                | (go_at_call 18; ((with_reducible refine (hgm _ _ (hrm.below hbm)).mono ?_); rintro e wn ⟨rfl, hbn⟩; replace hb := hb.trans (hbn.mono hb.size); replace hbm := hbm.trans (hbn.mono hbm.size)))
                | (go_at_call 18; ((with_reducible refine (cGo _ (HV.out.below hb)).mono ?_); rintro e wn ⟨rfl, hbn⟩; replace hb := hb.trans (hbn.mono hb.size); replace hbm := hbm.trans (hbn.mono hbm.size)))
                | (go_at_call 18; ((with_reducible refine (hgo _ _ (hrm.below hbm)).mono ?_); rintro e wn ⟨rfl, hbn⟩; replace hb := hb.trans (hbn.mono hb.size); replace hbm := hbm.trans (hbn.mono hbm.size)))
                | (go_at_call 18; ((with_reducible refine (cGn _ (HV.out.below hb)).mono ?_); rintro e wn ⟨⟨G3, rfl⟩, hbn⟩; replace hb := hb.trans (hbn.mono hb.size); replace hbm := hbm.trans (hbn.mono hbm.size)))
                | (go_at_call 19; ((with_reducible refine (cMl _ (hE.below hb) (HV.out.below hb)).mono ?_); rintro e wn ⟨rfl, hbn⟩; replace hb := hb.trans (hbn.mono hb.size); replace hbm := hbm.trans (hbn.mono hbm.size)))
                | (go_at_call 19; ((with_reducible refine (cMm _ _ (hE.below hb) (hrm.below hbm)).mono ?_); rintro e wn ⟨rfl, hbn⟩; replace hb := hb.trans (hbn.mono hb.size); replace hbm := hbm.trans (hbn.mono hbm.size)))
                | (go_at_call 23; ((with_reducible refine (cD _ _ (hrm.below hbm)).mono ?_); rintro e wd ⟨an, cn, rfl, hrn, hbn⟩; replace hb := hb.trans (hbn.mono hb.size); have hbd := Below.refl wd.heap.size wd))
                | (go_at_call 29; ((with_reducible refine (cS _ _ (hrn.below hbd) (HV.out.below hb)).mono ?_); rintro e wn ⟨rfl, hbn⟩; replace hb := hb.trans (hbn.mono hb.size)))
                | (go_at_call 9; ((with_reducible refine (cW _ (hE.below hb)).mono ?_); rintro e wn ⟨rfl, hbn⟩; replace hb := hb.trans (hbn.mono hb.size))))
              go_ret
              exact ⟨rfl, hb⟩
        | false =>
          have hS1 := hSw rfl
          subst hS1
          clear HML hSw
          cases Y with
          | true =>
            have hy := hmay rfl
            subst hy
            clear hmay
            cases H2
            all_goals
              go_wp2_with (first
                | (go_at_call 21; ((with_reducible refine (cP2 _ (hE.below hb) (HV.out.below hb)).mono ?_); rintro e wm ⟨am, cm, rfl, hrm, hbn⟩; replace hb := hb.trans (hbn.mono hb.size); have hbm := Below.refl wm.heap.size wm))
                | (go_at_call 18; ((with_reducible refine (hgm _ _ (hrm.below hbm)).mono ?_); rintro e wn ⟨rfl, hbn⟩; replace hb := hb.trans (hbn.mono hb.size); replace hbm := hbm.trans (hbn.mono hbm.size)))
                | (go_at_call 18; ((with_reducible refine (cGo _ (HV.out.below hb)).mono ?_); rintro e wn ⟨rfl, hbn⟩; replace hb := hb.trans (hbn.mono hb.size); replace hbm := hbm.trans (hbn.mono hbm.size)))
                | (go_at_call 18; ((with_reducible refine (hgo _ _ (hrm.below hbm)).mono ?_); rintro e wn ⟨rfl, hbn⟩; replace hb := hb.trans (hbn.mono hb.size); replace hbm := hbm.trans (hbn.mono hbm.size)))
                | (go_at_call 18; ((with_reducible refine (cGn _ (HV.out.below hb)).mono ?_); rintro e wn ⟨⟨G3, rfl⟩, hbn⟩; replace hb := hb.trans (hbn.mono hb.size); replace hbm := hbm.trans (hbn.mono hbm.size)))
                | (go_at_call 19; ((with_reducible refine (cMl _ (hE.below hb) (HV.out.below hb)).mono ?_); rintro e wn ⟨rfl, hbn⟩; replace hb := hb.trans (hbn.mono hb.size); replace hbm := hbm.trans (hbn.mono hbm.size)))
                | (go_at_call 19; ((with_reducible refine (cMm _ _ (hE.below hb) (hrm.below hbm)).mono ?_); rintro e wn ⟨rfl, hbn⟩; replace hb := hb.trans (hbn.mono hb.size); replace hbm := hbm.trans (hbn.mono hbm.size)))
                | (go_at_call 23; ((with_reducible refine (cD _ _ (hrm.below hbm)).mono ?_); rintro e wd ⟨an, cn, rfl, hrn, hbn⟩; replace hb := hb.trans (hbn.mono hb.size); have hbd := Below.refl wd.heap.size wd))
                | (go_at_call 29; ((with_reducible refine (cS _ _ (hrn.below hbd) (HV.out.below hb)).mono ?_); rintro e wn ⟨rfl, hbn⟩; replace hb := hb.trans (hbn.mono hb.size)))
                | (go_at_call 9; ((with_reducible refine (cW _ (hE.below hb)).mono ?_); rintro e wn ⟨rfl, hbn⟩; replace hb := hb.trans (hbn.mono hb.size))))
              go_ret
              exact ⟨rfl, hb⟩
          | false =>
            clear hmay
            cases H2
            all_goals
              go_wp2_with (first
                | (go_at_call 21; ((with_reducible refine (cP2 _ (hE.below hb) (HV.out.below hb)).mono ?_); rintro e wm ⟨am, cm, rfl, hrm, hbn⟩; replace hb := hb.trans (hbn.mono hb.size); have hbm := Below.refl wm.heap.size wm))
                | (go_at_call 18; ((with_reducible refine (hgm _ _ (hrm.below hbm)).mono ?_); rintro e wn ⟨rfl, hbn⟩; replace hb := hb.trans (hbn.mono hb.size); replace hbm := hbm.trans (hbn.mono hbm.size)))
                | (go_at_call 18; ((with_reducible refine (cGo _ (HV.out.below hb)).mono ?_); rintro e wn ⟨rfl, hbn⟩; replace hb := hb.trans (hbn.mono hb.size); replace hbm := hbm.trans (hbn.mono hbm.size)))
                | (go_at_call 18; ((with_reducible refine (hgo _ _ (hrm.below hbm)).mono ?_); rintro e wn ⟨rfl, hbn⟩; replace hb := hb.trans (hbn.mono hb.size); replace hbm := hbm.trans (hbn.mono hbm.size)))
                | (go_at_call 18; ((with_reducible refine (cGn _ (HV.out.below hb)).mono ?_); rintro e wn ⟨⟨G3, rfl⟩, hbn⟩; replace hb := hb.trans (hbn.mono hb.size); replace hbm := hbm.trans (hbn.mono hbm.size)))
                | (go_at_call 19; ((with_reducible refine (cMl _ (hE.below hb) (HV.out.below hb)).mono ?_); rintro e wn ⟨rfl, hbn⟩; replace hb := hb.trans (hbn.mono hb.size); replace hbm := hbm.trans (hbn.mono hbm.size)))
                | (go_at_call 19; ((with_reducible refine (cMm _ _ (hE.below hb) (hrm.below hbm)).mono ?_); rintro e wn ⟨rfl, hbn⟩; replace hb := hb.trans (hbn.mono hb.size); replace hbm := hbm.trans (hbn.mono hbm.size)))
                | (go_at_call 23; ((with_reducible refine (cD _ _ (hrm.below hbm)).mono ?_); rintro e wd ⟨an, cn, rfl, hrn, hbn⟩; replace hb := hb.trans (hbn.mono hb.size); have hbd := Below.refl wd.heap.size wd))
                | (go_at_call 29; ((with_reducible refine (cS _ _ (hrn.below hbd) (HV.out.below hb)).mono ?_); rintro e wn ⟨rfl, hbn⟩; replace hb := hb.trans (hbn.mono hb.size)))
                | (go_at_call 9; ((with_reducible refine (cW _ (hE.below hb)).mono ?_); rintro e wn ⟨rfl, hbn⟩; replace hb := hb.trans (hbn.mono hb.size))))
              go_ret
              exact ⟨rfl, hb⟩
    · -- refused
      have cP := fun wx hx => put_no (.slice a1 l.length c1) name value wx hx (by omega) (by omega) (by simpa using hP)
      unfold refusedV at cP
      have cN := fun wx => name_any name wx (by omega)
      have cV := fun wx hx => value_any value wx (by omega) hx
      obtain ⟨P1, hP1⟩ : ∃ P1, nameS name = P1 := ⟨_, rfl⟩
      obtain ⟨P2, hP2⟩ : ∃ P2, valueS value = P2 := ⟨_, rfl⟩
      rw [hP1, hP2] at hP
      simp only [hP1] at cN
      simp only [hP2] at cV
      clear hP1 hP2 HSH HSM hv
      cases P1 with
      | false =>
        clear hP
        go_wp2_with (first
          | (go_at_call 21; ((with_reducible refine (cP _ (hE.below hb)).mono ?_); rintro e wn ⟨rfl, hbn⟩; replace hb := hb.trans (hbn.mono hb.size)))
          | (go_at_call 10; ((with_reducible refine (cN _).mono ?_); rintro e wn ⟨rfl, hbn⟩; replace hb := hb.trans (hbn.mono hb.size)))
          | (go_at_call 9; ((with_reducible refine (cW _ (hE.below hb)).mono ?_); rintro e wn ⟨rfl, hbn⟩; replace hb := hb.trans (hbn.mono hb.size))))
        go_ret
        exact ⟨rfl, hb⟩
      | true =>
        cases P2 with
        | true => exact absurd rfl hP
        | false =>
          clear hP
          go_wp2_with (first
            | (go_at_call 21; ((with_reducible refine (cP _ (hE.below hb)).mono ?_); rintro e wn ⟨rfl, hbn⟩; replace hb := hb.trans (hbn.mono hb.size)))
            | (go_at_call 10; ((with_reducible refine (cN _).mono ?_); rintro e wn ⟨rfl, hbn⟩; replace hb := hb.trans (hbn.mono hb.size)))
            | (go_at_call 12; ((with_reducible refine (cV _ (hE.below hb)).mono ?_); rintro e wn ⟨rfl, hbn⟩; replace hb := hb.trans (hbn.mono hb.size)))
            | (go_at_call 9; ((with_reducible refine (cW _ (hE.below hb)).mono ?_); rintro e wn ⟨rfl, hbn⟩; replace hb := hb.trans (hbn.mono hb.size))))
          go_ret
          exact ⟨rfl, hb⟩

end Go.Proofs.YtcccaaleekednaaDoor
