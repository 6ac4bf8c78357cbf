/-
  The document's Span, From, Part.
  What stands between places; what is deleted in two steps: plain.
  A line's row is laid anew in a document of one's own; the document's Count.
-/
import Derived.Test.YtafincmcmgedbaaGreatDoorCDocV
import Derived.Test.YtafincmcmgedbaaGreatDoorCDocK
import Derived.Test.YtafincmcmgedbaaGreatDoorCPureG
import Derived.Test.YtafincmcmgedbaaGreatDoorCDocU
import Derived.Test.YtafincmcmgedbaaGreatDoorCDocX
import Derived.BigGuardPart
import Derived.Laws.OwnMore

namespace Go.Proofs.YtafincmcmgedbaaGreatDoor
open Go.RowKit Go.Lib

set_option maxRecDepth 20000 in
set_option maxHeartbeats 4000000 in
theorem rdspan_any (v : Value) (l : List Lw) (p1 p2 q1 q2 : Int) (w : World) (h : DocAt w v l) (hf : Fine (pl l)) :
    Calls Tryz.prog 73 #[v, psV (p1, p2), psV (q1, q2)] w fun e w' => e = .returned (.bool (askedD (pl l) (p1, p2) (q1, q2))) ∧ Below w.heap.size w w' := by
  obtain ⟨a, c, rfl⟩ := h.s.len
  have cM : ∀ w1, Below w.heap.size w w1 → _ := fun w1 h1 => rdmay_any _ l w1 (h.below h1) hf
  have cI : ∀ w1 (x y : Int), Below w.heap.size w w1 → _ := fun w1 x y h1 => rdis_any _ l x y w1 (h.s.below h1) hf.len hf.cnt
  have cC := fun w1 => rdcmp_any p1 p2 q1 q2 w1
  have cP : ∀ w1, Below w.heap.size w w1 → _ := fun w1 h1 => cI w1 p1 p2 h1
  have cQ : ∀ w1, Below w.heap.size w w1 → _ := fun w1 h1 => cI w1 q1 q2 h1
  unfold askedD
  obtain ⟨M, hM⟩ : ∃ M, mayD (pl l) = M := ⟨_, rfl⟩
  obtain ⟨P, hP⟩ : ∃ P, isD (pl l) (p1, p2) = P := ⟨_, rfl⟩
  obtain ⟨Q, hQ⟩ : ∃ Q, isD (pl l) (q1, q2) = Q := ⟨_, rfl⟩
  obtain ⟨C, hC⟩ : ∃ C, cmpP (p1, p2) (q1, q2) = C := ⟨_, rfl⟩
  rw [hM] at cM
  rw [hP] at cP
  rw [hQ] at cQ
  rw [hC] at cC
  rw [hM, hP, hQ, hC]
  unfold psV at *
  dsimp only at *
  obtain ⟨n, hn⟩ : ∃ n, l.length = n := ⟨_, rfl⟩
  rw [hn] at cM cP cQ ⊢
  have A0 := Lib.hid ((ps_new w p1 p2).below (below_alloc1 _ (.cells #[.int .i64 q1, .int .i64 q2] 24)))
  have A1 := Lib.hid (ps_new (w.alloc (.cells #[.int .i64 p1, .int .i64 p2] 24)) q1 q2)
  rw [show (w.alloc (.cells #[.int .i64 p1, .int .i64 p2] 24)).heap.size = w.heap.size + 1 by simp] at A1
  have hX := Lib.hid (two_allocs w (.cells #[.int .i64 p1, .int .i64 p2] 24) (.cells #[.int .i64 q1, .int .i64 q2] 24))
  clear h hf cI hM hP hQ hC hn
  cases M <;> cases P <;> cases Q <;>
    (go_enter Tryz.func73, Tryz.ntmps73
     go_wp2_with (first
      | (go_at_call 14; ((with_reducible refine (cM _ hX.out).mono ?_); rintro e w2 ⟨rfl, hk⟩; have KW := Lib.hid hk; have hb := hX.out.trans (hk.mono hX.out.size); obtain ⟨_, y0, y1, _, _⟩ := A0.out.below hk; obtain ⟨_, z0, z1, _, _⟩ := A1.out.below hk; clear hk))
      | (go_at_call 20; ((with_reducible refine (cP _ hb).mono ?_); rintro e w3 ⟨rfl, h3⟩; have hk := KW.out.trans (h3.mono KW.out.size); clear KW; have KW := Lib.hid hk; replace hb := hX.out.trans (hk.mono hX.out.size); obtain ⟨_, y0, y1, _, _⟩ := A0.out.below hk; obtain ⟨_, z0, z1, _, _⟩ := A1.out.below hk; clear hk h3))
      | (go_at_call 20; ((with_reducible refine (cQ _ hb).mono ?_); rintro e w3 ⟨rfl, h3⟩; have hk := KW.out.trans (h3.mono KW.out.size); clear KW; have KW := Lib.hid hk; replace hb := hX.out.trans (hk.mono hX.out.size); obtain ⟨_, y0, y1, _, _⟩ := A0.out.below hk; obtain ⟨_, z0, z1, _, _⟩ := A1.out.below hk; clear hk h3))
      | (go_at_call 24; ((with_reducible refine (cC _).mono ?_); rintro e w3 ⟨rfl, h3⟩; replace hb := hb.trans (h3.mono hb.size))))
     go_ret
     exact ⟨ret_bool (by simp), hb⟩)


theorem rlframeA (x : Lw) (w : World) (h : LwAt w x) (hz : x.ln.ls.length ≤ 50000) :
    Calls Tryz.prog 57 #[aggL x] w fun e w' => ∃ y : Lw, e = .returned (aggL y) ∧ y.ln = lnWith x.ln [] ∧ MineLw w.heap.size w' y ∧ Below w.heap.size w w' := by
  refine (rlframe_any x.ln.q x.ln.k x.sl x.sc x.ln.ls x.ln.cs w h hz).mono ?_
  rintro e w' ⟨sl', sc', rfl, o, hb⟩
  obtain ⟨y, h1, h2, h3, h4⟩ := lw_of_own (q := x.ln.q) (k := x.ln.k) o
  exact ⟨y, by unfold aggL; rw [h1, h2, h3], h3, h4, hb⟩

set_option maxRecDepth 20000 in
set_option maxHeartbeats 8000000 in
theorem rdfrom_any (v : Value) (l : List Lw) (al aa bl ba i : Nat) (w : World) (h : SliceAt w v l) (hi : i < l.length) :
    Calls Tryz.prog 74 #[v, psV ((al : Int), (aa : Int)), psV ((bl : Int), (ba : Int)), .int .i64 (i : Int)] w fun e w' => e = .returned (.tuple #[.int .i64 (frN al aa i : Int), .int .i64 (toN (pl l) bl ba i : Int)]) ∧ Below w.heap.size w w' := by
  obtain ⟨a, c, rfl⟩ := h.len
  obtain ⟨b, o, rfl, e9, hlc, hcm, hbl, q, za, n1, zc, kk, ra, rc, x0, x1, x2, x3⟩ := slice_lies_cnt h hi
  unfold maxLen at hcm
  unfold frN toN psV
  dsimp only
  obtain ⟨m, hm⟩ : ∃ m, cnt (pl l) i = m := ⟨_, rfl⟩
  rw [hm] at x3 ⊢
  obtain ⟨n, hn⟩ : ∃ n, l.length = n := ⟨_, rfl⟩
  rw [hn] at hi hlc ⊢
  have hiI : (i : Int) < (n : Int) := by omega
  have hX := Lib.hid (two_allocs w (.cells #[.int .i64 (al : Int), .int .i64 (aa : Int)] 24) (.cells #[.int .i64 (bl : Int), .int .i64 (ba : Int)] 24))
  have hbn : ¬ b = w.heap.size := by omega
  clear h hm hn e9
  have hC : ((i = al ∧ (if i = al then aa else 0) = aa) ∨ (((i : Int) == (al : Int)) = false ∧ (if i = al then aa else 0) = 0)) ∧ ((i = bl ∧ (if i = bl then ba else m) = ba) ∨ (((i : Int) == (bl : Int)) = false ∧ (if i = bl then ba else m) = m)) := by
    refine ⟨?_, ?_⟩
    · by_cases e : i = al
      · exact .inl ⟨e, if_pos e⟩
      · exact .inr ⟨by simp; omega, if_neg e⟩
    · by_cases e : i = bl
      · exact .inl ⟨e, if_pos e⟩
      · exact .inr ⟨by simp; omega, if_neg e⟩
  obtain ⟨F, hF⟩ : ∃ F, (if i = al then aa else 0) = F := ⟨_, rfl⟩
  obtain ⟨T, hT⟩ : ∃ T, (if i = bl then ba else m) = T := ⟨_, rfl⟩
  rw [hF, hT] at hC
  rw [hF, hT]
  clear hF hT
  rcases hC with ⟨⟨rfl, rfl⟩ | ⟨e1, rfl⟩, ⟨rfl, rfl⟩ | ⟨e2, rfl⟩⟩
  all_goals
    (go_enter Tryz.func74, Tryz.ntmps74
     go_wp2
     go_quiet (fail)
     go_wp2
     go_ret2
     exact ⟨rfl, by (try rw [World.drewN_drewN]); first | exact hX.out | exact hX.out.trans ((below_draws _ _).mono hX.out.size) | exact hX.out.drew⟩)

def partP (d : Doc) (a b : Ps) : Doc × Int := if askedD d a b then (eachD d partU (strs d a.1.toNat a.2.toNat b.1.toNat b.2.toNat), 0) else ([], 1)

set_option maxRecDepth 20000 in
set_option maxHeartbeats 8000000 in
theorem rdpart_off (v : Value) (l : List Lw) (p1 p2 q1 q2 : Int) (w : World) (h : DocAt w v l) (hf : Fine (pl l)) (hA : askedD (pl l) (p1, p2) (q1, q2) = false) :
    Calls Tryz.prog 37 #[v, psV (p1, p2), psV (q1, q2)] w (DocE [] 1 w) := by
  refine Calls.mono ?_ (fun e w' h => docE_err h)
  obtain ⟨a, c, rfl⟩ := h.s.len
  have cA : ∀ w1, Below w.heap.size w w1 → _ := fun w1 h1 => rdspan_any _ l p1 p2 q1 q2 w1 (h.below h1) hf
  rw [hA] at cA
  obtain ⟨n, hn⟩ : ∃ n, l.length = n := ⟨_, rfl⟩
  rw [hn] at cA ⊢
  clear h hf hA hn
  unfold psV at *
  dsimp only at *
  have hX := Lib.hid (two_allocs w (.cells #[.int .i64 p1, .int .i64 p2] 24) (.cells #[.int .i64 q1, .int .i64 q2] 24))
  go_enter Tryz.func37, Tryz.ntmps37
  go_wp2_with (go_at_call 73; ((with_reducible refine (cA _ hX.out).mono ?_); rintro e w2 ⟨rfl, hk⟩; have hb := hX.out.trans (hk.mono hX.out.size)))
  go_ret2
  exact ⟨rfl, hb⟩

set_option maxRecDepth 40000 in
set_option maxHeartbeats 16000000 in
theorem rdpart_ok (v : Value) (l : List Lw) (al aa bl ba : Nat) (w : World) (h : DocAt w v l) (hf : Fine (pl l)) (hsp : Span (pl l) al aa bl ba) (hmay : mayD (pl l) = true) :
    Calls Tryz.prog 37 #[v, psV ((al : Int), (aa : Int)), psV ((bl : Int), (ba : Int))] w (DocE (eachD (pl l) partU (strs (pl l) al aa bl ba)) 0 w) := by
  obtain ⟨a, c, rfl⟩ := h.s.len
  have cA : ∀ w1, Below w.heap.size w w1 → _ := fun w1 h1 => rdspan_any _ l (al : Int) (aa : Int) (bl : Int) (ba : Int) w1 (h.below h1) hf
  rw [askedD_mk hsp hmay] at cA
  have hl := hf.len
  have hbl : bl < l.length := by have := hsp.hb; rwa [pl_length] at this
  have hab := hsp.hab
  have V := Lib.hid h
  have F := Lib.hid hf
  have SP := Lib.hid hsp
  have A0 := Lib.hid ((ps_new w (al : Int) (aa : Int)).below (below_alloc1 _ (.cells #[.int .i64 (bl : Int), .int .i64 (ba : Int)] 24)))
  have A1 := Lib.hid (ps_new (w.alloc (.cells #[.int .i64 (al : Int), .int .i64 (aa : Int)] 24)) (bl : Int) (ba : Int))
  rw [show (w.alloc (.cells #[.int .i64 (al : Int), .int .i64 (aa : Int)] 24)).heap.size = w.heap.size + 1 by simp] at A1
  have hX := Lib.hid (two_allocs w (.cells #[.int .i64 (al : Int), .int .i64 (aa : Int)] 24) (.cells #[.int .i64 (bl : Int), .int .i64 (ba : Int)] 24))
  unfold psV at *
  dsimp only at *
  obtain ⟨n, hn⟩ : ∃ n, l.length = n := ⟨_, rfl⟩
  rw [hn] at cA hl hbl V ⊢
  have N := Lib.hid hn
  obtain ⟨E, hE⟩ : ∃ E, eachD (pl l) partU (strs (pl l) al aa bl ba) = E := ⟨_, rfl⟩
  rw [hE]
  have HE : Hid (pl [] ++ eachD (pl l) partU (strsF (pl l) al aa bl ba al) = E) := Lib.hid hE
  clear h hf hsp hmay hn hE
  go_enter Tryz.func37, Tryz.ntmps37
  go_wp2_with (go_at_call 73; ((with_reducible refine (cA _ hX.out).mono ?_); rintro e w0 ⟨rfl, hk⟩; have hb0 := Lib.hid (hX.out.trans (hk.mono hX.out.size)); have B0 := Lib.hid (A0.out.below hk); have B1 := Lib.hid (A1.out.below hk); obtain ⟨_, y0, y1, _, _⟩ := B0.out; obtain ⟨_, z0, z1, _, _⟩ := B1.out; clear hk))
  go_loopw [8, 9, 10, 11, 12] (fun s i _ _ _ wr => ∃ (k : Nat) (m : List Lw), al ≤ k ∧ k ≤ bl + 1 ∧ m.length + al = k ∧ i = .int .i64 k ∧ Hid (pl m ++ eachD (pl l) partU (strsF (pl l) al aa bl ba k) = E) ∧ Hid (OwnD w0.heap.size wr s m) ∧ Hid (Below w.heap.size w wr) ∧ Hid (Below w0.heap.size w0 wr)) (fun _ i _ _ _ _ => bl + 1 - (RowKit.intOf i).toNat)
  case atStart => exact ⟨al, [], Nat.le_refl _, by omega, by simp, rfl, HE, Lib.hid (ownD_nil _ _), hb0, Lib.hid (Below.refl _ _)⟩
  case round =>
    obtain ⟨k, m, hk1, hk2, hml, rfl, HM, HO, HB, HB0⟩ := hrel
    obtain ⟨u, cap, rfl⟩ := own_len HO.out.own
    clear y0 y1 z0 z1
    obtain ⟨_, y0, y1, _, _⟩ := B0.out.below HB0.out
    obtain ⟨_, z0, z1, _, _⟩ := B1.out.below HB0.out
    by_cases hle : k ≤ bl
    · have hkl : k < l.length := by rw [N.out]; omega
      have hfit := SP.out.fit hk1 hle
      have hpg := pl_get l k hkl
      rw [cnt_pl hkl] at hfit
      have hVr := V.out.below HB.out
      have hst := strsF_step (pl l) al aa bl ba k hle
      have hats : atS (pl l) partU (stN (pl l) al aa bl ba k) = lnWith (l[k]!).ln (partU (l[k]!).ln.cs (frN al aa k) (toN (pl l) bl ba k)) := by
        unfold atS stN
        dsimp only
        rw [hpg]
      have hnx : eachD (pl l) partU (strsF (pl l) al aa bl ba k) = lnWith (l[k]!).ln (partU (l[k]!).ln.cs (frN al aa k) (toN (pl l) bl ba k)) :: eachD (pl l) partU (strsF (pl l) al aa bl ba (k + 1)) := by
        rw [hst]
        unfold eachD
        rw [List.map_cons, hats]
      have cFrom : ∀ w1, Below wr.heap.size wr w1 → _ := fun w1 h1 => rdfrom_any _ l al aa bl ba k w1 (hVr.s.below h1) hkl
      obtain ⟨b, o, c2, e, hlc, hcm, hbs, hcs⟩ := V.out.s.lies (by omega)
      rw [N.out] at e hlc
      obtain ⟨rfl, _, rfl⟩ := Value.slice.inj e
      unfold maxLen at hcm
      obtain ⟨q, za, n1, zc, kk, ra, n2, rc, x0, x1, x2, x3, k0, k1, k2, k3, k4, k5⟩ := hcs.get hkl
      have hxm := mem_get hkl
      have hxz := F.out.at hxm
      have hxw := hVr.n _ hxm
      obtain ⟨x, hx⟩ : ∃ x, l[k]! = x := ⟨_, rfl⟩
      rw [hx] at k0 k1 k2 k3 k4 k5 hxz hxw hfit hnx
      have hag : aggL x = .agg #[.int .i64 q, .slice za n1 zc, .int .i64 kk, .slice ra n2 rc] := by unfold aggL; rw [k0, k1, k2, k3]
      obtain ⟨f, hfr⟩ : ∃ f, frN al aa k = f := ⟨_, rfl⟩
      obtain ⟨t, hto⟩ : ∃ t, toN (pl l) bl ba k = t := ⟨_, rfl⟩
      rw [hfr, hto] at cFrom hfit hnx
      have hrow : RowAt wr (.slice ra n2 rc) x.ln.cs := by have := hxw.r; rwa [k3] at this
      obtain ⟨v1, s1, r1⟩ := slice_lh hrow f t hfit.1 hfit.2
      obtain ⟨a1, c1, e1⟩ := s1.len
      subst e1
      have cO : ∀ w1, Below wr.heap.size wr w1 → _ := fun w1 h1 => rown_any _ ((x.ln.cs.drop f).take (t - f)) w1 (s1.below h1) (by rw [List.length_take, List.length_drop]; have := hxz.2.1; omega)
      have cF : ∀ w1, Below wr.heap.size wr w1 → _ := fun w1 h1 => rlframeA x w1 (hxw.below h1) hxz.1
      rw [hag] at cF
      obtain ⟨R0, hR0⟩ : ∃ R0, (x.ln.cs.drop f).take (t - f) = R0 := ⟨_, rfl⟩
      have HNX : Hid (pl m ++ (lnWith x.ln R0 :: eachD (pl l) partU (strsF (pl l) al aa bl ba (k + 1))) = E) := Lib.hid (by
        rw [← HM.out, hnx, ← hR0]; rfl)
      rw [hR0] at cO r1
      obtain ⟨m1, hm1⟩ : ∃ m1, R0.length = m1 := ⟨_, rfl⟩
      rw [hm1] at cO r1
      have HL1 := Lib.hid hm1
      have hK : ∀ V', Below wr.heap.size wr V' → V'.cell? ⟨b, o + k * 4, none⟩ = some (.int .i64 q) ∧ V'.cell? ⟨b, o + k * 4 + 1, none⟩ = some (.slice za n1 zc) ∧ V'.cell? ⟨b, o + k * 4 + 2, none⟩ = some (.int .i64 kk) ∧ V'.cell? ⟨b, o + k * 4 + 3, none⟩ = some (.slice ra n2 rc) := fun V' hV' => by
        have hh := HB.out.trans (hV'.mono HB.out.size)
        exact ⟨(hh.cell (p := ⟨b, o + k * 4, none⟩) hbs).trans x0, (hh.cell (p := ⟨b, o + k * 4 + 1, none⟩) hbs).trans x1, (hh.cell (p := ⟨b, o + k * 4 + 2, none⟩) hbs).trans x2, (hh.cell (p := ⟨b, o + k * 4 + 3, none⟩) hbs).trans x3⟩
      have HK := Lib.hid hK
      have hbw : b < wr.heap.size := Nat.lt_of_lt_of_le hbs HB.out.size
      have hwr := HB.out.size
      have hwr0 := HB0.out.size
      have hww0 := hb0.out.size
      have hkI : (k : Int) < (n : Int) := by omega
      have hkJ : (k : Int) ≤ (bl : Int) := by omega
      have hmb : m.length ≤ 1000 := by omega
      have HML := Lib.hid hml
      have HA := Lib.hid hag
      clear x0 x1 x2 x3 k0 k1 k2 k3 k4 k5 hag hx hxm hxz hxw hrow s1 hK hcs e hVr hst hats hnx hfit hpg hR0 hm1 hfr hto HM hml hkl
      go_wp2_with (first
        | (go_at_call 74; ((with_reducible refine (cFrom _ (Below.refl _ _)).mono ?_); rintro e w2 ⟨rfl, hk⟩; have KW := Lib.hid hk; obtain ⟨x0, x1, x2, x3⟩ := HK.out _ hk; have hb2 : b < w2.heap.size := Nat.lt_of_lt_of_le hbw hk.size; clear hk y0 y1 z0 z1))
        | (go_at_call 57; ((with_reducible refine (cF _ KW.out).mono ?_); rintro e w3 ⟨yl, rfl, hyl, hy, h3⟩; have hk := KW.out.trans (h3.mono KW.out.size); have HY := Lib.hid (And.intro hyl (hy.mono KW.out.size)); clear x0 x1 x2 x3; obtain ⟨x0, x1, x2, x3⟩ := HK.out _ hk; have hb3 : b < w3.heap.size := Nat.lt_of_lt_of_le hbw hk.size; have hs3 := hk.size; have KW3 := Lib.hid hk; unfold aggL Lw.sl Lw.sc; clear hk h3 hyl hy KW))
        | (go_at_call 35; ((with_reducible refine (cO _ ?hb).mono ?_); (case hb => exact KW3.out.alloc hs3 _); rintro e w5 ⟨vr, rfl, own, hb5⟩; obtain ⟨rA, rC, hvr⟩ := own_len own; subst hvr; obtain ⟨_, l0, l1, l2, l3, g0, g1, g2, g3⟩ := (box_new w3 yl.ln.q yl.ln.k (.slice yl.za yl.ln.ls.length yl.zc) (.slice yl.ra yl.ln.cs.length yl.rc)).below hb5; obtain ⟨bx6, h36, hm6⟩ := left_laid (w3 := w3) HY.out.2 hb5 own (by rw [World.size_alloc]; omega) hs3; have hbw6 := KW3.out.trans (h36.mono hs3); have hm7 : MineLw wr.heap.size (w5.setCell ⟨w3.heap.size, 3, none⟩ (.slice rA R0.length rC)) ⟨yl.za, yl.zc, rA, rC, ⟨yl.ln.q, yl.ln.ls, yl.ln.k, R0⟩⟩ := hm6; have HL := Lib.hid (And.intro hbw6 hm7); have h1 := one_line (w5.setCell ⟨w3.heap.size, 3, none⟩ (.slice rA R0.length rC)) ⟨yl.za, yl.zc, rA, rC, ⟨yl.ln.q, yl.ln.ls, yl.ln.k, R0⟩⟩; dsimp only [Lw.sl, Lw.sc] at h1; rw [show (w5.setCell ⟨w3.heap.size, 3, none⟩ (.slice rA R0.length rC)).heap.size = w5.heap.size by simp [World.setCell]] at h1; have H1 := Lib.hid h1; obtain ⟨_, l0', l1', l2', l3', _, _, _, _⟩ := bx6; rw [HL1.out]; clear own hb5 h36 hbw6 hm6 hm7 h1 x0 x1 x2 x3))
        | (at_builtin; have hA9 := (HL.out.1.alloc HL.out.1.size (.cells #[.int .i64 yl.ln.q, .slice yl.za yl.ln.ls.length yl.zc, .int .i64 yl.ln.k, .slice rA R0.length rC] 46)); refine wpList_append_line rfl _ _ rfl w0.heap.size (.slice u m.length cap) m rfl (ownsRow_below HO.out.own (by rw [HL1.out] at hA9; exact hA9)) w5.heap.size ⟨yl.za, yl.zc, rA, rC, ⟨yl.ln.q, yl.ln.ls, yl.ln.k, R0⟩⟩ (by rw [← HL1.out]; rfl) (by rw [HL1.out] at H1; exact H1.out) (by omega) (by have := hA9.size; rw [HL1.out] at this; omega) (w5.heap.size + 1) (by simp [World.setCell]) ?_; intro g cap' w8 hown hgrow hat; have HG := Lib.hid (And.intro hown (And.intro hgrow hat)); have HA9 := Lib.hid hA9; clear hown hgrow hat hA9))
      go_roundw
      case rel =>
        obtain ⟨hown, hgrow, hat⟩ := HG.out
        have hA9 := HA9.out
        rw [HL1.out] at hA9
        refine ⟨k + 1, m ++ [⟨yl.za, yl.zc, rA, rC, ⟨yl.ln.q, yl.ln.ls, yl.ln.k, R0⟩⟩], by omega, by omega, by rw [List.length_append, List.length_singleton]; have := HML.out; omega, by go_num, Lib.hid ?_, Lib.hid ?_, Lib.hid ?_, Lib.hid ?_⟩
        · rw [pl_append, List.append_assoc, ← HNX.out]
          unfold pl
          rw [List.map_cons, List.map_nil]
          show _ ++ (_ :: _) = _
          rw [show (⟨yl.ln.q, yl.ln.ls, yl.ln.k, R0⟩ : Ln) = lnWith x.ln R0 by rw [HY.out.1]; rfl]
          rfl
        · have hm9 := HL.out.2.below (below_alloc1 _ (.cells #[.int .i64 yl.ln.q, .slice yl.za yl.ln.ls.length yl.zc, .int .i64 yl.ln.k, .slice rA R0.length rC] 46))
          rw [HL1.out] at hm9
          exact ownD_put HO.out hA9 hwr0 hm9 hown hgrow (by
            rcases hat with h | h
            · exact .inl h.symm
            · refine .inr (fun g' e => ?_)
              cases e
              rw [h]; simp [World.setCell])
        · exact (HB.out.trans (hA9.mono hwr)).grown hgrow (by have := hA9.size; omega) (fun r e => by have := (ownBlk HO.out.own e).1; omega)
        · exact (HB0.out.trans (hA9.mono hwr0)).grown hgrow (by have := hA9.size; omega) (fun r e => (ownBlk HO.out.own e).1)
      case measure => simp [RowKit.intOf]; omega
    · have hke : k = bl + 1 := by omega
      subst hke
      have HP : Hid (pl m = E) := Lib.hid (by
        rw [← HM.out, strsF_end _ _ _ _ _ _ (by omega)]
        unfold eachD
        rw [List.map_nil, List.append_nil])
      have hkJ : ¬ ((bl + 1 : Nat) : Int) ≤ (bl : Int) := by omega
      have hkK : (bl : Int) < ((bl + 1 : Nat) : Int) := by omega
      clear HM
      go_wp2
      go_ret2
      exact ⟨_, m, rfl, HO.out.mono hb0.out.size, HP.out, HB.out⟩

theorem rdpart_any (v : Value) (l : List Lw) (p1 p2 q1 q2 : Int) (w : World) (h : DocAt w v l) (hf : Fine (pl l)) :
    Calls Tryz.prog 37 #[v, psV (p1, p2), psV (q1, q2)] w (DocE (partP (pl l) (p1, p2) (q1, q2)).1 (partP (pl l) (p1, p2) (q1, q2)).2 w) := by
  unfold partP
  cases hA : askedD (pl l) (p1, p2) (q1, q2) with
  | false => exact rdpart_off v l p1 p2 q1 q2 w h hf hA
  | true =>
    obtain ⟨al, aa, bl, ba, hp, hq, hsp, hmay⟩ := askedD_span hA
    simp only [Prod.mk.injEq] at hp hq
    obtain ⟨rfl, rfl⟩ := hp
    obtain ⟨rfl, rfl⟩ := hq
    exact rdpart_ok v l al aa bl ba w h hf hsp hmay

/-- All cells of lines, one behind the other. -/
def flatD (d : Doc) : Row := d.flatMap (·.cs)
theorem flatD_cons (x : Ln) (d : Doc) : flatD (x :: d) = x.cs ++ flatD d := rfl
theorem flatD_append (d e : Doc) : flatD (d ++ e) = flatD d ++ flatD e := by unfold flatD; rw [List.flatMap_append]
theorem flatD_length : ∀ d : Doc, (flatD d).length = sizeD d
  | [] => rfl
  | x :: d => by rw [flatD_cons, List.length_append, flatD_length d, sizeD_cons]
def cellsB (d : Doc) (a b : Ps) : Row := flatD (partP d a b).1

set_option maxRecDepth 20000 in
set_option maxHeartbeats 8000000 in
theorem rdcells_any (v : Value) (l : List Lw) (p1 p2 q1 q2 : Int) (w : World) (h : DocAt w v l) (hf : Fine (pl l)) (hb9 : sizeD (partP (pl l) (p1, p2) (q1, q2)).1 ≤ 100000) :
    Calls Tryz.prog 49 #[v, psV (p1, p2), psV (q1, q2)] w (OwnPost (cellsB (pl l) (p1, p2) (q1, q2)) w) := by
  obtain ⟨a, c, rfl⟩ := h.s.len
  have hX := Lib.hid (two_allocs w (.cells #[.int .i64 p1, .int .i64 p2] 24) (.cells #[.int .i64 q1, .int .i64 q2] 24))
  have cP := rdpart_any _ l p1 p2 q1 q2 _ (h.below hX.out) hf
  unfold cellsB
  obtain ⟨⟨P, er⟩, hP⟩ : ∃ P, partP (pl l) (p1, p2) (q1, q2) = P := ⟨_, rfl⟩
  rw [hP] at cP hb9 ⊢
  obtain ⟨n0, hn0⟩ : ∃ n, l.length = n := ⟨_, rfl⟩
  rw [hn0] at cP ⊢
  dsimp only at cP hb9 ⊢
  unfold psV at *
  dsimp only at *
  clear h hf hP hn0
  go_enter Tryz.func49, Tryz.ntmps49
  go_wp2_with (go_at_call 37; ((with_reducible refine cP.mono ?_); rintro e w2 ⟨s, r, rfl, hown, hpr, hk⟩; have hb := Lib.hid (hX.out.trans (hk.mono hX.out.size)); have HD := Lib.hid hown.at; have HP := Lib.hid hpr; obtain ⟨u, cap, rfl⟩ := own_len hown.own; clear hown hpr hk))
  obtain ⟨n, hn⟩ : ∃ n, r.length = n := ⟨_, rfl⟩
  rw [hn] at HD ⊢
  have N := Lib.hid hn
  have HS : Hid (flatD (P.take 0) = []) := Lib.hid rfl
  clear hn
  go_loopw [9, 10] (fun s i wr => ∃ (k : Nat) (m : Row), k ≤ n ∧ i = .int .i64 k ∧ Hid (flatD (P.take k) = m) ∧ Hid (wr.ownsRow w2.heap.size 66 3 s m.length (cellsR m)) ∧ Hid (Below w2.heap.size w2 wr)) (fun _ i _ => n - (RowKit.intOf i).toNat)
  case atStart => exact ⟨0, [], Nat.zero_le _, rfl, HS, Lib.hid (World.ownsRow_nil _ _ _ _), Lib.hid (Below.refl _ _)⟩
  case round =>
    obtain ⟨k, m, hk, rfl, HM, HO, HB⟩ := hrel
    by_cases hlt : k < n
    · have hkl : k < r.length := by rw [N.out]; exact hlt
      obtain ⟨b, o, c2, e, hlc, hcm, hbl, hcs⟩ := HD.out.s.lies (by omega)
      rw [N.out] at e hlc
      obtain ⟨rfl, _, rfl⟩ := Value.slice.inj e
      unfold maxLen at hcm
      obtain ⟨q, za, n1, zc, kk, ra, n2, rc, x0, x1, x2, x3, k0, k1, k2, k3, k4, k5⟩ := (hcs.below hbl HB.out).get hkl
      have hrow : RowAt wr (.slice ra n2 rc) (r[k]!).ln.cs := by have := ((HD.out.n _ (mem_get hkl)).below HB.out).r; rwa [k3] at this
      have hpk : k < P.length := by rw [← HP.out, pl_length]; exact hkl
      have hnx : flatD (P.take (k + 1)) = m ++ (r[k]!).ln.cs := by
        rw [List.take_succ_eq_append_getElem hpk, flatD_append, HM.out]
        have e1 : P[k] = (r[k]!).ln := by rw [← pl_get r k hkl, HP.out, List.getElem!_eq_getElem?_getD, List.getElem?_eq_getElem hpk]; rfl
        rw [e1]
        simp [flatD]
      have hsz : (m ++ (r[k]!).ln.cs).length ≤ 100000 := by
        rw [← hnx, flatD_length]
        have := sizeD_take_le P (k + 1)
        omega
      obtain ⟨cs, hcs0⟩ : ∃ cs, (r[k]!).ln.cs = cs := ⟨_, rfl⟩
      rw [hcs0] at hrow hnx hsz
      rw [List.length_append] at hsz
      obtain ⟨a3, c3, e3⟩ := hrow.len
      obtain ⟨rfl, e4, rfl⟩ := Value.slice.inj e3
      obtain ⟨um, ucap, rfl⟩ := own_len HO.out
      have HR := Lib.hid hrow
      have HNX := Lib.hid hnx
      have HZ := Lib.hid hsz
      have hbw : b < wr.heap.size := Nat.lt_of_lt_of_le hbl HB.out.size
      have hws := HB.out.size
      have hkI : (k : Int) < (n : Int) := by omega
      obtain ⟨ml, hml⟩ : ∃ ml, m.length = ml := ⟨_, rfl⟩
      rw [hml] at HO ⊢
      have ML := Lib.hid hml
      have E4 := Lib.hid e4
      clear hcs e e3 e4 hkl hrow hpk hnx hsz hcs0 k0 k1 k2 k3 k4 k5 hml HM
      go_wp2_with (at_builtin; refine wpList_append_row rfl _ _ rfl w2.heap.size (.slice um ml ucap) m rfl (by rw [ML.out]; exact HO.out) _ cs rfl HR.out (by have := HZ.out; omega) hws ?_; intro s' w4 hown hgrow; have HG := Lib.hid (And.intro hown hgrow); clear hown hgrow)
      go_roundw
      case rel => exact ⟨k + 1, m ++ cs, hlt, by go_num, HNX, Lib.hid HG.out.1, Lib.hid (HB.out.grown HG.out.2 hws (fun g e => (HO.out.lt g e).1))⟩
      case measure => simp [RowKit.intOf]; omega
    · have hkn : k = n := by omega
      subst hkn
      have HZ : Hid (m = flatD P) := Lib.hid (by rw [← HM.out, List.take_of_length_le (by rw [← HP.out, pl_length, N.out]; omega)])
      clear HM
      go_wp2
      go_ret
      exact ⟨_, rfl, by rw [← HZ.out]; exact HO.out.mono hb.out.size, hb.out.trans (HB.out.mono hb.out.size)⟩

end Go.Proofs.YtafincmcmgedbaaGreatDoor

namespace Go.Proofs.YtafincmcmgedbaaGreatDoor
open Go.RowKit Go.Lib

theorem drop_split {d : Doc} {i : Nat} (h : i < d.length) : d.drop i = d[i]! :: d.drop (i + 1) := by
  rw [List.drop_eq_getElem_cons h, List.getElem!_eq_getElem?_getD, List.getElem?_eq_getElem h]; rfl
theorem flat_drop (d : Doc) (i : Nat) : (flatD d).drop (sizeD (d.take i)) = flatD (d.drop i) := by
  have e : flatD d = flatD (d.take i) ++ flatD (d.drop i) := by rw [← flatD_append, List.take_append_drop]
  rw [e, ← flatD_length, List.drop_append, List.drop_eq_nil_of_le (Nat.le_refl _), List.nil_append, Nat.sub_self, List.drop_zero]
theorem flat_at {d : Doc} {i f : Nat} (h : i < d.length) (hf : f ≤ cnt d i) : (flatD d).drop (sizeD (d.take i) + f) = (d[i]!).cs.drop f ++ flatD (d.drop (i + 1)) := by
  have e := flat_drop d i
  rw [← List.drop_drop, e, drop_split h, flatD_cons, List.drop_append]
  have hz : f - (d[i]!).cs.length = 0 := by unfold cnt at hf; omega
  rw [hz, List.drop_zero]
/-- So many cells stand ahead of a place. -/
def co (d : Doc) (i k : Nat) : Nat := sizeD (d.take i) + k
theorem co_le {d : Doc} {al aa bl ba : Nat} (h : Span d al aa bl ba) : co d al aa ≤ co d bl ba := by
  unfold co
  by_cases e : al = bl
  · subst e; have := h.one rfl; omega
  · have hab := h.hab
    have h1 := sizeD_take_mono d (show al + 1 ≤ bl by omega)
    rw [sizeD_next (by have := h.hb; omega)] at h1
    have := h.hka
    omega
theorem between_flat {d : Doc} {al aa bl ba : Nat} (h : Span d al aa bl ba) : ∀ n i, al ≤ i → i ≤ bl → bl - i ≤ n →
    flatD (eachD d partU (strsF d al aa bl ba i)) = ((flatD d).drop (sizeD (d.take i) + frN al aa i)).take (co d bl ba - (sizeD (d.take i) + frN al aa i))
  | n, i, hi, hb, hn => by
    have hbl := h.hb
    have hil : i < d.length := by omega
    obtain ⟨f1, f2⟩ := h.fit hi hb
    rw [strsF_step _ _ _ _ _ _ hb, flat_at hil (by omega)]
    have hats : atS d partU (stN d al aa bl ba i) = lnWith d[i]! (partU (d[i]!).cs (frN al aa i) (toN d bl ba i)) := rfl
    have hun : eachD d partU (stN d al aa bl ba i :: strsF d al aa bl ba (i + 1)) = lnWith d[i]! (partU (d[i]!).cs (frN al aa i) (toN d bl ba i)) :: eachD d partU (strsF d al aa bl ba (i + 1)) := rfl
    rw [hun, flatD_cons]
    show partU (d[i]!).cs (frN al aa i) (toN d bl ba i) ++ _ = _
    by_cases e : i = bl
    · subst e
      rw [strsF_end _ _ _ _ _ _ (by omega)]
      have ht : toN d i ba i = ba := if_pos rfl
      rw [ht] at f1 f2 ⊢
      have hz : co d i ba - (sizeD (d.take i) + frN al aa i) = ba - frN al aa i := by unfold co; omega
      rw [hz, List.take_append_of_le_length (by rw [List.length_drop]; unfold cnt at f2; omega)]
      show _ ++ [] = _
      rw [List.append_nil]
      rfl
    · have ht : toN d bl ba i = cnt d i := if_neg e
      have hf : frN al aa (i + 1) = 0 := if_neg (by omega)
      cases n with
      | zero => omega
      | succ n =>
        have ih := between_flat h n (i + 1) (by omega) (by omega) (by omega)
        simp only [hf, Nat.add_zero] at ih
        rw [flat_drop] at ih
        rw [ht] at f1 ⊢
        rw [ih]
        have hp : partU (d[i]!).cs (frN al aa i) (cnt d i) = (d[i]!).cs.drop (frN al aa i) := by
          unfold partU cnt
          rw [List.take_of_length_le (by rw [List.length_drop]; exact Nat.le_refl _)]
        rw [hp]
        have h1 := sizeD_take_mono d (show i + 1 ≤ bl by omega)
        have h2 := sizeD_next hil
        have hl : ((d[i]!).cs.drop (frN al aa i)).length = cnt d i - frN al aa i := by rw [List.length_drop]; rfl
        have ht2 : ((d[i]!).cs.drop (frN al aa i)).take (co d bl ba - (sizeD (d.take i) + frN al aa i)) = (d[i]!).cs.drop (frN al aa i) := List.take_of_length_le (by rw [hl]; unfold co; omega)
        rw [List.take_append, ht2, hl, show co d bl ba - (sizeD (d.take i) + frN al aa i) - (cnt d i - frN al aa i) = co d bl ba - sizeD (d.take (i + 1)) by unfold co; omega]
theorem cells_is {d : Doc} {al aa bl ba : Nat} (h : Span d al aa bl ba) (hm : mayD d = true) : cellsB d ((al : Int), (aa : Int)) ((bl : Int), (ba : Int)) = ((flatD d).drop (co d al aa)).take (co d bl ba - co d al aa) := by
  unfold cellsB partP
  rw [askedD_mk h hm]
  have := between_flat h bl al (Nat.le_refl _) h.hab (by omega)
  have hf : frN al aa al = aa := if_pos rfl
  rw [hf] at this
  exact this
theorem cells_split {d : Doc} {al aa bl ba cl ca : Nat} (h1 : Span d al aa bl ba) (h2 : Span d bl ba cl ca) (h3 : Span d al aa cl ca) (hm : mayD d = true) :
    cellsB d ((al : Int), (aa : Int)) ((cl : Int), (ca : Int)) = cellsB d ((al : Int), (aa : Int)) ((bl : Int), (ba : Int)) ++ cellsB d ((bl : Int), (ba : Int)) ((cl : Int), (ca : Int)) := by
  rw [cells_is h1 hm, cells_is h2 hm, cells_is h3 hm]
  have a := co_le h1
  have b := co_le h2
  obtain ⟨m, hm1⟩ : ∃ m, co d bl ba = co d al aa + m := ⟨co d bl ba - co d al aa, by omega⟩
  obtain ⟨k, hk⟩ : ∃ k, co d cl ca = co d bl ba + k := ⟨co d cl ca - co d bl ba, by omega⟩
  rw [hk, hm1, show co d al aa + m + k - co d al aa = m + k by omega, show co d al aa + m - co d al aa = m by omega, show co d al aa + m + k - (co d al aa + m) = k by omega, List.take_add, List.drop_drop]
theorem Span.join {d : Doc} {al aa bl ba cl ca : Nat} (h1 : Span d al aa bl ba) (h2 : Span d bl ba cl ca) : Span d al aa cl ca :=
  ⟨h2.hb, Nat.le_trans h1.hab h2.hab, h1.hka, h2.hkb, fun e => by
    have a := h1.hab
    have b := h2.hab
    have e1 : al = bl := by omega
    have e2 : bl = cl := by omega
    exact Nat.le_trans (h1.one e1) (h2.one e2)⟩
theorem flat_count (d : Doc) : ∀ ss : List St, (∀ s ∈ ss, s.2.2 ≤ (d[s.1]!).cs.length) → (flatD (eachD d partU ss)).length = countL ss
  | [], _ => rfl
  | s :: ss, h => by
    have ih := flat_count d ss (fun x hx => h x (List.mem_cons_of_mem _ hx))
    have h0 := h s List.mem_cons_self
    have e : eachD d partU (s :: ss) = atS d partU s :: eachD d partU ss := rfl
    rw [e, flatD_cons, List.length_append, ih]
    show (partU (d[s.1]!).cs s.2.1 s.2.2).length + _ = _
    unfold countL partU
    rw [List.map_cons, List.sum_cons, List.length_take, List.length_drop]
    omega
theorem cells_count {d : Doc} {al aa bl ba : Nat} (h : Span d al aa bl ba) (hm : mayD d = true) : (cellsB d ((al : Int), (aa : Int)) ((bl : Int), (ba : Int))).length = countA d ((al : Int), (aa : Int)) ((bl : Int), (ba : Int)) := by
  unfold cellsB partP countA
  rw [askedD_mk h hm]
  refine flat_count d _ (fun s hs => ?_)
  obtain ⟨m1, m2, m3⟩ := strs_mem hs
  have := (h.fit m1 m2).2
  have e : s.2.2 = toN d bl ba s.1 := congrArg (·.2.2) m3
  rw [e]
  exact this
theorem part_size {d : Doc} {al aa bl ba : Nat} (h : Span d al aa bl ba) (hm : mayD d = true) : sizeD (partP d ((al : Int), (aa : Int)) ((bl : Int), (ba : Int))).1 ≤ sizeD d := by
  have h1 := cells_count h hm
  unfold cellsB at h1
  rw [flatD_length] at h1
  rw [h1]
  unfold countA
  rw [askedD_mk h hm]
  exact countD_le h

/-! ### Delete -/
theorem at_mid (A D : Doc) (x : Ln) : (A ++ [x] ++ D)[A.length]! = x := by
  rw [List.append_assoc, List.getElem!_eq_getElem?_getD, List.getElem?_append_right (Nat.le_refl _), Nat.sub_self]; rfl
theorem at_low (A D : Doc) (i : Nat) (h : i < A.length) : (A ++ D)[i]! = A[i]! := by
  rw [List.getElem!_eq_getElem?_getD, List.getElem!_eq_getElem?_getD, List.getElem?_append_left h]
theorem take_at (d : Doc) (i k : Nat) (h : i < k) : (d.take k)[i]! = d[i]! := by
  rw [List.getElem!_eq_getElem?_getD, List.getElem!_eq_getElem?_getD, List.getElem?_take_of_lt h]
def midL (d : Doc) (bl ba cl ca : Nat) : Ln := lnWith d[bl]! ((d[bl]!).cs.take ba ++ (d[cl]!).cs.drop ca)
theorem delete_eq (d : Doc) (bl ba cl ca : Nat) : deleteD d bl ba cl ca = d.take bl ++ [midL d bl ba cl ca] ++ d.drop (cl + 1) := rfl
theorem delete_line {d : Doc} {bl ba cl ca : Nat} (h : Span d bl ba cl ca) : (deleteD d bl ba cl ca)[bl]! = midL d bl ba cl ca := by
  have hl : (d.take bl).length = bl := by rw [List.length_take]; have := h.hab; have := h.hb; omega
  have := at_mid (d.take bl) (d.drop (cl + 1)) (midL d bl ba cl ca)
  rw [hl] at this
  exact this
theorem delete_low {d : Doc} {bl ba cl ca : Nat} (h : Span d bl ba cl ca) {i : Nat} (hi : i < bl) : (deleteD d bl ba cl ca)[i]! = d[i]! := by
  have hl : (d.take bl).length = bl := by rw [List.length_take]; have := h.hab; have := h.hb; omega
  rw [delete_eq, List.append_assoc, at_low _ _ _ (by omega), take_at _ _ _ hi]
theorem delete_length {d : Doc} {bl ba cl ca : Nat} (h : Span d bl ba cl ca) : (deleteD d bl ba cl ca).length + (cl - bl) = d.length := by
  have h1 := h.hab
  have h2 := h.hb
  rw [delete_eq, List.length_append, List.length_append, List.length_take, List.length_drop, List.length_singleton]
  omega
theorem span_delete {d : Doc} {al aa bl ba cl ca : Nat} (h1 : Span d al aa bl ba) (h2 : Span d bl ba cl ca) : Span (deleteD d bl ba cl ca) al aa bl ba := by
  have hl := delete_length h2
  have hb2 := h2.hb
  have hab2 := h2.hab
  have hkb := h1.hkb
  have hbc : ba ≤ cnt (deleteD d bl ba cl ca) bl := by
    unfold cnt
    rw [delete_line h2]
    show ba ≤ (_ ++ _ : Row).length
    rw [List.length_append, List.length_take]
    unfold cnt at hkb
    omega
  refine ⟨by omega, h1.hab, ?_, hbc, h1.one⟩
  by_cases e : al = bl
  · subst e; exact Nat.le_trans (h1.one rfl) hbc
  · have := h1.hab
    unfold cnt
    rw [delete_low h2 (by omega)]
    exact h1.hka
theorem delete_two {d : Doc} {al aa bl ba cl ca : Nat} (h1 : Span d al aa bl ba) (h2 : Span d bl ba cl ca) : deleteD (deleteD d bl ba cl ca) al aa bl ba = deleteD d al aa cl ca := by
  have hab := h1.hab
  have hbc := h2.hab
  have hcl := h2.hb
  have hl : (d.take bl).length = bl := by rw [List.length_take]; omega
  have hkb := h1.hkb
  rw [delete_eq (deleteD d bl ba cl ca), delete_eq d al]
  have e1 : (deleteD d bl ba cl ca).take al = d.take al := by
    rw [delete_eq, List.append_assoc, List.take_append_of_le_length (by omega), List.take_take, Nat.min_eq_left hab]
  have e2 : (deleteD d bl ba cl ca).drop (bl + 1) = d.drop (cl + 1) := by
    have hl2 : (d.take bl ++ [midL d bl ba cl ca]).length = bl + 1 := by rw [List.length_append, hl]; rfl
    rw [delete_eq, List.drop_append, List.drop_eq_nil_of_le (by rw [hl2]; exact Nat.le_refl _), List.nil_append, hl2, Nat.sub_self, List.drop_zero]
  have e3 : midL (deleteD d bl ba cl ca) al aa bl ba = midL d al aa cl ca := by
    unfold midL
    rw [delete_line h2]
    have eb : (midL d bl ba cl ca).cs.drop ba = (d[cl]!).cs.drop ca := by
      show ((d[bl]!).cs.take ba ++ (d[cl]!).cs.drop ca).drop ba = _
      have hz : ((d[bl]!).cs.take ba).length = ba := by rw [List.length_take]; unfold cnt at hkb; omega
      rw [List.drop_append, List.drop_eq_nil_of_le (by rw [hz]; exact Nat.le_refl _), List.nil_append, hz, Nat.sub_self, List.drop_zero]
    rw [eb]
    by_cases e : al = bl
    · subst e
      rw [delete_line h2]
      have h3 := h1.one rfl
      show lnWith (midL d al ba cl ca) (((d[al]!).cs.take ba ++ (d[cl]!).cs.drop ca).take aa ++ _) = _
      rw [List.take_append_of_le_length (by rw [List.length_take]; unfold cnt at hkb; omega), List.take_take, Nat.min_eq_left h3]
      rfl
    · rw [delete_low h2 (by omega)]
  rw [e1, e2, e3]
theorem mem_drop_ln {d : Doc} {i : Nat} {x : Ln} (h : x ∈ d.drop i) : x ∈ d := List.mem_of_mem_drop h
theorem at_mem {d : Doc} {i : Nat} (h : i < d.length) : d[i]! ∈ d := by
  rw [List.getElem!_eq_getElem?_getD, List.getElem?_eq_getElem h]; exact List.getElem_mem h
theorem delete_mem {d : Doc} {bl ba cl ca : Nat} {x : Ln} (hx : x ∈ deleteD d bl ba cl ca) : x ∈ d ∨ x = midL d bl ba cl ca := by
  rw [delete_eq] at hx
  rcases List.mem_append.1 hx with hx | hx
  · rcases List.mem_append.1 hx with hx | hx
    · exact .inl (List.mem_of_mem_take hx)
    · exact .inr (List.mem_singleton.1 hx)
  · exact .inl (List.mem_of_mem_drop hx)
theorem mid_cell {d : Doc} {bl ba cl ca : Nat} {c : Ce} (hc : c ∈ (midL d bl ba cl ca).cs) : c ∈ (d[bl]!).cs ∨ c ∈ (d[cl]!).cs := by
  rcases List.mem_append.1 (show c ∈ (d[bl]!).cs.take ba ++ (d[cl]!).cs.drop ca from hc) with h | h
  · exact .inl (List.mem_of_mem_take h)
  · exact .inr (List.mem_of_mem_drop h)
theorem size_delete {d : Doc} {bl ba cl ca : Nat} (h : Span d bl ba cl ca) : sizeD (deleteD d bl ba cl ca) + (co d cl ca - co d bl ba) = sizeD d := by
  have hab := h.hab
  have hcl := h.hb
  have hle := co_le h
  have h1 := sizeD_next hcl
  have h2 : sizeD d = sizeD (d.take (cl + 1)) + sizeD (d.drop (cl + 1)) := by rw [← sizeD_append, List.take_append_drop]
  have hka := h.hka
  have hkb := h.hkb
  rw [delete_eq, sizeD_append, sizeD_append]
  have e : sizeD [midL d bl ba cl ca] = ba + (cnt d cl - ca) := by
    show (((d[bl]!).cs.take ba ++ (d[cl]!).cs.drop ca).length + 0 : Nat) = _
    unfold cnt at hka ⊢
    rw [List.length_append, List.length_take, List.length_drop]
    omega
  rw [e]
  unfold co at hle ⊢
  omega
theorem may_delete {d : Doc} {bl ba cl ca : Nat} (h : Span d bl ba cl ca) (hm : mayD d = true) : mayD (deleteD d bl ba cl ca) = true := by
  obtain ⟨m1, m2, m3⟩ := mayD_len hm
  have hl := delete_length h
  have hs := size_delete h
  have hab := h.hab
  have hcl := h.hb
  unfold mayD
  rw [decide_eq_true (show 1 ≤ (deleteD d bl ba cl ca).length ∧ (deleteD d bl ba cl ca).length ≤ 200 by omega), decide_eq_true (show sizeD (deleteD d bl ba cl ca) ≤ 4000 by omega), Bool.true_and, Bool.true_and, List.all_eq_true]
  intro x hx
  rcases delete_mem hx with hx | rfl
  · exact mayD_mem hm hx
  · have hb := mayD_mem hm (at_mem (show bl < d.length by omega))
    have hc := mayD_mem hm (at_mem hcl)
    unfold mayS at hb hc ⊢
    simp only [Bool.and_eq_true] at hb hc ⊢
    refine ⟨hb.1, ?_⟩
    unfold mayR
    rw [List.all_eq_true]
    intro c hcc
    rcases mid_cell hcc with h1 | h1
    · exact List.all_eq_true.1 hb.2 c h1
    · exact List.all_eq_true.1 hc.2 c h1
theorem fair_of_mem {l m : Row} (h : ∀ c ∈ m, c ∈ l) (hf : Fair l) : Fair m := fun k hk => by
  have hm : m[k]! ∈ m := by rw [List.getElem!_eq_getElem?_getD, List.getElem?_eq_getElem hk]; exact List.getElem_mem hk
  obtain ⟨j, hj, e⟩ := List.mem_iff_getElem.1 (h _ hm)
  have := hf j hj
  rw [List.getElem!_eq_getElem?_getD, List.getElem?_eq_getElem hj] at this
  rw [← e]
  exact this
theorem fine_delete {d : Doc} {bl ba cl ca : Nat} (h : Span d bl ba cl ca) (hf : Fine d) (hm : mayD d = true) : Fine (deleteD d bl ba cl ca) := by
  have hl := delete_length h
  have hs := size_delete h
  have hab := h.hab
  have hcl := h.hb
  obtain ⟨m1, m2, m3⟩ := mayD_len hm
  refine ⟨by omega, fun x hx => ?_, by omega⟩
  rcases delete_mem hx with hx | rfl
  · exact hf.z x hx
  · have h1 := hf.z _ (at_mem (show bl < d.length by omega))
    have h2 := hf.z _ (at_mem hcl)
    refine ⟨h1.1, ?_, ?_⟩
    · show ((d[bl]!).cs.take ba ++ (d[cl]!).cs.drop ca).length ≤ 50000
      have a1 := cnt_le (d := d) (i := bl) (by omega)
      have a2 := cnt_le hcl
      unfold cnt at a1 a2
      rw [List.length_append, List.length_take, List.length_drop]
      omega
    · have f1 := h1.2.2
      have f2 := h2.2.2
      intro k hk
      have hmem : (midL d bl ba cl ca).cs[k]! ∈ (midL d bl ba cl ca).cs := by rw [List.getElem!_eq_getElem?_getD, List.getElem?_eq_getElem hk]; exact List.getElem_mem hk
      rcases mid_cell hmem with h3 | h3
      · obtain ⟨j, hj, e⟩ := List.mem_iff_getElem.1 h3
        have := f1 j hj
        rw [List.getElem!_eq_getElem?_getD, List.getElem?_eq_getElem hj] at this
        rw [← e]; exact this
      · obtain ⟨j, hj, e⟩ := List.mem_iff_getElem.1 h3
        have := f2 j hj
        rw [List.getElem!_eq_getElem?_getD, List.getElem?_eq_getElem hj] at this
        rw [← e]; exact this

end Go.Proofs.YtafincmcmgedbaaGreatDoor

namespace Go.Proofs.YtafincmcmgedbaaGreatDoor
open Go.RowKit Go.Lib

/-! ### a line's row is laid anew in a document of one's own -/
theorem rs_own_ne {w : World} {B e size n r : Nat} {v : Value} {xs : List Value} (h : w.ownsRow B e size v n xs) (hr : r < B) : v.ownBlock ≠ some r := by
  rcases h.2 with ⟨rfl, _⟩ | ⟨g, cap, cur, rfl, hB, _⟩
  · simp [Value.ownBlock]
  · intro e
    have : g = r := by simpa [Value.ownBlock] using e
    omega
def putRow (x : Lw) (rA : Option Addr) (rC : Nat) (r : Row) : Lw := ⟨x.za, x.zc, rA, rC, lnWith x.ln r⟩
theorem cellsD_put (rA : Option Addr) (rC : Nat) (r : Row) : ∀ (l : List Lw) (k : Nat), k < l.length → (cellsD l).set (k * 4 + 3) (.slice rA r.length rC) = cellsD (l.set k (putRow l[k]! rA rC r))
  | [], k, h => by simp at h
  | a :: l, 0, _ => rfl
  | a :: l, k + 1, h => by
    have ih := cellsD_put rA rC r l k (by simpa using h)
    have e1 : (k + 1) * 4 + 3 = k * 4 + 3 + 1 + 1 + 1 + 1 := by omega
    have e : cellsD (a :: l) = .int .i64 a.ln.q :: a.sl :: .int .i64 a.ln.k :: a.sc :: cellsD l := rfl
    have e2 : (a :: l)[k + 1]! = l[k]! := by simp
    rw [e, e1, e2]
    show _ = .int .i64 a.ln.q :: a.sl :: .int .i64 a.ln.k :: a.sc :: cellsD (l.set k (putRow l[k]! rA rC r))
    rw [← ih]
    rfl
theorem OwnD.putRow {B g n cap k : Nat} {w w2 : World} {m : List Lw} {rA : Option Addr} {rC : Nat} {r : Row} (h : OwnD B w (.slice (some ⟨g, 0, none⟩) n cap) m) (hn : m.length = n) (hb : Below w.heap.size w w2) (hB : B ≤ w.heap.size) (hk : k < m.length)
    (own : w2.ownsRow w.heap.size 66 3 (.slice rA r.length rC) r.length (cellsR r)) :
    OwnD B (w2.setCell ⟨g, k * 4 + 3, none⟩ (.slice rA r.length rC)) (.slice (some ⟨g, 0, none⟩) n cap) (m.set k (putRow m[k]! rA rC r)) ∧ Below B w2 (w2.setCell ⟨g, k * 4 + 3, none⟩ (.slice rA r.length rC)) := by
  subst hn
  obtain ⟨hg1, hg2⟩ := ownBlk h.own rfl
  have h2 := h.below hb
  obtain ⟨o2, _⟩ := h2.own.stored (k * 4 + 3) (.slice rA r.length rC)
  have hmem : m[k]! ∈ m := mem_get hk
  have hne : (Value.slice rA r.length rC).ownBlock ≠ some g := rs_own_ne own hg2
  have own2 := own_set2 (p := ⟨g, k * 4 + 3, none⟩) (u := .slice rA r.length rC) own hne
  have hy : MineLw B (w2.setCell ⟨g, k * 4 + 3, none⟩ (.slice rA r.length rC)) (Go.Proofs.YtafincmcmgedbaaGreatDoor.putRow m[k]! rA rC r) := by
    have h3 := (h2.n _ hmem).set (p := ⟨g, k * 4 + 3, none⟩) (h.ap _ hmem g rfl) (.slice rA r.length rC)
    exact ⟨h3.z, (mineR_of_own own2).mono hB (Nat.le_refl _)⟩
  refine ⟨⟨by rw [List.length_set, ← cellsD_put _ _ _ _ _ hk]; exact o2, fun x hx => ?_, fun x hx g' e => ?_⟩, (Below.refl B w2).setCell (p := ⟨g, k * 4 + 3, none⟩) hg1 _⟩
  · rcases List.mem_or_eq_of_mem_set hx with hx | rfl
    · exact (h2.n x hx).set (p := ⟨g, k * 4 + 3, none⟩) (h.ap x hx g rfl) _
    · exact hy
  · obtain rfl : g = g' := by simpa [Value.ownBlock] using e
    rcases List.mem_or_eq_of_mem_set hx with hx | rfl
    · exact h.ap x hx g rfl
    · rintro g' o (⟨e1, hl⟩ | ⟨e1, hl⟩)
      · exact h.ap _ hmem g rfl g' o (.inl ⟨e1, hl⟩)
      · intro e2
        subst e2
        have e3 : rA = some ⟨g', o, none⟩ := e1
        exact hne (by rw [e3]; rfl)
theorem pl_set (m : List Lw) (k : Nat) (y : Lw) : pl (m.set k y) = (pl m).set k y.ln := by unfold pl; rw [List.map_set]
theorem set_get (d : Doc) (k j : Nat) (x : Ln) (hk : k < d.length) : (d.set k x)[j]! = if j = k then x else d[j]! := by
  rw [List.getElem!_eq_getElem?_getD, List.getElem?_set]
  by_cases e : k = j
  · subst e
    rw [if_pos rfl, if_pos rfl, if_pos hk]; rfl
  · rw [if_neg e, if_neg (fun h => e h.symm), List.getElem!_eq_getElem?_getD]
theorem doc_ext {d e : Doc} (hl : d.length = e.length) (h : ∀ j, j < d.length → d[j]! = e[j]!) : d = e := by
  refine List.ext_getElem hl (fun j h1 h2 => ?_)
  have := h j h1
  rw [List.getElem!_eq_getElem?_getD, List.getElem!_eq_getElem?_getD, List.getElem?_eq_getElem h1, List.getElem?_eq_getElem h2] at this
  exact this

theorem each_len9 (d : Doc) (u : Row → Nat → Nat → Row) (al aa bl ba : Nat) : (eachD d u (strs d al aa bl ba)).length = bl + 1 - al := by unfold eachD; rw [List.length_map, strs_length]
/-! ### Count -/
theorem part_count (d : Doc) (p1 p2 q1 q2 : Int) : sizeD (partP d (p1, p2) (q1, q2)).1 = countA d (p1, p2) (q1, q2) := by
  cases hA : askedD d (p1, p2) (q1, q2) with
  | false => unfold partP countA; rw [hA]; rfl
  | true =>
    obtain ⟨al, aa, bl, ba, hp, hq, hsp, hmay⟩ := askedD_span hA
    simp only [Prod.mk.injEq] at hp hq
    obtain ⟨rfl, rfl⟩ := hp
    obtain ⟨rfl, rfl⟩ := hq
    rw [← cells_count hsp hmay, ← flatD_length]
    rfl
theorem part_fine (d : Doc) (p1 p2 q1 q2 : Int) (hf : Fine d) : (partP d (p1, p2) (q1, q2)).1.length ≤ 1000 ∧ countA d (p1, p2) (q1, q2) ≤ 1000000 := by
  cases hA : askedD d (p1, p2) (q1, q2) with
  | false => unfold partP countA; rw [hA]; exact ⟨Nat.zero_le _, Nat.zero_le _⟩
  | true =>
    obtain ⟨al, aa, bl, ba, hp, hq, hsp, hmay⟩ := askedD_span hA
    simp only [Prod.mk.injEq] at hp hq
    obtain ⟨rfl, rfl⟩ := hp
    obtain ⟨rfl, rfl⟩ := hq
    have h1 := part_size hsp hmay
    rw [part_count] at h1
    have h2 := hf.s
    refine ⟨?_, by omega⟩
    unfold partP
    rw [askedD_mk hsp hmay]
    have h3 := hsp.hb
    have h4 := hf.n
    show (eachD d partU (strs d al aa bl ba)).length ≤ 1000
    rw [each_len9]
    omega
theorem part_le (d : Doc) (p1 p2 q1 q2 : Int) : countA d (p1, p2) (q1, q2) ≤ sizeD d := by
  cases hA : askedD d (p1, p2) (q1, q2) with
  | false => unfold countA; rw [hA]; exact Nat.zero_le _
  | true =>
    obtain ⟨al, aa, bl, ba, hp, hq, hsp, hmay⟩ := askedD_span hA
    simp only [Prod.mk.injEq] at hp hq
    obtain ⟨rfl, rfl⟩ := hp
    obtain ⟨rfl, rfl⟩ := hq
    have h1 := part_size hsp hmay
    rw [part_count] at h1
    exact h1

set_option maxRecDepth 20000 in
set_option maxHeartbeats 8000000 in
theorem rdcount_any (v : Value) (l : List Lw) (p1 p2 q1 q2 : Int) (w : World) (h : DocAt w v l) (hf : Fine (pl l)) :
    Calls Tryz.prog 86 #[v, psV (p1, p2), psV (q1, q2)] w fun e w' => e = .returned (.int .i64 ((countA (pl l) (p1, p2) (q1, q2) : Nat) : Int)) ∧ Below w.heap.size w w' := by
  obtain ⟨a, cc, rfl⟩ := h.s.len
  have hX := Lib.hid (two_allocs w (.cells #[.int .i64 p1, .int .i64 p2] 24) (.cells #[.int .i64 q1, .int .i64 q2] 24))
  have cP := rdpart_any _ l p1 p2 q1 q2 _ (h.below hX.out) hf
  obtain ⟨f1, f2⟩ := part_fine (pl l) p1 p2 q1 q2 hf
  have f3 := part_count (pl l) p1 p2 q1 q2
  obtain ⟨⟨P, er⟩, hP⟩ : ∃ P, partP (pl l) (p1, p2) (q1, q2) = P := ⟨_, rfl⟩
  obtain ⟨C, hC⟩ : ∃ C, countA (pl l) (p1, p2) (q1, q2) = C := ⟨_, rfl⟩
  rw [hP] at cP f1 f3
  rw [hC] at f2 f3 ⊢
  obtain ⟨n0, hn0⟩ : ∃ n, l.length = n := ⟨_, rfl⟩
  rw [hn0] at cP ⊢
  dsimp only at cP f1 f3
  have cS : ∀ (v2 : Value) (r : List Lw) w1, SliceAt w1 v2 r → pl r = P → Calls Tryz.prog 16 #[v2] w1 fun e w' => e = .returned (.int .i64 (C : Int)) ∧ Below w1.heap.size w1 w' := fun v2 r w1 h1 h2 => by
    have := rdsize_any v2 r w1 h1 (by rw [← pl_length, h2]; exact f1) (by rw [h2, f3]; exact f2)
    rw [h2, f3] at this
    exact this
  have CS := Lib.hid cS
  unfold psV at *
  dsimp only at *
  clear h hf hP hn0 hC f1 f2 f3 cS
  go_enter Tryz.func86, Tryz.ntmps86
  go_wp2_with (first
    | (go_at_call 37; ((with_reducible refine cP.mono ?_); rintro e w2 ⟨s, r, rfl, hown, hpr, hk⟩; have hb := Lib.hid (hX.out.trans (hk.mono hX.out.size)); have HD := Lib.hid hown.at; have HP := Lib.hid hpr; obtain ⟨u, cap, rfl⟩ := own_len hown.own; clear hown hpr hk))
    | (go_at_call 16; ((with_reducible refine (CS.out _ _ _ HD.out.s HP.out).mono ?_); rintro e w3 ⟨rfl, hk⟩; have hb3 := Lib.hid (hb.out.trans (hk.mono hb.out.size)); clear hk)))
  go_ret
  exact ⟨rfl, hb3.out⟩

end Go.Proofs.YtafincmcmgedbaaGreatDoor
