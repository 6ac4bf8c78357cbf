/-
  The program's Insert, Part of a document.
-/
import Derived.Test.YtehjfcefkiglaaaGreatDoorCDocN
import Derived.Test.YtehjfcefkiglaaaGreatDoorCDocY
import Derived.Test.YtehjfcefkiglaaaGreatDoorCFit

namespace Go.Proofs.YtehjfcefkiglaaaGreatDoor
open Go.RowKit Go.Lib

theorem dpart_any (v : Value) (l : List Lw) (p1 p2 q1 q2 : Int) (w : World) (h : DocAt w v l) (hf : Fine (pl l)) (hE : Tg.Env w) :
    Calls Tryz.prog 36 #[v, psV (p1, p2), psV (q1, q2)] w (DocE (partP (pl l) (p1, p2) (q1, q2)).1 (partP (pl l) (p1, p2) (q1, q2)).2 w) := by
  have hX := two_allocs w (.cells #[.int .i64 p1, .int .i64 p2] 24) (.cells #[.int .i64 q1, .int .i64 q2] 24)
  have hgf := enters_of Tryz.func72 (by kernel_rfl) rfl
  have cH : Calls Tryz.prog 71 #[v, psV (p1, p2), psV (q1, q2), .func (.func 72) #[] #[]] ((w.alloc (.cells #[.int .i64 p1, .int .i64 p2] 24)).alloc (.cells #[.int .i64 q1, .int .i64 q2] 24)) (DocE (partP (pl l) (p1, p2) (q1, q2)).1 (partP (pl l) (p1, p2) (q1, q2)).2 ((w.alloc (.cells #[.int .i64 p1, .int .i64 p2] 24)).alloc (.cells #[.int .i64 q1, .int .i64 q2] 24))) := by
    unfold partP
    cases hA : askedD (pl l) (p1, p2) (q1, q2) with
    | false => exact (deach_off v _ _ l p1 p2 q1 q2 _ (h.below hX) hf (hE.below hX) hA).mono (fun e w' h => docE_err h)
    | true =>
      obtain ⟨al, aa, bl, ba, hp, hq, hsp, hmay⟩ := askedD_span hA
      simp only [Prod.mk.injEq] at hp hq
      obtain ⟨rfl, rfl⟩ := hp
      obtain ⟨rfl, rfl⟩ := hq
      have hdo : DoOk 72 #[] partU ((w.alloc (.cells #[.int .i64 (al : Int), .int .i64 (aa : Int)] 24)).alloc (.cells #[.int .i64 (bl : Int), .int .i64 (ba : Int)] 24)) (pl l) := fun V vv cs f t hV hr hx hft ht => by
        obtain ⟨x, hx1, rfl⟩ := hx
        exact part_on vv x.cs f t V hr (hf.z x hx1).2.1 hft ht
      exact deach_ok v l al aa bl ba _ #[] partU _ (h.below hX) hf (hE.below hX) hsp hmay hdo hgf
  obtain ⟨a, c, rfl⟩ := h.s.len
  obtain ⟨⟨P, er⟩, hP⟩ : ∃ P, partP (pl l) (p1, p2) (q1, q2) = P := ⟨_, rfl⟩
  rw [hP] at cH ⊢
  obtain ⟨n, hn⟩ : ∃ n, l.length = n := ⟨_, rfl⟩
  rw [hn] at cH ⊢
  unfold psV at *
  dsimp only at *
  have HX := Lib.hid hX
  clear h hf hE hP hn hX hgf
  go_enter Tryz.func36, Tryz.ntmps36
  go_wp2_with (go_at_call 71; ((with_reducible refine cH.mono ?_); rintro e w2 ⟨s, r, rfl, hown, hpr, hk⟩; have HO := Lib.hid (And.intro hown (And.intro hpr hk)); clear hown hpr hk))
  go_ret2
  exact ⟨s, r, rfl, HO.out.1.mono HX.out.size, HO.out.2.1, HX.out.trans (HO.out.2.2.mono HX.out.size)⟩

def insP (d : Doc) (p : Ps) (m : Row) : Doc × Ps × Int :=
  if askedD d p p && mayR m then (if 4000 < sizeD d + m.length then ([], (0, 0), 10) else (insertD d p.1.toNat p.2.toNat m, (p.1, p.2 + m.length), 0)) else ([], (0, 0), 1)

set_option maxRecDepth 20000 in
set_option maxHeartbeats 16000000 in
theorem dinsert_err (v u : Value) (l : List Lw) (m : Row) (p1 p2 : Int) (w : World) (h : DocAt w v l) (hu : RowAt w u m) (hf : Fine (pl l)) (hE : Tg.Env w) (hm : m.length ≤ 50000) (hfm : Fair m)
    (hA : (askedD (pl l) (p1, p2) (p1, p2) && mayR m) = false ∨ 4000 < sizeD (pl l) + m.length) :
    Calls Tryz.prog 40 #[v, psV (p1, p2), u] w (DocPE [] (0, 0) (if (askedD (pl l) (p1, p2) (p1, p2) && mayR m) then 10 else 1) w) := by
  refine Calls.mono ?_ (fun e w' h => docPE_err h)
  obtain ⟨a, c, rfl⟩ := h.s.len
  have cA : ∀ w1, Below w.heap.size w w1 → _ := fun w1 h1 => dasked_any _ l p1 p2 p1 p2 w1 (h.below h1) hf (hE.below h1)
  have cM : ∀ w1, Below w.heap.size w w1 → _ := fun w1 h1 => mayRow_any u m w1 (hu.below h1) (by omega) hfm (hE.below h1)
  have cS : ∀ w1, Below w.heap.size w w1 → _ := fun w1 h1 => dsize_any _ l w1 (h.s.below h1) hf.len hf.s
  obtain ⟨a2, c2, rfl⟩ := hu.len
  have hsz := hf.s
  have P0 := Lib.hid ((ps_new w p1 p2).below (below_alloc1 _ (.cells #[.int .i64 0, .int .i64 0] 24)))
  have P1 := Lib.hid (ps_new (w.alloc (.cells #[.int .i64 p1, .int .i64 p2] 24)) 0 0)
  rw [show (w.alloc (.cells #[.int .i64 p1, .int .i64 p2] 24)).heap.size = w.heap.size + 1 by simp] at P1
  have hX := Lib.hid (two_allocs w (.cells #[.int .i64 p1, .int .i64 p2] 24) (.cells #[.int .i64 0, .int .i64 0] 24))
  obtain ⟨n, hn⟩ : ∃ n, l.length = n := ⟨_, rfl⟩
  obtain ⟨ml, hml⟩ : ∃ n, m.length = n := ⟨_, rfl⟩
  obtain ⟨S, hS⟩ : ∃ n, sizeD (pl l) = n := ⟨_, rfl⟩
  obtain ⟨A, hAe⟩ : ∃ A, askedD (pl l) (p1, p2) (p1, p2) = A := ⟨_, rfl⟩
  obtain ⟨M, hMe⟩ : ∃ A, mayR m = A := ⟨_, rfl⟩
  rw [hAe] at cA hA ⊢
  rw [hMe] at cM hA ⊢
  rw [hS] at cS hA hsz
  rw [hml] at cM hA hm ⊢
  rw [hn] at cA cS ⊢
  unfold psV at *
  dsimp only at *
  clear h hu hf hE hfm hn hml hS hAe hMe
  cases A with
  | false =>
    rw [Bool.false_and, if_neg (by decide)]
    clear hA
    go_enter Tryz.func40, Tryz.ntmps40
    go_wp2_with (go_at_call 75; ((with_reducible refine (cA _ hX.out).mono ?_); rintro e w2 ⟨rfl, hk⟩; have KW := Lib.hid hk; have hb := Lib.hid (hX.out.trans (hk.mono hX.out.size)); obtain ⟨_, y0, y1, f0, f1⟩ := P1.out.below hk; obtain ⟨_, x0, x1, _, _⟩ := P0.out.below hk; clear hk))
    exact bodyPost_ret (v := .tuple #[.slice none 0 0, .agg #[.int .i64 0, .int .i64 0], .int .i64 1]) (by simp [results, Tryz.results40, go_sem, *]) rfl ⟨rfl, (hb.out.setCell (p := ⟨w.heap.size + 1, 0, none⟩) (Nat.le_succ _) _).setCell (p := ⟨w.heap.size + 1, 1, none⟩) (Nat.le_succ _) _⟩
  | true =>
    cases M with
    | false =>
      rw [Bool.and_false, if_neg (by decide)]
      clear hA
      go_enter Tryz.func40, Tryz.ntmps40
      go_wp2_with (first
        | (go_at_call 75; ((with_reducible refine (cA _ hX.out).mono ?_); rintro e w2 ⟨rfl, hk⟩; have KW := Lib.hid hk; have hb := Lib.hid (hX.out.trans (hk.mono hX.out.size)); obtain ⟨_, y0, y1, f0, f1⟩ := P1.out.below hk; obtain ⟨_, x0, x1, _, _⟩ := P0.out.below hk; clear hk))
        | (go_at_call 79; ((with_reducible refine (cM _ hb.out).mono ?_); rintro e w3 ⟨rfl, hk⟩; have hd := Lib.hid (hb.out.trans (hk.mono hb.out.size)); have kd := Lib.hid (KW.out.trans (hk.mono KW.out.size)); clear y0 y1 f0 f1 x0 x1; obtain ⟨_, y0, y1, f0, f1⟩ := P1.out.below kd.out; obtain ⟨_, x0, x1, _, _⟩ := P0.out.below kd.out; clear hb KW; have hb := hd; have KW := kd; clear hd kd hk)))
      exact bodyPost_ret (v := .tuple #[.slice none 0 0, .agg #[.int .i64 0, .int .i64 0], .int .i64 1]) (by simp [results, Tryz.results40, go_sem, *]) rfl ⟨rfl, (hb.out.setCell (p := ⟨w.heap.size + 1, 0, none⟩) (Nat.le_succ _) _).setCell (p := ⟨w.heap.size + 1, 1, none⟩) (Nat.le_succ _) _⟩
    | true =>
      have hbig : 4000 < S + ml := by
        rcases hA with h1 | h1
        · cases h1
        · exact h1
      rw [Bool.and_true, if_pos rfl]
      have w1 : IntKind.i64.wrap (4000 - (S : Int)) = 4000 - (S : Int) := IntWalk.i64_in _ (by omega)
      have hI : 4000 - (S : Int) < (ml : Int) := by omega
      clear hA
      go_enter Tryz.func40, Tryz.ntmps40
      go_wp2_with (first
        | (go_at_call 75; ((with_reducible refine (cA _ hX.out).mono ?_); rintro e w2 ⟨rfl, hk⟩; have KW := Lib.hid hk; have hb := Lib.hid (hX.out.trans (hk.mono hX.out.size)); obtain ⟨_, y0, y1, f0, f1⟩ := P1.out.below hk; obtain ⟨_, x0, x1, _, _⟩ := P0.out.below hk; clear hk))
        | (go_at_call 79; ((with_reducible refine (cM _ hb.out).mono ?_); rintro e w3 ⟨rfl, hk⟩; have hd := Lib.hid (hb.out.trans (hk.mono hb.out.size)); have kd := Lib.hid (KW.out.trans (hk.mono KW.out.size)); clear y0 y1 f0 f1 x0 x1; obtain ⟨_, y0, y1, f0, f1⟩ := P1.out.below kd.out; obtain ⟨_, x0, x1, _, _⟩ := P0.out.below kd.out; clear hb KW; have hb := hd; have KW := kd; clear hd kd hk))
        | (go_at_call 15; ((with_reducible refine (cS _ hb.out).mono ?_); rintro e w4 ⟨rfl, hk⟩; have hd := Lib.hid (hb.out.trans (hk.mono hb.out.size)); have kd := Lib.hid (KW.out.trans (hk.mono KW.out.size)); clear y0 y1 f0 f1 x0 x1; obtain ⟨_, y0, y1, f0, f1⟩ := P1.out.below kd.out; obtain ⟨_, x0, x1, _, _⟩ := P0.out.below kd.out; clear hb KW; have hb := hd; have KW := kd; clear hd kd hk)))
      exact bodyPost_ret (v := .tuple #[.slice none 0 0, .agg #[.int .i64 0, .int .i64 0], .int .i64 10]) (by simp [results, Tryz.results40, go_sem, *]) rfl ⟨rfl, (hb.out.setCell (p := ⟨w.heap.size + 1, 0, none⟩) (Nat.le_succ _) _).setCell (p := ⟨w.heap.size + 1, 1, none⟩) (Nat.le_succ _) _⟩

set_option maxRecDepth 40000 in
set_option maxHeartbeats 32000000 in
theorem dinsert_ok (v u : Value) (l : List Lw) (m : Row) (i k : Nat) (w : World) (h : DocAt w v l) (hu : RowAt w u m) (hf : Fine (pl l)) (hE : Tg.Env w) (hm : m.length ≤ 50000) (hfm : Fair m)
    (hi : i < l.length) (hk : k ≤ cnt (pl l) i) (hmay : mayD (pl l) = true) (hmr : mayR m = true) (hbig : sizeD (pl l) + m.length ≤ 4000) :
    Calls Tryz.prog 40 #[v, psV ((i : Int), (k : Int)), u] w (DocPE (insertD (pl l) i k m) ((i : Int), (k : Int) + m.length) 0 w) := by
  obtain ⟨a, c, rfl⟩ := h.s.len
  have hX := Lib.hid (two_allocs w (.cells #[.int .i64 (i : Int), .int .i64 (k : Int)] 24) (.cells #[.int .i64 0, .int .i64 0] 24))
  have cA : ∀ w1, Below w.heap.size w w1 → _ := fun w1 h1 => dasked_any (.slice a l.length c) l (i : Int) (k : Int) (i : Int) (k : Int) w1 (h.below h1) hf (hE.below h1)
  rw [askedD_mk (bl := i) (ba := k) ⟨by rw [pl_length]; exact hi, Nat.le_refl _, hk, hk, fun _ => Nat.le_refl _⟩ hmay] at cA
  have cM : ∀ w1, Below w.heap.size w w1 → _ := fun w1 h1 => mayRow_any u m w1 (hu.below h1) (by omega) hfm (hE.below h1)
  have cS : ∀ w1, Below w.heap.size w w1 → _ := fun w1 h1 => dsize_any _ l w1 (h.s.below h1) hf.len hf.s
  rw [hmr] at cM
  rw [cnt_pl hi] at hk
  obtain ⟨a3, c3, e3⟩ := hu.len
  obtain ⟨b, o, q, za, n1, zc, kk, ra, n2, rc, rfl, _, hlc, hcm, hbs, x0, x1, x2, x3, hag, hlw, hr, hz1, hz2, hz3, hpg⟩ := lines_at h hf hi
  unfold maxLen at hcm
  obtain ⟨x, hx⟩ : ∃ x, l[i]! = x := ⟨_, rfl⟩
  rw [hx] at hag hlw hr hz1 hz2 hz3 hpg hk
  obtain ⟨v1, s1, r1⟩ := slice_h hr k hk
  obtain ⟨v2, s2, r2⟩ := slice_l hr k hk
  obtain ⟨a1, c1, e1⟩ := s1.len
  obtain ⟨a2, c2, e2⟩ := s2.len
  subst e1 e2
  have cF : ∀ w1, Below w.heap.size w w1 → _ := fun w1 h1 => lframeA x w1 (hlw.below h1) hz1
  rw [hag] at cF
  have cC : ∀ (w1 : World) (g : Nat), Below w.heap.size w w1 → w1.cell? ⟨g, 0, none⟩ = some (.slice a1 (x.ln.cs.take k).length c1) → w1.cell? ⟨g, 1, none⟩ = some u → w1.cell? ⟨g, 2, none⟩ = some (.slice a2 (x.ln.cs.drop k).length c2) → _ := fun w1 g h1 h2 h3 h4 => concat3 g _ _ _ (x.ln.cs.take k) m (x.ln.cs.drop k) w1 h2 h3 h4 (s1.below h1) (hu.below h1) (s2.below h1) (by rw [List.length_take, List.length_drop]; omega)
  obtain ⟨R0, hR0⟩ : ∃ R0, x.ln.cs.take k ++ m ++ x.ln.cs.drop k = R0 := ⟨_, rfl⟩
  rw [hR0] at cC
  have cR : ∀ (B : Nat) (w1 : World) (v2 : Value) (y : Lw), Below w.heap.size w w1 → SliceAt w1 v2 [y] → MineLw B w1 y → B ≤ w1.heap.size → _ := fun B w1 v2 y h1 h2 h3 h5 => dreplace_any (.slice (some ⟨b, o, none⟩) l.length c) v2 l [y] i k i k B w1 (h.below h1) hf hi (Nat.le_refl _) h2 (fun z hz => by obtain rfl := List.mem_singleton.1 hz; exact h3) (by simp) h5
  have hins : ∀ y : Lw, y.ln = lnWith x.ln R0 → replaceD (pl l) i i (pl [y]) = insertD (pl l) i k m := fun y hy => by
    unfold insertD pl
    rw [List.map_cons, List.map_nil, hy]
    have e1 : (List.map (fun x => x.ln) l)[i]! = x.ln := hpg
    rw [e1, hR0]
  obtain ⟨m1, hm1⟩ : ∃ m1, (x.ln.cs.take k).length = m1 := ⟨_, rfl⟩
  obtain ⟨m2, hm2⟩ : ∃ m1, (x.ln.cs.drop k).length = m1 := ⟨_, rfl⟩
  rw [hm1] at cC r1
  rw [hm2] at cC r2
  have hK : ∀ V', Below w.heap.size w V' → V'.cell? ⟨b, o + i * 4, none⟩ = some (.int .i64 q) ∧ V'.cell? ⟨b, o + i * 4 + 1, none⟩ = some (.slice za n1 zc) ∧ V'.cell? ⟨b, o + i * 4 + 2, none⟩ = some (.int .i64 kk) ∧ V'.cell? ⟨b, o + i * 4 + 3, none⟩ = some (.slice ra n2 rc) := fun V' hV' =>
    ⟨(hV'.cell (lt_of_cell' x0)).trans x0, (hV'.cell (lt_of_cell' x1)).trans x1, (hV'.cell (lt_of_cell' x2)).trans x2, (hV'.cell (lt_of_cell' x3)).trans x3⟩
  have HK := Lib.hid hK
  have HD := Lib.hid hins
  have P0 := Lib.hid ((ps_new w (i : Int) (k : Int)).below (below_alloc1 _ (.cells #[.int .i64 0, .int .i64 0] 24)))
  have P1 := Lib.hid (ps_new (w.alloc (.cells #[.int .i64 (i : Int), .int .i64 (k : Int)] 24)) 0 0)
  rw [show (w.alloc (.cells #[.int .i64 (i : Int), .int .i64 (k : Int)] 24)).heap.size = w.heap.size + 1 by simp] at P1
  unfold psV at *
  dsimp only at *
  have hln := hf.len
  obtain ⟨n, hn⟩ : ∃ n, l.length = n := ⟨_, rfl⟩
  obtain ⟨ml, hml⟩ : ∃ n, m.length = n := ⟨_, rfl⟩
  obtain ⟨Sz, hSz⟩ : ∃ n, sizeD (pl l) = n := ⟨_, rfl⟩
  rw [hml] at e3
  subst e3
  rw [hml, hSz] at hbig
  rw [hSz] at cS
  rw [hml] at hm ⊢
  rw [hn] at cA cR cS hlc hi hln ⊢
  have hiI : (i : Int) < (n : Int) := by omega
  have w1 : IntKind.i64.wrap (4000 - (Sz : Int)) = 4000 - (Sz : Int) := IntWalk.i64_in _ (by omega)
  have hI : ¬ 4000 - (Sz : Int) < (ml : Int) := by omega
  have w2a : IntKind.i64.wrap ((k : Int) + (ml : Int)) = (k : Int) + (ml : Int) := IntWalk.i64_in _ (by omega)
  have hkn2 : Hid (k ≤ 50000) := Lib.hid (by omega)
  clear h hu hf hE hfm hmay hmr hx hag hlw hr hz1 hz2 hz3 hpg s1 s2 hK hins x0 x1 x2 x3 hn hml hSz hR0 hm1 hm2 hk hln
  go_enter Tryz.func40, Tryz.ntmps40
  go_upto_region 6 with (first
    | (go_at_call 75; ((with_reducible refine (cA _ hX.out).mono ?_); rintro e w2 ⟨rfl, hk⟩; have KW := Lib.hid hk; have hb := Lib.hid (hX.out.trans (hk.mono hX.out.size)); obtain ⟨_, y0, y1, f0, f1⟩ := P1.out.below hk; obtain ⟨_, x0, x1, _, _⟩ := P0.out.below hk; clear hk))
    | (go_at_call 79; ((with_reducible refine (cM _ hb.out).mono ?_); rintro e w3 ⟨rfl, hk⟩; have hd := Lib.hid (hb.out.trans (hk.mono hb.out.size)); have kd := Lib.hid (KW.out.trans (hk.mono KW.out.size)); clear y0 y1 f0 f1 x0 x1; obtain ⟨_, y0, y1, f0, f1⟩ := P1.out.below kd.out; obtain ⟨_, x0, x1, _, _⟩ := P0.out.below kd.out; clear hb KW; have hb := hd; have KW := kd; clear hd kd hk))
    | (go_at_call 15; ((with_reducible refine (cS _ hb.out).mono ?_); rintro e w4 ⟨rfl, hk⟩; have hd := Lib.hid (hb.out.trans (hk.mono hb.out.size)); have kd := Lib.hid (KW.out.trans (hk.mono KW.out.size)); clear y0 y1 f0 f1 x0 x1; obtain ⟨_, y0, y1, f0, f1⟩ := P1.out.below kd.out; obtain ⟨_, x0, x1, _, _⟩ := P0.out.below kd.out; clear hb KW; have hb := hd; have KW := kd; clear hd kd hk)))
  obtain ⟨wE, hwE⟩ : ∃ W, w4 = W := ⟨_, rfl⟩
  subst hwE
  clear cA cM cS y0 y1 f0 f1
  obtain ⟨z0, z1, z2, z3⟩ := HK.out _ hb.out
  have hb4 : b < w4.heap.size := Nat.lt_of_lt_of_le hbs hb.out.size
  have hsE := hb.out.size
  have hKW4 := KW.out.size
  go_wp2_with (go_at_call 76; ((with_reducible refine (cF _ hb.out).mono ?_); rintro e w3 ⟨yl, rfl, hyl, hy, h3⟩; have hk := Lib.hid (KW.out.trans (h3.mono KW.out.size)); have HY := Lib.hid (And.intro hyl hy); have hd := Lib.hid (hb.out.trans (h3.mono hb.out.size)); have hs43 := h3.size; clear hb KW; have hb := hd; have KW := hk; unfold aggL Lw.sl Lw.sc; clear hk hd h3 hyl hy z0 z1 z2 z3 x0 x1))
  obtain ⟨W3, hW3⟩ : ∃ W3, w3.alloc (.cells #[.int .i64 yl.ln.q, .slice yl.za yl.ln.ls.length yl.zc, .int .i64 yl.ln.k, .slice yl.ra yl.ln.cs.length yl.rc] 46) = W3 := ⟨_, rfl⟩
  have hb3 := below_alloc1 w3 (.cells #[.int .i64 yl.ln.q, .slice yl.za yl.ln.ls.length yl.zc, .int .i64 yl.ln.k, .slice yl.ra yl.ln.cs.length yl.rc] 46)
  have hbx := box_new w3 yl.ln.q yl.ln.k (.slice yl.za yl.ln.ls.length yl.zc) (.slice yl.ra yl.ln.cs.length yl.rc)
  have hsW : W3.heap.size = w3.heap.size + 1 := by rw [← hW3, World.size_alloc]
  rw [hW3] at hb3 hbx ⊢
  have hbW : Below w.heap.size w W3 := hb.out.trans (hb3.mono hb.out.size)
  have hk3 := KW.out.trans (hb3.mono KW.out.size)
  obtain ⟨x0, x1, x2, x3⟩ := HK.out _ hbW
  obtain ⟨_, y0, y1, _, _⟩ := P0.out.below hk3
  have HB := Lib.hid (And.intro hbW (And.intro hk3 hbx))
  have HW3 := Lib.hid hW3
  have hbs3 : b < W3.heap.size := Nat.lt_of_lt_of_le hbs hbW.size
  clear hbW hk3 hbx hW3 hb3
  go_still_tail 19, (by kernel_rfl)
  change wpList _ _ _ _ _ W3.drew
  have hlt3 : w3.heap.size < W3.heap.size := by omega
  go_upto_region 8 with (go_at_call 77; ((with_reducible refine (cC _ _ ?hb ?c1 ?c2 ?c3).mono ?_); (case hb => exact (HB.out.1.alloc HB.out.1.size _).drew); (case c1 => exact (blk_new W3 _ _ _ 0 _ hsW rfl).1); (case c2 => exact (blk_new W3 _ _ _ 1 _ hsW rfl).1); (case c3 => exact (blk_new W3 _ _ _ 2 _ hsW rfl).1); rintro e w5 ⟨vr, rfl, own, hb5⟩; obtain ⟨rA, rC, hvr⟩ := own_len own; subst hvr; have h45 : Below W3.heap.size W3 w5 := ((Below.refl W3.heap.size W3).alloc (Nat.le_refl _) _).drew.trans (hb5.mono (by show W3.heap.size ≤ (W3.alloc _).heap.size; rw [World.size_alloc]; omega)); obtain ⟨_, l0, l1, l2, l3, g0, g1, g2, g3⟩ := HB.out.2.2.below h45; obtain ⟨bx6, h36, hm6⟩ := left_laid (B := w4.heap.size) HY.out.2 (by rw [HW3.out]; exact h45) own (by show w3.heap.size < (W3.alloc _).heap.size; rw [World.size_alloc]; omega) hs43; have HL := Lib.hid (And.intro bx6 (And.intro h36 hm6)); clear own hb5 h45 bx6 h36 hm6 x0 x1 x2 x3 y0 y1))
  obtain ⟨hbx, h36, hm7⟩ := HL.out
  have hbw6 := hb.out.trans (h36.mono hb.out.size)
  have hk6 := KW.out.trans (h36.mono KW.out.size)
  have A0 := Lib.hid (P0.out.below hk6)
  have A1 := Lib.hid (P1.out.below hk6)
  obtain ⟨WR, hWR⟩ : ∃ W, (w5.setCell ⟨w3.heap.size, 3, none⟩ (.slice rA R0.length rC)) = W := ⟨_, rfl⟩
  rw [hWR] at hbx h36 hm7 hbw6 hk6 A0 A1 ⊢
  have KS : Hid (∀ w', Below WR.heap.size WR w' → (w'.cell? ⟨w3.heap.size, 0, none⟩ = some (.int .i64 yl.ln.q) ∧ w'.cell? ⟨w3.heap.size, 1, none⟩ = some (.slice yl.za yl.ln.ls.length yl.zc) ∧ w'.cell? ⟨w3.heap.size, 2, none⟩ = some (.int .i64 yl.ln.k) ∧ w'.cell? ⟨w3.heap.size, 3, none⟩ = some (.slice rA R0.length rC) ∧ w'.cell? ⟨w.heap.size, 0, none⟩ = some (.int .i64 (i : Int)) ∧ w'.cell? ⟨w.heap.size, 1, none⟩ = some (.int .i64 (k : Int)) ∧ w'.frozen? ⟨w.heap.size + 1, 0, none⟩ = false ∧ w'.frozen? ⟨w.heap.size + 1, 1, none⟩ = false)) := Lib.hid (fun w' h => by
      obtain ⟨_, a0, a1, a2, a3, _⟩ := hbx.below h
      obtain ⟨_, c0, c1, _, _⟩ := A0.out.below h
      obtain ⟨_, _, _, d2, d3⟩ := A1.out.below h
      exact ⟨a0, a1, a2, a3, c0, c1, d2, d3⟩)
  have hS : (WR.cell? ⟨w3.heap.size, 0, none⟩ = some (.int .i64 yl.ln.q) ∧ WR.cell? ⟨w3.heap.size, 1, none⟩ = some (.slice yl.za yl.ln.ls.length yl.zc) ∧ WR.cell? ⟨w3.heap.size, 2, none⟩ = some (.int .i64 yl.ln.k) ∧ WR.cell? ⟨w3.heap.size, 3, none⟩ = some (.slice rA R0.length rC) ∧ WR.cell? ⟨w.heap.size, 0, none⟩ = some (.int .i64 (i : Int)) ∧ WR.cell? ⟨w.heap.size, 1, none⟩ = some (.int .i64 (k : Int)) ∧ WR.frozen? ⟨w.heap.size + 1, 0, none⟩ = false ∧ WR.frozen? ⟨w.heap.size + 1, 1, none⟩ = false) := KS.out WR (Below.refl _ _)
  have HM := Lib.hid hm7
  have hbW := Lib.hid hbw6
  have hw4s : w.heap.size + 1 < w4.heap.size := Nat.lt_of_lt_of_le (by simp) hKW4
  have h4R : w4.heap.size ≤ WR.heap.size := Nat.le_trans hs43 h36.size
  clear hbx h36 hm7 hbw6 hk6 HL hWR hb KW l0 l1 l2 l3 g0 g1 g2 g3
  have hb : Hid (Below WR.heap.size WR WR) := Lib.hid (Below.refl _ _)
  go_region_held3 (fun w' => (w'.cell? ⟨w3.heap.size, 0, none⟩ = some (.int .i64 yl.ln.q) ∧ w'.cell? ⟨w3.heap.size, 1, none⟩ = some (.slice yl.za yl.ln.ls.length yl.zc) ∧ w'.cell? ⟨w3.heap.size, 2, none⟩ = some (.int .i64 yl.ln.k) ∧ w'.cell? ⟨w3.heap.size, 3, none⟩ = some (.slice rA R0.length rC) ∧ w'.cell? ⟨w.heap.size, 0, none⟩ = some (.int .i64 (i : Int)) ∧ w'.cell? ⟨w.heap.size, 1, none⟩ = some (.int .i64 (k : Int)) ∧ w'.frozen? ⟨w.heap.size + 1, 0, none⟩ = false ∧ w'.frozen? ⟨w.heap.size + 1, 1, none⟩ = false)) (first | (with_reducible exact hS) | (refine KS.out _ ?_; (repeat (first | (with_reducible exact hb.out) | (with_reducible exact Below.refl _ _) | (with_reducible refine Below.drew ?_) | (with_reducible refine Below.alloc ?_ ?_ _) | (with_reducible refine Below.setCell ?_ ?_ _) | omega | (simp <;> omega))); done) | (refine ⟨?_, ?_, ?_, ?_, ?_, ?_, ?_, ?_⟩ <;> (first | (simp [go_sem, *]; done) | (obtain ⟨_, _, _, _, _, _, _, _⟩ := hS; simp [go_sem, *]; done)))) (first
    | (go_at_call 78; ((with_reducible refine (cR w4.heap.size _ _ ⟨yl.za, yl.zc, rA, rC, ⟨yl.ln.q, yl.ln.ls, yl.ln.k, R0⟩⟩ (hbW.out.trans ((show Below WR.heap.size WR _ by (repeat (first | (with_reducible exact hb.out) | (with_reducible exact Below.refl _ _) | (with_reducible refine Below.drew ?_) | (with_reducible refine Below.alloc ?_ ?_ _) | (with_reducible refine Below.setCell ?_ ?_ _) | omega | (simp <;> omega)))).mono (by omega))) (by first | exact one_line _ ⟨yl.za, yl.zc, rA, rC, ⟨yl.ln.q, yl.ln.ls, yl.ln.k, R0⟩⟩ | exact (one_line _ ⟨yl.za, yl.zc, rA, rC, ⟨yl.ln.q, yl.ln.ls, yl.ln.k, R0⟩⟩).below (Below.drew (Below.refl _ _))) (HM.out.below (by (repeat (first | (with_reducible exact hb.out) | (with_reducible exact Below.refl _ _) | (with_reducible refine Below.drew ?_) | (with_reducible refine Below.alloc ?_ ?_ _) | (with_reducible refine Below.setCell ?_ ?_ _) | omega | (simp <;> omega))))) (by (try simp); omega)).mono ?_); rintro e w7 ⟨v7, r7, rfl, o7, p7', h7⟩; have hd := Lib.hid ((show Below WR.heap.size WR _ by (repeat (first | (with_reducible exact hb.out) | (with_reducible exact Below.refl _ _) | (with_reducible refine Below.drew ?_) | (with_reducible refine Below.alloc ?_ ?_ _) | (with_reducible refine Below.setCell ?_ ?_ _) | omega | (simp <;> omega)))).trans (h7.mono (by (first | omega | (simp; done) | (simp; omega))))); have O7 := Lib.hid (And.intro o7 p7'); clear hb o7 p7' h7; have hb := hd; replace hS := KS.out _ hb.out; obtain ⟨_, d0, d1, _, _⟩ := A1.out.below hb.out; clear hd)))
  all_goals go_wp2_with fail
  all_goals exact bodyPost_ret (v := .tuple #[v7, .agg #[.int .i64 (i : Int), .int .i64 ((k : Int) + (ml : Int))], .int .i64 0]) (by simp [results, Tryz.results40, go_sem, *]) rfl ⟨v7, r7, rfl, (((O7.out.1.set (p := ⟨w.heap.size + 1, 0, none⟩) hw4s _).set (p := ⟨w.heap.size + 1, 1, none⟩) hw4s _).mono (by omega)), O7.out.2.trans (HD.out _ (by show (⟨yl.ln.q, yl.ln.ls, yl.ln.k, R0⟩ : Ln) = _; rw [HY.out.1]; rfl)), ((hbW.out.trans (hb.out.mono (by omega))).setCell (p := ⟨w.heap.size + 1, 0, none⟩) (Nat.le_succ _) _).setCell (p := ⟨w.heap.size + 1, 1, none⟩) (Nat.le_succ _) _⟩

theorem dinsert_any (v u : Value) (l : List Lw) (m : Row) (p1 p2 : Int) (w : World) (h : DocAt w v l) (hu : RowAt w u m) (hf : Fine (pl l)) (hE : Tg.Env w) (hm : m.length ≤ 50000) (hfm : Fair m) :
    Calls Tryz.prog 40 #[v, psV (p1, p2), u] w (DocPE (insP (pl l) (p1, p2) m).1 (insP (pl l) (p1, p2) m).2.1 (insP (pl l) (p1, p2) m).2.2 w) := by
  unfold insP
  by_cases hc : (askedD (pl l) (p1, p2) (p1, p2) && mayR m) = true
  · rw [if_pos hc]
    by_cases hb : 4000 < sizeD (pl l) + m.length
    · rw [if_pos hb]
      have := dinsert_err v u l m p1 p2 w h hu hf hE hm hfm (.inr hb)
      rw [if_pos hc] at this
      exact this
    · rw [if_neg hb]
      simp only [Bool.and_eq_true] at hc
      obtain ⟨al, aa, bl, ba, hp, hq, hsp, hmay⟩ := askedD_span hc.1
      simp only [Prod.mk.injEq] at hp hq
      obtain ⟨rfl, rfl⟩ := hp
      have e1 : al = bl := by omega
      have e2 : aa = ba := by omega
      subst e1 e2
      exact dinsert_ok v u l m al aa w h hu hf hE hm hfm (by have := hsp.hb; rwa [pl_length] at this) hsp.hka hmay hc.2 (by omega)
  · have hc2 : (askedD (pl l) (p1, p2) (p1, p2) && mayR m) = false := by simpa using hc
    rw [if_neg hc]
    have := dinsert_err v u l m p1 p2 w h hu hf hE hm hfm (.inl hc2)
    rw [if_neg hc] at this
    exact this

end Go.Proofs.YtehjfcefkiglaaaGreatDoor
