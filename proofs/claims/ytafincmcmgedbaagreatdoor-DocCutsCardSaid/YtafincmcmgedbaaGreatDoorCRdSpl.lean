/-
  The document's Split.
-/
import Derived.Test.YtafincmcmgedbaaGreatDoorCDocP
import Derived.Test.YtafincmcmgedbaaGreatDoorCDocSplit
import Derived.Deep.RegionHeld3
import Derived.Deep.DeepCutAuto

namespace Go.Proofs.YtafincmcmgedbaaGreatDoor
open Go.RowKit Go.Lib

theorem rlsplitA (x : Lw) (k : Nat) (w : World) (h : LwAt w x) (hz : x.ln.ls.length ≤ 50000 ∧ x.ln.cs.length ≤ 50000 ∧ Fair x.ln.cs) (hm : mayS x.ln = true) (hk : k ≤ x.ln.cs.length) :
    Calls Tryz.prog 82 #[aggL x, .int .i64 (k : Int)] w fun e w' => ∃ y1 y2 : Lw, e = .returned (.tuple #[aggL y1, aggL y2, .int .i64 0]) ∧ y1.ln = splA x.ln k ∧ y2.ln = splB x.ln k ∧ MineLw w.heap.size w' y1 ∧ MineLw w.heap.size w' y2 ∧ Below w.heap.size w w' := by
  have hc := Split_doc x.ln.q x.ln.k (k : Int) x.sl x.sc x.ln.ls x.ln.cs w h hz.1 hz.2.1 hz.2.2
  refine hc.mono ?_
  rintro e w' ⟨sl, sc, sl2, sc2, he, o1, o2, hb⟩
  have hs : splitS (k : Int) ⟨x.ln.q, x.ln.ls, x.ln.k, x.ln.cs⟩ = (0, splA x.ln k, splB x.ln k) := splitS_in hm hk
  rw [hs] at he o1 o2
  obtain ⟨y1, a1, a2, a3, a4⟩ := lw_of_own (q := x.ln.q) (k := x.ln.k) o1
  obtain ⟨y2, b1, b2, b3, b4⟩ := lw_of_own (q := x.ln.q) (k := if k = x.ln.cs.length then 0 else x.ln.k) o2
  refine ⟨y1, y2, ?_, a3, b3, a4, b4, hb⟩
  rw [he]
  unfold aggL
  rw [a1, a2, a3, b1, b2, b3]
  rfl

set_option maxRecDepth 20000 in
set_option maxHeartbeats 8000000 in
theorem rdsplit_err (v : Value) (l : List Lw) (p1 p2 : Int) (w : World) (h : DocAt w v l) (hf : Fine (pl l)) (hA : askedD (pl l) (p1, p2) (p1, p2) = false ∨ l.length = 200) :
    Calls Tryz.prog 43 #[v, psV (p1, p2)] w (DocPE [] (0, 0) (if askedD (pl l) (p1, p2) (p1, p2) then 10 else 1) w) := by
  refine Calls.mono ?_ (fun e w' h => docPE_err h)
  obtain ⟨a, c, rfl⟩ := h.s.len
  have cA : ∀ w1, Below w.heap.size w w1 → _ := fun w1 h1 => rdspan_any _ l p1 p2 p1 p2 w1 (h.below h1) hf
  have P0 := Lib.hid ((ps_new w p1 p2).below (below_alloc1 _ (.cells #[.int .i64 0, .int .i64 0] 24)))
  have P1 := Lib.hid (ps_new (w.alloc (.cells #[.int .i64 p1, .int .i64 p2] 24)) 0 0)
  rw [show (w.alloc (.cells #[.int .i64 p1, .int .i64 p2] 24)).heap.size = w.heap.size + 1 by simp] at P1
  have hX := Lib.hid (two_allocs w (.cells #[.int .i64 p1, .int .i64 p2] 24) (.cells #[.int .i64 0, .int .i64 0] 24))
  obtain ⟨n, hn⟩ : ∃ n, l.length = n := ⟨_, rfl⟩
  unfold psV at *
  dsimp only at *
  cases hB : askedD (pl l) (p1, p2) (p1, p2) with
  | false =>
    rw [hB] at cA
    rw [hn] at cA ⊢
    rw [if_neg (by decide)]
    clear h hf hA hn hB
    go_enter Tryz.func43, Tryz.ntmps43
    go_wp2_with (go_at_call 73; ((with_reducible refine (cA _ hX.out).mono ?_); rintro e w2 ⟨rfl, hk⟩; have hb := hX.out.trans (hk.mono hX.out.size); obtain ⟨_, y0, y1, f0, f1⟩ := P1.out.below hk))
    exact bodyPost_ret (v := .tuple #[.slice none 0 0, .agg #[.int .i64 0, .int .i64 0], .int .i64 1]) (by simp [results, Tryz.results43, go_sem, *]) rfl ⟨rfl, (hb.setCell (p := ⟨w.heap.size + 1, 0, none⟩) (Nat.le_succ _) _).setCell (p := ⟨w.heap.size + 1, 1, none⟩) (Nat.le_succ _) _⟩
  | true =>
    have h200 : n = 200 := by
      rcases hA with h1 | h1
      · rw [hB] at h1; cases h1
      · exact hn.symm.trans h1
    rw [hB] at cA
    rw [hn] at cA ⊢
    subst h200
    rw [if_pos rfl]
    clear h hf hA hn hB
    go_enter Tryz.func43, Tryz.ntmps43
    go_wp2_with (go_at_call 73; ((with_reducible refine (cA _ hX.out).mono ?_); rintro e w2 ⟨rfl, hk⟩; have hb := hX.out.trans (hk.mono hX.out.size); obtain ⟨_, y0, y1, f0, f1⟩ := P1.out.below hk))
    exact bodyPost_ret (v := .tuple #[.slice none 0 0, .agg #[.int .i64 0, .int .i64 0], .int .i64 10]) (by simp [results, Tryz.results43, go_sem, *]) rfl ⟨rfl, (hb.setCell (p := ⟨w.heap.size + 1, 0, none⟩) (Nat.le_succ _) _).setCell (p := ⟨w.heap.size + 1, 1, none⟩) (Nat.le_succ _) _⟩

set_option maxRecDepth 40000 in
set_option maxHeartbeats 32000000 in
theorem rdsplit_ok (v : Value) (l : List Lw) (i k : Nat) (w : World) (h : DocAt w v l) (hf : Fine (pl l)) (hi : i < l.length) (hk : k ≤ cnt (pl l) i) (hmay : mayD (pl l) = true) (h200 : l.length ≠ 200) :
    Calls Tryz.prog 43 #[v, psV ((i : Int), (k : Int))] w (DocPE (splitD (pl l) i k) ((i : Int) + 1, 0) 0 w) := by
  obtain ⟨a, c, rfl⟩ := h.s.len
  have hX := two_allocs w (.cells #[.int .i64 (i : Int), .int .i64 (k : Int)] 24) (.cells #[.int .i64 0, .int .i64 0] 24)
  have cA : ∀ w1, Below w.heap.size w w1 → _ := fun w1 h1 => rdspan_any (.slice a l.length c) l (i : Int) (k : Int) (i : Int) (k : Int) w1 (h.below h1) hf
  rw [askedD_mk (bl := i) (ba := k) ⟨by rw [pl_length]; exact hi, Nat.le_refl _, hk, hk, fun _ => Nat.le_refl _⟩ hmay] at cA
  rw [cnt_pl hi] at hk
  obtain ⟨b, o, q, za, n1, zc, kk, ra, n2, rc, rfl, _, hlc, hcm, hbs, x0, x1, x2, x3, hag, hlw, hr, hz1, hz2, hz3, hpg⟩ := lines_at h hf hi
  unfold maxLen at hcm
  have hms : mayS (l[i]!).ln = true := mayD_mem hmay (by unfold pl; exact List.mem_map.2 ⟨_, mem_get hi, rfl⟩)
  obtain ⟨x, hx⟩ : ∃ x, l[i]! = x := ⟨_, rfl⟩
  rw [hx] at hag hlw hr hz1 hz2 hz3 hpg hk hms
  have cS : ∀ w1, Below w.heap.size w w1 → _ := fun w1 h1 => rlsplitA x k w1 (hlw.below h1) ⟨hz1, hz2, hz3⟩ hms hk
  rw [hag] at cS
  obtain ⟨u1, t1, i1⟩ := cut_h h.s i (by omega)
  obtain ⟨u2, t2, i2⟩ := cut_l h.s (i + 1) (by omega)
  have cO1 : ∀ w1, Below w.heap.size w w1 → _ := fun w1 h1 => rdownN_any u1 (l.take i) w1 ((h.take t1).below h1) (by rw [pl_take]; exact hf.take _)
  have cO2 : ∀ w1, Below w.heap.size w w1 → _ := fun w1 h1 => rdownN_any u2 (l.drop (i + 1)) w1 ((h.drop t2).below h1) (by rw [pl_drop]; exact hf.drop _)
  obtain ⟨f1, g1, e1⟩ := t1.len
  obtain ⟨f2, g2, e2⟩ := t2.len
  subst e1 e2
  rw [pl_take] at cO1
  rw [pl_drop] at cO2
  rw [show ((i + 1 : Nat) : Int) = (i : Int) + 1 by omega] at i2
  have htk : (l.take i).length ≤ 1000 := by rw [List.length_take]; have := hf.len; omega
  have hdr : (l.drop (i + 1)).length ≤ 1000 := by rw [List.length_drop]; have := hf.len; omega
  have HL0 : Hid (∀ m0 : List Lw, pl m0 = (pl l).take i → m0.length ≤ 1000) := Lib.hid (fun m0 h0 => by rw [← pl_length, h0, ← pl_take, pl_length]; exact htk)
  have HL2 : Hid (∀ m0 : List Lw, pl m0 = (pl l).drop (i + 1) → m0.length ≤ 1000) := Lib.hid (fun m0 h0 => by rw [← pl_length, h0, ← pl_drop, pl_length]; exact hdr)
  obtain ⟨A, hA⟩ : ∃ A, splA x.ln k = A := ⟨_, rfl⟩
  obtain ⟨C, hC⟩ : ∃ C, splB x.ln k = C := ⟨_, rfl⟩
  rw [hA, hC] at cS
  have hspl : ∀ m m2 : List Lw, pl m = (pl l).take i ++ [A, C] → pl m2 = (pl l).drop (i + 1) → pl (m ++ m2) = splitD (pl l) i k := fun m m2 h1 h2 => by
    unfold splitD replaceD
    rw [hpg, hA, hC, pl_append, h1, h2]
  have hK : ∀ V', Below w.heap.size w V' → V'.cell? ⟨b, o + i * 4, none⟩ = some (.int .i64 q) ∧ V'.cell? ⟨b, o + i * 4 + 1, none⟩ = some (.slice za n1 zc) ∧ V'.cell? ⟨b, o + i * 4 + 2, none⟩ = some (.int .i64 kk) ∧ V'.cell? ⟨b, o + i * 4 + 3, none⟩ = some (.slice ra n2 rc) := fun V' hV' =>
    ⟨(hV'.cell (lt_of_cell' x0)).trans x0, (hV'.cell (lt_of_cell' x1)).trans x1, (hV'.cell (lt_of_cell' x2)).trans x2, (hV'.cell (lt_of_cell' x3)).trans x3⟩
  have HK := Lib.hid hK
  have HD := Lib.hid hspl
  have A0 := Lib.hid ((ps_new w (i : Int) (k : Int)).below (below_alloc1 _ (.cells #[.int .i64 0, .int .i64 0] 24)))
  have A1 := Lib.hid (ps_new (w.alloc (.cells #[.int .i64 (i : Int), .int .i64 (k : Int)] 24)) 0 0)
  rw [show (w.alloc (.cells #[.int .i64 (i : Int), .int .i64 (k : Int)] 24)).heap.size = w.heap.size + 1 by simp] at A1
  have HX := Lib.hid hX
  have hln := hf.len
  unfold psV at *
  dsimp only at *
  obtain ⟨n, hn⟩ : ∃ n, l.length = n := ⟨_, rfl⟩
  obtain ⟨k1, hk1⟩ : ∃ n, (l.take i).length = n := ⟨_, rfl⟩
  obtain ⟨k2, hk2⟩ : ∃ n, (l.drop (i + 1)).length = n := ⟨_, rfl⟩
  rw [hn] at cA hlc hi h200 hln i1 i2 ⊢
  rw [hk1] at cO1 i1
  rw [hk2] at cO2 i2
  have h200I : ¬ (n : Int) = 200 := by omega
  have h200b : ((n : Int) == 200) = false := by simpa using h200I
  have hiI : (i : Int) < (n : Int) := by omega
  clear t1 t2 hk1 hk2 htk hdr h hf hmay hX hx hag hlw hr hz1 hz2 hz3 hpg hK hspl x0 x1 x2 x3 hn hA hC hk hms h200
  go_enter Tryz.func43, Tryz.ntmps43
  go_upto_region 5 with (first
    | (go_at_call 73; ((with_reducible refine (cA _ HX.out).mono ?_); rintro e w2 ⟨rfl, hk⟩; have KW := Lib.hid hk; have hb := Lib.hid (HX.out.trans (hk.mono HX.out.size)); obtain ⟨x0, x1, x2, x3⟩ := HK.out _ hb.out; obtain ⟨_, y0, y1, _, _⟩ := A0.out.below hk; have hw2 : w.heap.size + 1 < w2.heap.size := Nat.lt_of_lt_of_le (by simp) hk.size; clear hk)))
  have hbs2 : b < w2.heap.size := Nat.lt_of_lt_of_le hbs hb.out.size
  go_cut [7, 8, 9] (fun s7 s8 s9 wx => SplR w2.heap.size w2 A C s7 s8 wx ∧ s9 = .int .i64 0)
  case first =>
    have hS : (w2.cell? ⟨b, o + i * 4, none⟩ = some (.int .i64 q) ∧ w2.cell? ⟨b, o + i * 4 + 1, none⟩ = some (.slice za n1 zc) ∧ w2.cell? ⟨b, o + i * 4 + 2, none⟩ = some (.int .i64 kk) ∧ w2.cell? ⟨b, o + i * 4 + 3, none⟩ = some (.slice ra n2 rc) ∧ w2.cell? ⟨w.heap.size, 0, none⟩ = some (.int .i64 (i : Int)) ∧ w2.cell? ⟨w.heap.size, 1, none⟩ = some (.int .i64 (k : Int))) := ⟨x0, x1, x2, x3, y0, y1⟩
    have KS : Hid (∀ w', Below w2.heap.size w2 w' → (w'.cell? ⟨b, o + i * 4, none⟩ = some (.int .i64 q) ∧ w'.cell? ⟨b, o + i * 4 + 1, none⟩ = some (.slice za n1 zc) ∧ w'.cell? ⟨b, o + i * 4 + 2, none⟩ = some (.int .i64 kk) ∧ w'.cell? ⟨b, o + i * 4 + 3, none⟩ = some (.slice ra n2 rc) ∧ w'.cell? ⟨w.heap.size, 0, none⟩ = some (.int .i64 (i : Int)) ∧ w'.cell? ⟨w.heap.size, 1, none⟩ = some (.int .i64 (k : Int)))) := Lib.hid (fun w' h => ⟨(h.cell (lt_of_cell' x0)).trans x0, (h.cell (lt_of_cell' x1)).trans x1, (h.cell (lt_of_cell' x2)).trans x2, (h.cell (lt_of_cell' x3)).trans x3, (h.cell (lt_of_cell' y0)).trans y0, (h.cell (lt_of_cell' y1)).trans y1⟩)
    have bV : Hid (∀ w', Below w2.heap.size w2 w' → Below w.heap.size w w') := Lib.hid (fun w' h => hb.out.trans (h.mono hb.out.size))
    clear hb x0 x1 x2 x3 y0 y1 cA cO1 cO2
    have hb : Hid (Below w2.heap.size w2 w2) := Lib.hid (Below.refl _ _)
    go_region_held3 (fun w' => (w'.cell? ⟨b, o + i * 4, none⟩ = some (.int .i64 q) ∧ w'.cell? ⟨b, o + i * 4 + 1, none⟩ = some (.slice za n1 zc) ∧ w'.cell? ⟨b, o + i * 4 + 2, none⟩ = some (.int .i64 kk) ∧ w'.cell? ⟨b, o + i * 4 + 3, none⟩ = some (.slice ra n2 rc) ∧ w'.cell? ⟨w.heap.size, 0, none⟩ = some (.int .i64 (i : Int)) ∧ w'.cell? ⟨w.heap.size, 1, none⟩ = some (.int .i64 (k : Int)))) (first | (with_reducible exact hS) | exact KS.out _ (by (repeat (first | (with_reducible exact hb.out) | (with_reducible exact Below.refl _ _) | (with_reducible refine Below.drew ?_) | (with_reducible refine Below.alloc ?_ ?_ _) | (with_reducible refine Below.setCell ?_ ?_ _) | omega | (simp <;> omega))))) (first
      | (go_at_call 82; ((with_reducible refine (cS _ (bV.out _ ?hb)).mono ?_); (case hb => (repeat (first | (with_reducible exact hb.out) | (with_reducible exact Below.refl _ _) | (with_reducible refine Below.drew ?_) | (with_reducible refine Below.alloc ?_ ?_ _) | (with_reducible refine Below.setCell ?_ ?_ _) | omega | (simp <;> omega)))); rintro e w4 ⟨y1, y2, rfl, e1, e2, m1, m2, hb2⟩; have hd := Lib.hid ((show Below w2.heap.size w2 _ by (repeat (first | (with_reducible exact hb.out) | (with_reducible exact Below.refl _ _) | (with_reducible refine Below.drew ?_) | (with_reducible refine Below.alloc ?_ ?_ _) | (with_reducible refine Below.setCell ?_ ?_ _) | omega | (simp <;> omega)))).trans (hb2.mono (by (first | omega | (simp; done) | (simp; omega))))); obtain ⟨hc4, hf4⟩ := bcell3 hb2; have hz4 := hb2.size; (try simp at hz4); have HM := Lib.hid (And.intro m1 (And.intro m2 (And.intro e1 e2))); have hs4 : w2.heap.size ≤ w4.heap.size := hd.out.size; (try have hy4 : w2.heap.size < w4.heap.size := by omega); (try have hp4 : w2.heap.size + 1 < w4.heap.size := by omega); (try have hq4 : w4.heap.size ≠ w2.heap.size := by omega); (try have hr4 : w2.heap.size ≠ w4.heap.size := by omega); unfold aggL Lw.sl Lw.sc; clear hb; have hb := hd; replace hS := KS.out _ hb.out; clear hd hb2 m1 m2 e1 e2)))
    all_goals go_wp2_with fail
    all_goals go_meet
    all_goals refine ⟨?_, rfl⟩
    all_goals first
      | (with_reducible refine spl_put (q5 := 0) (s5 := .slice none 0 0) (k5 := 0) (c5 := .slice none 0 0) (q6 := 0) (s6 := .slice none 0 0) (k6 := 0) (c6 := .slice none 0 0) hb.out HM.out.1 HM.out.2.1 HM.out.2.2.1 HM.out.2.2.2 ?_ ?_ ?_ ?_ ?_ ?_ ?_ ?_ <;> (first | (first | omega | (simp; done) | (simp; omega)) | (constructor <;> (first | (first | omega | (simp; done) | (simp; omega)) | (simp [go_sem, *]; done)))))
      | (with_reducible refine spl_mix7 (q5 := 0) (s5 := .slice none 0 0) (k5 := 0) (c5 := .slice none 0 0) hb.out HM.out.1 HM.out.2.1 HM.out.2.2.1 HM.out.2.2.2 ?_ ?_ ?_ ?_ ?_ <;> (first | (first | omega | (simp; done) | (simp; omega)) | (constructor <;> (first | (first | omega | (simp; done) | (simp; omega)) | (simp [go_sem, *]; done)))))
      | (with_reducible refine spl_mix8 (q5 := 0) (s5 := .slice none 0 0) (k5 := 0) (c5 := .slice none 0 0) hb.out HM.out.1 HM.out.2.1 HM.out.2.2.1 HM.out.2.2.2 ?_ ?_ ?_ ?_ ?_ <;> (first | (first | omega | (simp; done) | (simp; omega)) | (constructor <;> (first | (first | omega | (simp; done) | (simp; omega)) | (simp [go_sem, *]; done)))))
      | (with_reducible refine spl_new78 hb.out HM.out.1 HM.out.2.1 HM.out.2.2.1 HM.out.2.2.2 ?_ ?_ <;> (first | (first | omega | (simp; done) | (simp; omega)) | (constructor <;> (first | (first | omega | (simp; done) | (simp; omega)) | (simp [go_sem, *]; done)))))
      | (with_reducible refine spl_new87 hb.out HM.out.1 HM.out.2.1 HM.out.2.2.1 HM.out.2.2.2 ?_ ?_ <;> (first | (first | omega | (simp; done) | (simp; omega)) | (constructor <;> (first | (first | omega | (simp; done) | (simp; omega)) | (simp [go_sem, *]; done)))))
  case rest =>
    clear cA cS x0 x1 x2 x3 y0 y1
    obtain ⟨p7, p8, y1, y2, rfl, rfl, hB7, hB8, m1, m2, e1, e2, hBe, b7, b8⟩ := hcut.1
    obtain rfl := hcut.2
    have g7 := hB7.lt
    have g8 := hB8.lt
    have hsc := hBe.size
    have hsw := hb.out.size
    have i7 : p7 ≠ w.heap.size + 1 := by omega
    have i8 : p8 ≠ w.heap.size + 1 := by omega
    have j7 : w.heap.size + 1 ≠ p7 := by omega
    have j8 : w.heap.size + 1 ≠ p8 := by omega
    have hwk : IntKind.i64.wrap ((i : Int) + 1) = (i : Int) + 1 := IntWalk.i64_in _ (by omega)
    have HM := Lib.hid (And.intro m1 (And.intro m2 (And.intro e1 e2)))
    have hbW := Lib.hid (hb.out.trans (hBe.mono hsw))
    have KB := Lib.hid (KW.out.trans (hBe.mono KW.out.size))
    have KS : Hid (∀ w', Below wc.heap.size wc w' → (w'.cell? ⟨p7, 0, none⟩ = some (.int .i64 y1.ln.q) ∧ w'.cell? ⟨p7, 1, none⟩ = some (.slice y1.za y1.ln.ls.length y1.zc) ∧ w'.cell? ⟨p7, 2, none⟩ = some (.int .i64 y1.ln.k) ∧ w'.cell? ⟨p7, 3, none⟩ = some (.slice y1.ra y1.ln.cs.length y1.rc) ∧ w'.cell? ⟨p8, 0, none⟩ = some (.int .i64 y2.ln.q) ∧ w'.cell? ⟨p8, 1, none⟩ = some (.slice y2.za y2.ln.ls.length y2.zc) ∧ w'.cell? ⟨p8, 2, none⟩ = some (.int .i64 y2.ln.k) ∧ w'.cell? ⟨p8, 3, none⟩ = some (.slice y2.ra y2.ln.cs.length y2.rc) ∧ w'.cell? ⟨w.heap.size, 0, none⟩ = some (.int .i64 (i : Int)) ∧ w'.cell? ⟨w.heap.size, 1, none⟩ = some (.int .i64 (k : Int)))) := Lib.hid (fun w' h => by
      obtain ⟨_, a0, a1, a2, a3, _⟩ := hB7.below h
      obtain ⟨_, b0, b1, b2, b3, _⟩ := hB8.below h
      obtain ⟨_, c0, c1, _, _⟩ := (A0.out.below KB.out).below h
      exact ⟨a0, a1, a2, a3, b0, b1, b2, b3, c0, c1⟩)
    have hS : (wc.cell? ⟨p7, 0, none⟩ = some (.int .i64 y1.ln.q) ∧ wc.cell? ⟨p7, 1, none⟩ = some (.slice y1.za y1.ln.ls.length y1.zc) ∧ wc.cell? ⟨p7, 2, none⟩ = some (.int .i64 y1.ln.k) ∧ wc.cell? ⟨p7, 3, none⟩ = some (.slice y1.ra y1.ln.cs.length y1.rc) ∧ wc.cell? ⟨p8, 0, none⟩ = some (.int .i64 y2.ln.q) ∧ wc.cell? ⟨p8, 1, none⟩ = some (.slice y2.za y2.ln.ls.length y2.zc) ∧ wc.cell? ⟨p8, 2, none⟩ = some (.int .i64 y2.ln.k) ∧ wc.cell? ⟨p8, 3, none⟩ = some (.slice y2.ra y2.ln.cs.length y2.rc) ∧ wc.cell? ⟨w.heap.size, 0, none⟩ = some (.int .i64 (i : Int)) ∧ wc.cell? ⟨w.heap.size, 1, none⟩ = some (.int .i64 (k : Int))) := KS.out wc (Below.refl _ _)
    have HBe := Lib.hid hBe
    have Z0 := Lib.hid (A0.out.below KW.out)
    have Z1 := Lib.hid (A1.out.below KW.out)
    have HW2 := hb
    clear m1 m2 e1 e2 hB7 hB8 hBe hb
    have hb : Hid (Below wc.heap.size wc wc) := Lib.hid (Below.refl _ _)
    have hsb : wc.heap.size ≤ wc.heap.size := Nat.le_refl _
    go_upto_region 6 with fail
    go_cut [10] (fun s wx => ∃ (u : Option Addr) (c : Nat) (m : List Lw), s = .slice u m.length c ∧ Hid (OwnD w2.heap.size wx (.slice u m.length c) m) ∧ Hid (pl m = (pl l).take i ++ [A, C]) ∧ Hid (Below w2.heap.size w2 wx))
    case first =>
      have HY : Hid (∀ y ∈ [y1, y2], MineLw w2.heap.size wc y) := Lib.hid (fun y hy => by
        rcases List.mem_cons.1 hy with rfl | hy
        · exact HM.out.1
        · obtain rfl := List.mem_singleton.1 hy; exact HM.out.2.1)
      go_region_held3 (fun w' => (w'.cell? ⟨p7, 0, none⟩ = some (.int .i64 y1.ln.q) ∧ w'.cell? ⟨p7, 1, none⟩ = some (.slice y1.za y1.ln.ls.length y1.zc) ∧ w'.cell? ⟨p7, 2, none⟩ = some (.int .i64 y1.ln.k) ∧ w'.cell? ⟨p7, 3, none⟩ = some (.slice y1.ra y1.ln.cs.length y1.rc) ∧ w'.cell? ⟨p8, 0, none⟩ = some (.int .i64 y2.ln.q) ∧ w'.cell? ⟨p8, 1, none⟩ = some (.slice y2.za y2.ln.ls.length y2.zc) ∧ w'.cell? ⟨p8, 2, none⟩ = some (.int .i64 y2.ln.k) ∧ w'.cell? ⟨p8, 3, none⟩ = some (.slice y2.ra y2.ln.cs.length y2.rc) ∧ w'.cell? ⟨w.heap.size, 0, none⟩ = some (.int .i64 (i : Int)) ∧ w'.cell? ⟨w.heap.size, 1, none⟩ = some (.int .i64 (k : Int)))) (first | (with_reducible exact hS) | (refine KS.out _ ?_; (repeat (first | (with_reducible exact hb.out) | (with_reducible exact Below.refl _ _) | (with_reducible refine Below.drew ?_) | (with_reducible refine Below.alloc ?_ ?_ _) | (with_reducible refine Below.setCell ?_ ?_ _) | omega | (simp <;> omega))); done)) (first
        | (go_at_call 12; ((with_reducible refine (cO1 _ (hbW.out.trans ((show Below wc.heap.size wc _ by (repeat (first | (with_reducible exact hb.out) | (with_reducible exact Below.refl _ _) | (with_reducible refine Below.drew ?_) | (with_reducible refine Below.alloc ?_ ?_ _) | (with_reducible refine Below.setCell ?_ ?_ _) | omega | (simp <;> omega)))).mono (by first | exact hbW.out.size | omega)))).mono ?_); rintro e w4 ⟨vo, m0, rfl, hown, hpo, hk, _⟩; have hd := Lib.hid ((show Below wc.heap.size wc _ by (repeat (first | (with_reducible exact hb.out) | (with_reducible exact Below.refl _ _) | (with_reducible refine Below.drew ?_) | (with_reducible refine Below.alloc ?_ ?_ _) | (with_reducible refine Below.setCell ?_ ?_ _) | omega | (simp <;> omega)))).trans (hk.mono (by first | exact hsb | omega | (simp; done) | (simp; omega)))); have OWB : Hid (∀ g, vo.ownBlock = some g → wc.heap.size ≤ g) := Lib.hid (fun g e => Nat.le_trans (by first | exact hsb | omega | (simp; done) | (simp; omega)) (ownBlk hown.own e).1); have OW := Lib.hid (hown.mono (C := w2.heap.size) (by first | omega | (simp; done) | (simp; omega))); have PO := Lib.hid hpo; have HK4 := Lib.hid hk; have hm0 := HL0.out _ hpo; replace hS := KS.out _ hd.out; clear hb hsb hown hpo hk; have hb := hd; have hsb := hd.out.size; clear hd))
        | (first
            | (refine step_append_docG (by rfl) _ _ rfl w2.heap.size w2.heap.size _ m0 rfl (OW.out.below (by first | exact below_alloc1 _ _ | exact Below.refl _ _)) _ [y1, y2] rfl (by first | exact two_line _ y1 y2 | exact (two_line _ y1 y2).below HK4.out | exact ((two_line _ y1 y2).below (Below.drew (Below.refl _ _))).below HK4.out) (fun y hy => (HY.out y hy).below (by (repeat (first | (with_reducible exact hb.out) | (with_reducible exact Below.refl _ _) | (with_reducible refine Below.drew ?_) | (with_reducible refine Below.alloc ?_ ?_ _) | (with_reducible refine Below.setCell ?_ ?_ _) | omega | (simp <;> omega))))) (by intro h; cases h) (Nat.le_refl _) (fun y hy g e => offB_hi (HY.out y hy).at (OWB.out g e)) (by show m0.length + 2 ≤ 100000; omega) (by first | omega | (simp; done) | (simp; omega)) ?_; intro v5 w5 hD5 grow5; have hd := Lib.hid ((show Below wc.heap.size wc _ by (repeat (first | (with_reducible exact hb.out) | (with_reducible exact Below.refl _ _) | (with_reducible refine Below.drew ?_) | (with_reducible refine Below.alloc ?_ ?_ _) | (with_reducible refine Below.setCell ?_ ?_ _) | omega | (simp <;> omega)))).grown grow5 (by first | exact hsb | omega | (simp; done) | (simp; omega)) (fun r e => OWB.out r e)); have OD := Lib.hid hD5; replace hS := KS.out _ hd.out; clear hb hsb hD5 grow5; have hb := hd; have hsb := hd.out.size; clear hd)))
      all_goals go_wp2_with fail
      all_goals go_meet
      all_goals
        (obtain ⟨u, c, e⟩ := own_len OD.out.own
         subst e
         exact ⟨u, c, m0 ++ [y1, y2], rfl, OD, Lib.hid (by rw [pl_append, PO.out]; show _ ++ [y1.ln, y2.ln] = _; rw [HM.out.2.2.1, HM.out.2.2.2]), Lib.hid (HBe.out.trans (hb.out.mono hsc))⟩)
    case rest =>
    clear hS KS hb hsb
    obtain ⟨u, c, m, rfl, OD, PD, KD⟩ := hcut
    have hm3 : m.length ≤ 2000 := by
      have h1 := congrArg List.length PD.out
      rw [pl_length, List.length_append] at h1
      have h2 : ((pl l).take i).length ≤ 1000 := by rw [List.length_take]; exact Nat.le_trans (Nat.min_le_left _ _) (Nat.le_trans (Nat.le_of_lt hi) hln)
      have h3 : [A, C].length = 2 := rfl
      omega
    have hKD := KD.out
    have hD2 := hKD.size
    have KS7 : Hid (∀ w', Below w2.heap.size w2 w' → (w'.cell? ⟨w.heap.size, 0, none⟩ = some (.int .i64 (i : Int)) ∧ w'.cell? ⟨w.heap.size, 1, none⟩ = some (.int .i64 (k : Int)) ∧ w'.frozen? ⟨w.heap.size + 1, 0, none⟩ = false ∧ w'.frozen? ⟨w.heap.size + 1, 1, none⟩ = false)) := Lib.hid (fun w' h => by
      obtain ⟨_, c0, c1, _, _⟩ := Z0.out.below h
      obtain ⟨_, _, _, d2, d3⟩ := Z1.out.below h
      exact ⟨c0, c1, d2, d3⟩)
    have hS : (wc.cell? ⟨w.heap.size, 0, none⟩ = some (.int .i64 (i : Int)) ∧ wc.cell? ⟨w.heap.size, 1, none⟩ = some (.int .i64 (k : Int)) ∧ wc.frozen? ⟨w.heap.size + 1, 0, none⟩ = false ∧ wc.frozen? ⟨w.heap.size + 1, 1, none⟩ = false) := KS7.out _ hKD
    obtain ⟨_, l0, l1, _, _⟩ := Z1.out.below hKD
    have HWB : Hid (∀ V', Below w2.heap.size w2 V' → Below w.heap.size w V') := Lib.hid (fun V' h => HW2.out.trans (h.mono HW2.out.size))
    have hb : Hid (Below w2.heap.size w2 wc) := Lib.hid hKD
    have hcc : Hid (Below wc.heap.size wc wc) := Lib.hid (Below.refl _ _)
    go_upto_region 7 with fail
    go_region_held3 (fun w' => (w'.cell? ⟨w.heap.size, 0, none⟩ = some (.int .i64 (i : Int)) ∧ w'.cell? ⟨w.heap.size, 1, none⟩ = some (.int .i64 (k : Int)) ∧ w'.frozen? ⟨w.heap.size + 1, 0, none⟩ = false ∧ w'.frozen? ⟨w.heap.size + 1, 1, none⟩ = false)) (first | (with_reducible exact hS) | (refine KS7.out _ ?_; (repeat (first | (with_reducible exact hb.out) | (with_reducible exact Below.refl _ _) | (with_reducible refine Below.drew ?_) | (with_reducible refine Below.alloc ?_ ?_ _) | (with_reducible refine Below.setCell ?_ ?_ _) | omega | (simp <;> omega))); done) | (refine ⟨?_, ?_, ?_, ?_⟩ <;> (first | (simp [go_sem, *]; done) | (obtain ⟨_, _, _, _⟩ := hS; simp [go_sem, *]; done)))) (first
      | (go_at_call 12; ((with_reducible refine (cO2 _ (HWB.out _ (show Below w2.heap.size w2 _ by (repeat (first | (with_reducible exact hb.out) | (with_reducible exact Below.refl _ _) | (with_reducible refine Below.drew ?_) | (with_reducible refine Below.alloc ?_ ?_ _) | (with_reducible refine Below.setCell ?_ ?_ _) | omega | (simp <;> omega)))))).mono ?_); rintro e w9 ⟨vo2, r0, rfl, hown2, hpo2, hk, hnil⟩; have hd := Lib.hid ((show Below w2.heap.size w2 _ by (repeat (first | (with_reducible exact hb.out) | (with_reducible exact Below.refl _ _) | (with_reducible refine Below.drew ?_) | (with_reducible refine Below.alloc ?_ ?_ _) | (with_reducible refine Below.setCell ?_ ?_ _) | omega | (simp <;> omega)))).trans (hk.mono (by first | exact hD2 | omega | (simp; done) | (simp; omega)))); have hcd := Lib.hid ((show Below wc.heap.size wc _ by (repeat (first | (with_reducible exact hcc.out) | (with_reducible exact Below.refl _ _) | (with_reducible refine Below.drew ?_) | (with_reducible refine Below.alloc ?_ ?_ _) | (with_reducible refine Below.setCell ?_ ?_ _) | omega | (simp <;> omega)))).trans (hk.mono (by first | omega | (simp; done) | (simp; omega)))); have h29 : w2.heap.size ≤ wc.heap.size := hD2; obtain ⟨ub, ubc, eub⟩ := own_len hown2.own; subst eub; have OD9 := Lib.hid (OD.out.below hcd.out); have O9 := Lib.hid (And.intro hown2.at.s (And.intro hown2.n (And.intro hnil (show ∀ x ∈ r0, ∀ g', (Value.slice u m.length c).ownBlock = some g' → OffB g' x from fun x hx g' e => offB_lo (hown2.n x hx) (Nat.lt_of_lt_of_le (ownBlk OD.out.own e).2 (by first | exact Nat.le_refl _ | (simp; done) | (simp; omega))))))); have P9 := Lib.hid hpo2; have hr0 := HL2.out _ hpo2; have hlen : m.length + r0.length ≤ 100000 := (by omega); have hsz9 : w2.heap.size ≤ w9.heap.size := hd.out.size; replace hS := KS7.out _ hd.out; clear l0 l1; obtain ⟨_, l0, l1, _, _⟩ := Z1.out.below hd.out; clear hown2 hpo2 hk hnil hb hcc; have hb := hd; have hcc := hcd; clear hd hcd))
      | (refine step_append_docG (by rfl) _ _ rfl w2.heap.size _ (.slice u m.length c) m rfl OD9.out (.slice ub r0.length ubc) r0 rfl O9.out.1 O9.out.2.1 O9.out.2.2.1 (by first | exact hD2 | (simp; omega)) O9.out.2.2.2 hlen hsz9 ?_; intro v10 w10 hD10 grow10; have hd := Lib.hid (hb.out.grown grow10 hsz9 (fun r e => (ownBlk OD9.out.own e).1)); have OD10 := Lib.hid hD10; replace hS := KS7.out _ hd.out; clear l0 l1; obtain ⟨_, l0, l1, _, _⟩ := Z1.out.below hd.out; clear hb hcc hD10 grow10; have hb := hd; clear hd))
    all_goals go_wp2_with fail
    have hw2r : w.heap.size + 1 < w2.heap.size := hw2
    all_goals exact bodyPost_ret (v := .tuple #[v10, .agg #[.int .i64 ((i : Int) + 1), .int .i64 0], .int .i64 0]) (by simp [results, Tryz.results43, go_sem, *]) rfl ⟨v10, m ++ r0, rfl, (((OD10.out.set (p := ⟨w.heap.size + 1, 0, none⟩) hw2 _).set (p := ⟨w.heap.size + 1, 1, none⟩) hw2 _).mono HW2.out.size), HD.out m r0 PD.out P9.out, ((HWB.out _ hb.out).setCell (p := ⟨w.heap.size + 1, 0, none⟩) (Nat.le_succ _) _).setCell (p := ⟨w.heap.size + 1, 1, none⟩) (Nat.le_succ _) _⟩
theorem rdsplit_any (v : Value) (l : List Lw) (p1 p2 : Int) (w : World) (h : DocAt w v l) (hf : Fine (pl l)) :
    Calls Tryz.prog 43 #[v, psV (p1, p2)] w (DocPE (splitP (pl l) (p1, p2)).1 (splitP (pl l) (p1, p2)).2.1 (splitP (pl l) (p1, p2)).2.2 w) := by
  unfold splitP
  cases hA : askedD (pl l) (p1, p2) (p1, p2) with
  | false =>
    have := rdsplit_err v l p1 p2 w h hf (.inl hA)
    rw [hA] at this
    exact this
  | true =>
    by_cases h200 : l.length = 200
    · have := rdsplit_err v l p1 p2 w h hf (.inr h200)
      rw [hA] at this
      rw [if_pos rfl, if_pos (by rw [pl_length]; exact h200)]
      exact this
    · obtain ⟨al, aa, bl, ba, hp, _, hsp, hmay⟩ := askedD_span hA
      simp only [Prod.mk.injEq] at hp
      obtain ⟨rfl, rfl⟩ := hp
      rw [if_pos rfl, if_neg (by rw [pl_length]; exact h200)]
      have hal : al < l.length := by have := hsp.hb; have := hsp.hab; rw [pl_length] at *; omega
      exact rdsplit_ok v l al aa w h hf hal hsp.hka hmay h200

end Go.Proofs.YtafincmcmgedbaaGreatDoor
