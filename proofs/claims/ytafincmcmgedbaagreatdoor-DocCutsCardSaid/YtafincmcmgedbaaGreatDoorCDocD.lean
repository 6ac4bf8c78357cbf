/-
  The program's Step; May, asked.
  The program's and the document's May, Span.
  Is there a document more than is gone through?
  Same of documents: the program's, the document's.
-/
import Derived.Test.YtafincmcmgedbaaGreatDoorCDocC
import Derived.Test.YtafincmcmgedbaaGreatDoorCLMay

namespace Go.Proofs.YtafincmcmgedbaaGreatDoor
open Go.RowKit Go.Lib

theorem offsetD_bound (d : Doc) (p : Ps) : 0 ≤ (offsetD d p).1 ∧ (offsetD d p).1 ≤ sizeD d + d.length := by
  unfold offsetD
  split
  · rename_i h
    obtain ⟨i, k, rfl, h1, h2⟩ := isD_nat h
    have := offN_lt h1 h2
    simp only [Int.toNat_natCast]
    omega
  · simp only []
    omega

set_option maxRecDepth 20000 in
set_option maxHeartbeats 8000000 in
theorem dstep_any (v : Value) (l : List Lw) (p1 p2 z : Int) (w : World) (h : SliceAt w v l) (hf : Fine (pl l)) (hz0 : -(2 ^ 63) ≤ z) (hz1 : z ≤ 2 ^ 63 - 1) :
    Calls Tryz.prog 29 #[v, psV (p1, p2), .int .i64 z] w fun e w' => e = .returned (.tuple #[psV (stepD (pl l) (p1, p2) z).1, .bool (stepD (pl l) (p1, p2) z).2]) ∧ Below w.heap.size w w' := by
  obtain ⟨a, c, rfl⟩ := h.len
  have hl := hf.len
  have hc := hf.cnt
  have hs := hf.s
  unfold stepD
  obtain ⟨⟨C1, C2⟩, hC⟩ : ∃ C, clampD (pl l) (p1, p2) = C := ⟨_, rfl⟩
  obtain ⟨⟨E1, E2⟩, hE⟩ : ∃ E, endD (pl l) = E := ⟨_, rfl⟩
  have hF := offsetD_bound (pl l) (C1, C2)
  have hG := offsetD_bound (pl l) (E1, E2)
  have cC : ∀ w1, Below w.heap.size w w1 → _ := fun w1 h1 => dclamp_any _ l p1 p2 w1 (h.below h1) hl hc
  have cE : ∀ w1, Below w.heap.size w w1 → _ := fun w1 h1 => dend_any _ l w1 (h.below h1) hl
  have cO : ∀ w1, Below w.heap.size w w1 → _ := fun w1 h1 => doffset_any _ l C1 C2 w1 (h.below h1) hl hs
  have cP : ∀ w1, Below w.heap.size w w1 → _ := fun w1 h1 => doffset_any _ l E1 E2 w1 (h.below h1) hl hs
  have cA : ∀ w1 (y : Int), Below w.heap.size w w1 → y ≤ 2 ^ 63 - 1 → _ := fun w1 y h1 h2 => dat_any _ l y w1 (h.below h1) hl hc h2
  have hPl := pl_length l
  rw [hC] at cC
  rw [hE] at cE
  rw [hC, hE]
  obtain ⟨⟨F1, F2⟩, hF1⟩ : ∃ F, offsetD (pl l) (C1, C2) = F := ⟨_, rfl⟩
  obtain ⟨⟨G1, G2⟩, hG1⟩ : ∃ G, offsetD (pl l) (E1, E2) = G := ⟨_, rfl⟩
  rw [hF1] at cO hF ⊢
  rw [hG1] at cP hG ⊢
  dsimp only at hF hG cO cP ⊢
  have hFb : 0 ≤ F1 ∧ F1 ≤ 1001000 := by omega
  have hGb : 0 ≤ G1 ∧ G1 ≤ 1001000 := by omega
  obtain ⟨⟨⟨T1, T2⟩, T3⟩, hT⟩ : ∃ T, atD (pl l) (F1 + z) = T := ⟨_, rfl⟩
  rw [hT]
  have cT : ∀ w1, Below w.heap.size w w1 → F1 + z ≤ 2 ^ 63 - 1 → _ := fun w1 h1 h2 => cA w1 (F1 + z) h1 h2
  rw [hT] at cT
  unfold errZ at cT
  unfold psV at *
  dsimp only at *
  obtain ⟨n, hn⟩ : ∃ n, l.length = n := ⟨_, rfl⟩
  rw [hn] at cC cE cO cP cT hl ⊢
  have P0 := Lib.hid ((ps_new w p1 p2).below (below_alloc1 _ (.cells #[.int .i64 0, .int .i64 0] 24)))
  have P1 := Lib.hid (ps_new (w.alloc (.cells #[.int .i64 p1, .int .i64 p2] 24)) 0 0)
  rw [show (w.alloc (.cells #[.int .i64 p1, .int .i64 p2] 24)).heap.size = w.heap.size + 1 by simp] at P1
  have hX := two_allocs w (.cells #[.int .i64 p1, .int .i64 p2] 24) (.cells #[.int .i64 0, .int .i64 0] 24)
  clear h hf hc hs hF hG hPl hC hE hF1 hG1 hT cA hn
  obtain ⟨hF0, hF1⟩ := hFb
  obtain ⟨hG0, hG1⟩ := hGb
  by_cases hz : G1 - F1 < z
  · rw [if_pos hz]
    go_enter Tryz.func29, Tryz.ntmps29
    have HX := Lib.hid hX
    have KW := Lib.hid (Below.refl ((w.alloc (.cells #[.int .i64 p1, .int .i64 p2] 24)).alloc (.cells #[.int .i64 0, .int .i64 0] 24)).heap.size ((w.alloc (.cells #[.int .i64 p1, .int .i64 p2] 24)).alloc (.cells #[.int .i64 0, .int .i64 0] 24)))
    have hb := hX
    clear hX
    go_wp2_with (first
      | (go_at_call 21; ((with_reducible refine (cC _ hb).mono ?_); rintro e w1 ⟨rfl, hb1⟩; have hk := KW.out.trans (hb1.mono KW.out.size); clear KW; have KW := Lib.hid hk; replace hb := HX.out.trans (hk.mono HX.out.size); obtain ⟨_, z0, z1, g0, g1⟩ := P1.out.below hk; clear hk hb1))
      | (go_at_call 25; ((with_reducible refine (cO _ hb).mono ?_); rintro e w1 ⟨rfl, hb1⟩; have hk := KW.out.trans (hb1.mono KW.out.size); clear KW; have KW := Lib.hid hk; replace hb := HX.out.trans (hk.mono HX.out.size); obtain ⟨_, z0, z1, g0, g1⟩ := P1.out.below hk; clear hk hb1))
      | (go_at_call 17; ((with_reducible refine (cE _ hb).mono ?_); rintro e w1 ⟨rfl, hb1⟩; have hk := KW.out.trans (hb1.mono KW.out.size); clear KW; have KW := Lib.hid hk; replace hb := HX.out.trans (hk.mono HX.out.size); obtain ⟨_, z0, z1, g0, g1⟩ := P1.out.below hk; clear hk hb1))
      | (go_at_call 25; ((with_reducible refine (cP _ hb).mono ?_); rintro e w1 ⟨rfl, hb1⟩; have hk := KW.out.trans (hb1.mono KW.out.size); clear KW; have KW := Lib.hid hk; replace hb := HX.out.trans (hk.mono HX.out.size); obtain ⟨_, z0, z1, g0, g1⟩ := P1.out.below hk; clear hk hb1)))
    exact bodyPost_ret (v := .tuple #[.agg #[.int .i64 E1, .int .i64 E2], .bool false]) (by simp [results, Tryz.results29, go_sem, *]) rfl ⟨rfl, by repeat (first | (with_reducible exact hb) | (with_reducible refine Below.setCell ?_ ?_ _) | exact Nat.le_refl _ | exact Nat.le_succ _)⟩
  · rw [if_neg hz]
    go_enter Tryz.func29, Tryz.ntmps29
    have HX := Lib.hid hX
    have KW := Lib.hid (Below.refl ((w.alloc (.cells #[.int .i64 p1, .int .i64 p2] 24)).alloc (.cells #[.int .i64 0, .int .i64 0] 24)).heap.size ((w.alloc (.cells #[.int .i64 p1, .int .i64 p2] 24)).alloc (.cells #[.int .i64 0, .int .i64 0] 24)))
    have hb := hX
    clear hX
    go_wp2_with (first
      | (go_at_call 21; ((with_reducible refine (cC _ hb).mono ?_); rintro e w1 ⟨rfl, hb1⟩; have hk := KW.out.trans (hb1.mono KW.out.size); clear KW; have KW := Lib.hid hk; replace hb := HX.out.trans (hk.mono HX.out.size); obtain ⟨_, z0, z1, g0, g1⟩ := P1.out.below hk; clear hk hb1))
      | (go_at_call 25; ((with_reducible refine (cO _ hb).mono ?_); rintro e w1 ⟨rfl, hb1⟩; have hk := KW.out.trans (hb1.mono KW.out.size); clear KW; have KW := Lib.hid hk; replace hb := HX.out.trans (hk.mono HX.out.size); obtain ⟨_, z0, z1, g0, g1⟩ := P1.out.below hk; clear hk hb1))
      | (go_at_call 17; ((with_reducible refine (cE _ hb).mono ?_); rintro e w1 ⟨rfl, hb1⟩; have hk := KW.out.trans (hb1.mono KW.out.size); clear KW; have KW := Lib.hid hk; replace hb := HX.out.trans (hk.mono HX.out.size); obtain ⟨_, z0, z1, g0, g1⟩ := P1.out.below hk; clear hk hb1))
      | (go_at_call 25; ((with_reducible refine (cP _ hb).mono ?_); rintro e w1 ⟨rfl, hb1⟩; have hk := KW.out.trans (hb1.mono KW.out.size); clear KW; have KW := Lib.hid hk; replace hb := HX.out.trans (hk.mono HX.out.size); obtain ⟨_, z0, z1, g0, g1⟩ := P1.out.below hk; clear hk hb1))
      | (go_at_call 27; ((with_reducible refine (cT _ hb (by omega)).mono ?_); rintro e w1 ⟨rfl, hb1⟩; have hk := KW.out.trans (hb1.mono KW.out.size); clear KW; have KW := Lib.hid hk; replace hb := HX.out.trans (hk.mono HX.out.size); obtain ⟨_, z0, z1, g0, g1⟩ := P1.out.below hk; clear hk hb1)))
    exact bodyPost_ret (v := .tuple #[.agg #[.int .i64 T1, .int .i64 T2], .bool (T3 == 0)]) (by simp [results, Tryz.results29, go_sem, *]) rfl ⟨rfl, by repeat (first | (with_reducible exact hb) | (with_reducible refine Below.setCell ?_ ?_ _) | (with_reducible refine Below.alloc ?_ ?_ _) | exact Nat.le_refl _ | exact Nat.le_succ _ | exact hb.size | (simp [World.setCell]; exact hb.size))⟩

end Go.Proofs.YtafincmcmgedbaaGreatDoor

namespace Go.Proofs.YtafincmcmgedbaaGreatDoor
open Go.RowKit Go.Lib

/-- What is read of a line that lies, as one value. -/
theorem LinesIn.agg {w : World} {b o : Nat} {l : List Lw} (h : LinesIn w b o l) {j : Nat} (hj : j < l.length) :
    ∃ q za n1 zc k ra n2 rc, w.cell? ⟨b, o + j * 4, none⟩ = some (.int .i64 q) ∧ w.cell? ⟨b, o + j * 4 + 1, none⟩ = some (.slice za n1 zc) ∧ w.cell? ⟨b, o + j * 4 + 2, none⟩ = some (.int .i64 k) ∧ w.cell? ⟨b, o + j * 4 + 3, none⟩ = some (.slice ra n2 rc) ∧
      aggL l[j]! = .agg #[.int .i64 q, .slice za n1 zc, .int .i64 k, .slice ra n2 rc] := by
  obtain ⟨h1, h2, h3, h4⟩ := h j hj
  exact ⟨_, _, _, _, _, _, _, _, h1, h2, h3, h4, rfl⟩
theorem mem_get {l : List Lw} {j : Nat} (h : j < l.length) : l[j]! ∈ l := by
  rw [List.getElem!_eq_getElem?_getD, List.getElem?_eq_getElem h]; exact List.getElem_mem h
theorem lmayA (x : Lw) (w : World) (h : LwAt w x) (hz : x.ln.ls.length ≤ 50000 ∧ x.ln.cs.length ≤ 50000 ∧ Fair x.ln.cs) (hE : Tg.Env w) :
    Calls Tryz.prog 61 #[aggL x] w fun e w' => e = .returned (.bool (mayS x.ln)) ∧ Below w.heap.size w w' :=
  lmay_any x.ln.q x.ln.k x.sl x.sc x.ln.ls x.ln.cs w h hz.1 hz.2.1 hz.2.2 hE
theorem rlmayA (x : Lw) (w : World) (h : LwAt w x) (hz : x.ln.ls.length ≤ 50000 ∧ x.ln.cs.length ≤ 50000 ∧ Fair x.ln.cs) :
    Calls Tryz.prog 63 #[aggL x] w fun e w' => e = .returned (.bool (mayS x.ln)) ∧ Below w.heap.size w w' :=
  rlmay_any x.ln.q x.ln.k x.sl x.sc x.ln.ls x.ln.cs w h hz.2.1 hz.2.2

set_option maxHeartbeats 2000000 in
theorem mayFn_any (x : Lw) (w : World) (h : LwAt w x) (hz : x.ln.ls.length ≤ 50000 ∧ x.ln.cs.length ≤ 50000 ∧ Fair x.ln.cs) (hE : Tg.Env w) :
    Calls Tryz.prog 60 #[aggL x] w fun e w' => e = .returned (.bool (!mayS x.ln)) ∧ Below w.heap.size w w' := by
  have cM : ∀ w1, Below w.heap.size w w1 → _ := fun w1 h1 => lmayA x w1 (h.below h1) hz (hE.below h1)
  unfold aggL Lw.sl Lw.sc at *
  obtain ⟨M, hM⟩ : ∃ M, mayS x.ln = M := ⟨_, rfl⟩
  rw [hM] at cM ⊢
  obtain ⟨za, zc, ra, rc, ⟨q, ls, k, cs⟩⟩ := x
  dsimp only at cM ⊢
  obtain ⟨n1, hn1⟩ : ∃ n, ls.length = n := ⟨_, rfl⟩
  obtain ⟨n2, hn2⟩ : ∃ n, cs.length = n := ⟨_, rfl⟩
  rw [hn1, hn2] at cM ⊢
  clear h hz hE hM hn1 hn2
  have ba : ∀ o, Below w.heap.size w (w.alloc o) := fun o => below_alloc1 _ _
  go_enter Tryz.func60, Tryz.ntmps60
  go_wp2_with (go_at_call 61; ((with_reducible refine (cM _ (ba _)).mono ?_); rintro e w2 ⟨rfl, hb⟩))
  go_ret
  exact ⟨rfl, (ba _).trans (hb.mono (by simp))⟩

theorem anyD_step {P : Lw → Bool} {l : List Lw} {k : Nat} (hk : k < l.length) : (l.drop k).any P = (P l[k]! || (l.drop (k + 1)).any P) := by
  have e : l.drop k = l[k]! :: l.drop (k + 1) := by
    rw [List.drop_eq_getElem_cons hk, List.getElem!_eq_getElem?_getD, List.getElem?_eq_getElem hk]; rfl
  rw [e]
  rfl
def notMay (x : Lw) : Bool := !mayS x.ln
theorem any_notMay (l : List Lw) : (!l.any notMay) = (pl l).all mayS := by
  unfold pl
  induction l with
  | nil => rfl
  | cons x l ih => simp only [List.any_cons, List.map_cons, List.all_cons, Bool.not_or, ih, notMay, Bool.not_not]

set_option maxHeartbeats 4000000 in
theorem indexMay_any (v : Value) (l : List Lw) (w : World) (h : DocAt w v l) (hf : Fine (pl l)) (hE : Tg.Env w) :
    Calls Tryz.prog 104 #[v, .func (.func 60) #[] #[]] w fun e w' => (∃ z : Int, e = .returned (.int .i64 z) ∧ decide (0 ≤ z) = l.any notMay) ∧ Below w.heap.size w w' := by
  obtain ⟨a, c, rfl⟩ := h.s.len
  have hl := hf.len
  have V := Lib.hid h
  have F := Lib.hid hf
  have E := Lib.hid hE
  obtain ⟨n, hn⟩ : ∃ n, l.length = n := ⟨_, rfl⟩
  rw [hn] at hl V ⊢
  have N := Lib.hid hn
  obtain ⟨R, hR⟩ : ∃ R, l.any notMay = R := ⟨_, rfl⟩
  rw [hR]
  have HR : Hid ((l.drop 0).any notMay = R) := Lib.hid hR
  clear h hf hE hn hR
  go_enter Tryz.func104, Tryz.ntmps104
  go_wp2
  go_loopw [8] (fun i wr => ∃ k : Nat, k ≤ n ∧ i = .int .i64 k ∧ Hid ((l.drop k).any notMay = R) ∧ Below w.heap.size w wr) (fun i _ => n - (RowKit.intOf i).toNat)
  case atStart => exact ⟨0, Nat.zero_le _, rfl, HR, Below.refl _ _⟩
  case round =>
    obtain ⟨k, hk, rfl, HK, hb⟩ := hrel
    by_cases hlt : k < n
    · have hkl : k < l.length := by rw [N.out]; exact hlt
      obtain ⟨b, o, c2, e, hlc, hcm, hbl, hcs⟩ := V.out.s.lies (by omega)
      rw [N.out] at e hlc
      obtain ⟨rfl, _, rfl⟩ := Value.slice.inj e
      unfold maxLen at hcm
      obtain ⟨q, za, n1, zc, kk, ra, n2, rc, x0, x1, x2, x3, hag⟩ := (hcs.below hbl hb).agg hkl
      have cF := mayFn_any l[k]! wr ((V.out.n _ (mem_get hkl)).below hb) (F.out.at (mem_get hkl)) (E.out.below hb)
      rw [hag] at cF
      have hst := anyD_step (P := notMay) hkl
      rw [HK.out] at hst
      change _ = ((!mayS (l[k]!).ln) || _) at hst
      obtain ⟨M, hM⟩ : ∃ M, mayS (l[k]!).ln = M := ⟨_, rfl⟩
      rw [hM] at hst cF
      have HS := Lib.hid hst
      have hkI : (k : Int) < (n : Int) := by omega
      have hbw : b < wr.heap.size := Nat.lt_of_lt_of_le hbl hb.size
      clear hst HK hcs e hkl hM hag
      cases M with
      | false =>
        go_wp2_with (go_at_call 60; ((with_reducible refine cF.mono ?_); rintro e w2 ⟨rfl, hb3⟩))
        go_ret
        exact ⟨⟨_, rfl, by rw [HS.out]; simp⟩, hb.trans (hb3.mono hb.size)⟩
      | true =>
        go_wp2_with (go_at_call 60; ((with_reducible refine cF.mono ?_); rintro e w2 ⟨rfl, hb3⟩))
        go_roundw
        case rel => exact ⟨k + 1, hlt, by go_num, Lib.hid (by rw [HS.out]; simp), hb.trans (hb3.mono hb.size)⟩
        case measure => simp [RowKit.intOf]; omega
    · have hkn : k = n := by omega
      subst hkn
      have hR2 : R = false := by rw [← HK.out, List.drop_eq_nil_of_le (by rw [N.out]; omega)]; rfl
      have HR2 := Lib.hid hR2
      clear hR2
      go_wp2
      go_ret
      exact ⟨⟨_, rfl, by rw [HR2.out]; decide⟩, hb⟩
set_option maxHeartbeats 2000000 in
theorem containsMay_any (v : Value) (l : List Lw) (w : World) (h : DocAt w v l) (hf : Fine (pl l)) (hE : Tg.Env w) :
    Calls Tryz.prog 62 #[v, .func (.func 60) #[] #[]] w fun e w' => e = .returned (.bool (l.any notMay)) ∧ Below w.heap.size w w' := by
  have hc := indexMay_any v l w h hf hE
  obtain ⟨R, hR⟩ : ∃ R, l.any notMay = R := ⟨_, rfl⟩
  rw [hR] at hc ⊢
  clear h hf hE hR
  go_enter Tryz.func62, Tryz.ntmps62
  go_wp2_with (go_at_call 104; ((with_reducible refine hc.mono ?_); rintro e w2 ⟨⟨z, rfl, hz⟩, hb⟩))
  go_ret
  exact ⟨rfl, hb⟩

set_option maxHeartbeats 4000000 in
theorem dmay_any (v : Value) (l : List Lw) (w : World) (h : DocAt w v l) (hf : Fine (pl l)) (hE : Tg.Env w) :
    Calls Tryz.prog 13 #[v] w fun e w' => e = .returned (.bool (mayD (pl l))) ∧ Below w.heap.size w w' := by
  obtain ⟨a, c, rfl⟩ := h.s.len
  have hl := hf.len
  have hs := hf.s
  have cS := dsize_any _ l w h.s hl hf.s
  have cM : ∀ w1, Below w.heap.size w w1 → _ := fun w1 h1 => containsMay_any _ l w1 (h.below h1) hf (hE.below h1)
  unfold mayD
  rw [← any_notMay, pl_length]
  obtain ⟨R, hR⟩ : ∃ R, l.any notMay = R := ⟨_, rfl⟩
  rw [hR] at cM ⊢
  obtain ⟨S, hS⟩ : ∃ S, sizeD (pl l) = S := ⟨_, rfl⟩
  rw [hS] at cS hs ⊢
  obtain ⟨n, hn⟩ : ∃ n, l.length = n := ⟨_, rfl⟩
  rw [hn] at cM cS hl ⊢
  clear h hf hE hn hS hR
  by_cases h0 : n = 0
  · subst h0
    rw [decide_eq_false (show ¬ (1 ≤ 0 ∧ 0 ≤ 200) by omega), Bool.false_and, Bool.false_and]
    go_enter Tryz.func13, Tryz.ntmps13
    go_wp2
    go_ret
    exact ⟨rfl, Below.refl _ _⟩
  · have h0I : ¬ (n : Int) = 0 := by omega
    have h0b : ((n : Int) == 0) = false := by simpa using h0I
    by_cases h1 : 200 < n
    · rw [decide_eq_false (show ¬ (1 ≤ n ∧ n ≤ 200) by omega), Bool.false_and, Bool.false_and]
      have h1I : (200 : Int) < n := by omega
      go_enter Tryz.func13, Tryz.ntmps13
      go_wp2
      go_ret
      exact ⟨rfl, Below.refl _ _⟩
    · rw [decide_eq_true (show 1 ≤ n ∧ n ≤ 200 by omega), Bool.true_and]
      have h1I : ¬ (200 : Int) < n := by omega
      by_cases h2 : 4000 < S
      · rw [decide_eq_false (show ¬ (S ≤ 4000) by omega), Bool.false_and]
        have h2I : (4000 : Int) < S := by omega
        go_enter Tryz.func13, Tryz.ntmps13
        go_wp2_with (go_at_call 15; ((with_reducible refine cS.mono ?_); rintro e w2 ⟨rfl, hb⟩))
        go_ret
        exact ⟨rfl, hb⟩
      · rw [decide_eq_true (show S ≤ 4000 by omega), Bool.true_and]
        have h2I : ¬ (4000 : Int) < S := by omega
        go_enter Tryz.func13, Tryz.ntmps13
        go_wp2_with (first
          | (go_at_call 15; ((with_reducible refine cS.mono ?_); rintro e w2 ⟨rfl, hb⟩))
          | (go_at_call 62; ((with_reducible refine (cM _ hb).mono ?_); rintro e w3 ⟨rfl, hb3⟩; replace hb := hb.trans (hb3.mono hb.size))))
        go_ret
        exact ⟨rfl, hb⟩

set_option maxHeartbeats 4000000 in
theorem dasked_any (v : Value) (l : List Lw) (p1 p2 q1 q2 : Int) (w : World) (h : DocAt w v l) (hf : Fine (pl l)) (hE : Tg.Env w) :
    Calls Tryz.prog 75 #[v, psV (p1, p2), psV (q1, q2)] w fun e w' => e = .returned (.bool (askedD (pl l) (p1, p2) (q1, q2))) ∧ Below w.heap.size w w' := by
  obtain ⟨a, c, rfl⟩ := h.s.len
  have cM : ∀ w1, Below w.heap.size w w1 → _ := fun w1 h1 => dmay_any _ l w1 (h.below h1) hf (hE.below h1)
  have cI : ∀ w1 (x y : Int), Below w.heap.size w w1 → _ := fun w1 x y h1 => dis_any _ l x y w1 (h.s.below h1) hf.len hf.cnt
  have cC := fun w1 => dcmp_any p1 p2 q1 q2 w1
  have cP : ∀ w1, Below w.heap.size w w1 → _ := fun w1 h1 => cI w1 p1 p2 h1
  have cQ : ∀ w1, Below w.heap.size w w1 → _ := fun w1 h1 => cI w1 q1 q2 h1
  unfold askedD
  obtain ⟨M, hM⟩ : ∃ M, mayD (pl l) = M := ⟨_, rfl⟩
  obtain ⟨P, hP⟩ : ∃ P, isD (pl l) (p1, p2) = P := ⟨_, rfl⟩
  obtain ⟨Q, hQ⟩ : ∃ Q, isD (pl l) (q1, q2) = Q := ⟨_, rfl⟩
  obtain ⟨C, hC⟩ : ∃ C, cmpP (p1, p2) (q1, q2) = C := ⟨_, rfl⟩
  rw [hM] at cM
  rw [hP] at cP
  rw [hQ] at cQ
  rw [hC] at cC
  rw [hM, hP, hQ, hC]
  unfold psV at *
  dsimp only at *
  obtain ⟨n, hn⟩ : ∃ n, l.length = n := ⟨_, rfl⟩
  rw [hn] at cM cP cQ ⊢
  have A0 := Lib.hid ((ps_new w p1 p2).below (below_alloc1 _ (.cells #[.int .i64 q1, .int .i64 q2] 24)))
  have A1 := Lib.hid (ps_new (w.alloc (.cells #[.int .i64 p1, .int .i64 p2] 24)) q1 q2)
  rw [show (w.alloc (.cells #[.int .i64 p1, .int .i64 p2] 24)).heap.size = w.heap.size + 1 by simp] at A1
  have hX := Lib.hid (two_allocs w (.cells #[.int .i64 p1, .int .i64 p2] 24) (.cells #[.int .i64 q1, .int .i64 q2] 24))
  clear h hf hE cI hM hP hQ hC hn
  cases M <;> cases P <;> cases Q <;>
    (go_enter Tryz.func75, Tryz.ntmps75
     go_wp2_with (first
      | (go_at_call 13; ((with_reducible refine (cM _ hX.out).mono ?_); rintro e w2 ⟨rfl, hk⟩; have KW := Lib.hid hk; have hb := hX.out.trans (hk.mono hX.out.size); obtain ⟨_, y0, y1, _, _⟩ := A0.out.below hk; obtain ⟨_, z0, z1, _, _⟩ := A1.out.below hk; clear hk))
      | (go_at_call 19; ((with_reducible refine (cP _ hb).mono ?_); rintro e w3 ⟨rfl, h3⟩; have hk := KW.out.trans (h3.mono KW.out.size); clear KW; have KW := Lib.hid hk; replace hb := hX.out.trans (hk.mono hX.out.size); obtain ⟨_, y0, y1, _, _⟩ := A0.out.below hk; obtain ⟨_, z0, z1, _, _⟩ := A1.out.below hk; clear hk h3))
      | (go_at_call 19; ((with_reducible refine (cQ _ hb).mono ?_); rintro e w3 ⟨rfl, h3⟩; have hk := KW.out.trans (h3.mono KW.out.size); clear KW; have KW := Lib.hid hk; replace hb := hX.out.trans (hk.mono hX.out.size); obtain ⟨_, y0, y1, _, _⟩ := A0.out.below hk; obtain ⟨_, z0, z1, _, _⟩ := A1.out.below hk; clear hk h3))
      | (go_at_call 23; ((with_reducible refine (cC _).mono ?_); rintro e w3 ⟨rfl, h3⟩; replace hb := hb.trans (h3.mono hb.size))))
     go_ret
     exact ⟨ret_bool (by simp), hb⟩)

end Go.Proofs.YtafincmcmgedbaaGreatDoor

namespace Go.Proofs.YtafincmcmgedbaaGreatDoor
open Go.RowKit Go.Lib

/-- What is counted in a row: its links' letters, by eight. -/
def hrM (l : Row) : Nat → Nat → Nat → Nat
  | 0, _, M => M
  | n + 1, k, M => if M ≤ 20000 then hrM l n (k + 1) (M + (l[k]!).2.2.size / 8) else M
theorem hM_le (l : Row) : ∀ n k M, M ≤ hrM l n k M
  | 0, _, _ => Nat.le_refl _
  | n + 1, k, M => by
    have ih := hM_le l n (k + 1) (M + (l[k]!).2.2.size / 8)
    unfold hrM
    split <;> omega
theorem hM_big (l : Row) {M : Nat} (h : 20000 < M) : ∀ n k, hrM l n k M = M
  | 0, _ => rfl
  | n + 1, k => by unfold hrM; rw [if_neg (by omega)]
theorem hM_all (l : Row) : ∀ n k M, hrM l n k M ≤ 20000 → ∀ j, k ≤ j → j < k + n → (l[j]!).2.2.size / 8 ≤ 20000
  | 0, _, _, _, j, h1, h2 => by omega
  | n + 1, k, M, h, j, h1, h2 => by
    unfold hrM at h
    by_cases hM0 : M ≤ 20000
    · rw [if_pos hM0] at h
      by_cases e : j = k
      · subst e
        have := hM_le l n (j + 1) (M + (l[j]!).2.2.size / 8)
        omega
      · exact hM_all l n (k + 1) _ h j (by omega) (by omega)
    · rw [if_neg hM0] at h
      omega
def lineM (x : Ln) (M : Nat) : Nat := hrM x.cs x.cs.length 0 (M + (x.cs.length + x.ls.length))
def longG : Doc → Nat → Bool
  | [], _ => false
  | x :: d, M => if 20000 < lineM x M then true else longG d (lineM x M)
def longD (d : Doc) : Bool := decide (300 < d.length) || longG d 0
theorem longG_false : ∀ {d : Doc} {M : Nat}, longG d M = false → M ≤ 20000 → sizeD d + M ≤ 20000 ∧ ∀ x ∈ d, x.ls.length ≤ 20000 ∧ x.cs.length ≤ 20000 ∧ Fair x.cs
  | [], M, _, hM0 => ⟨by simpa [sizeD] using hM0, fun x hx => by cases hx⟩
  | x :: d, M, h, hM0 => by
    unfold longG at h
    by_cases hb : 20000 < lineM x M
    · rw [if_pos hb] at h; cases h
    · rw [if_neg hb] at h
      obtain ⟨h1, h2⟩ := longG_false h (by omega)
      have hle := hM_le x.cs x.cs.length 0 (M + (x.cs.length + x.ls.length))
      have hal := hM_all x.cs x.cs.length 0 (M + (x.cs.length + x.ls.length)) (by unfold lineM at hb; omega)
      unfold lineM at hb h1
      refine ⟨by rw [sizeD_cons]; omega, fun y hy => ?_⟩
      rcases List.mem_cons.1 hy with rfl | hy
      · refine ⟨by omega, by omega, fun k hk => ?_⟩
        have := hal k (by omega) (by omega)
        omega
      · exact h2 y hy
theorem longD_false {d : Doc} (h : longD d = false) : Fine d ∧ sizeD d ≤ 20000 ∧ d.length ≤ 300 := by
  unfold longD at h
  simp only [Bool.or_eq_false_iff, decide_eq_false_iff_not] at h
  obtain ⟨h1, h2⟩ := h
  obtain ⟨h3, h4⟩ := longG_false h2 (by omega)
  exact ⟨⟨by omega, fun x hx => ⟨by have := (h4 x hx).1; omega, by have := (h4 x hx).2.1; omega, (h4 x hx).2.2⟩, by omega⟩, by omega, by omega⟩
/-- Lengths that Go gives. -/
def SizedD (l : List Lw) : Prop := ∀ x ∈ l, x.ln.ls.length ≤ 140737488355328 ∧ x.ln.cs.length ≤ 140737488355328 ∧ Sized x.ln.cs
theorem longG_at {l : List Lw} {k M : Nat} (hk : k < l.length) : longG ((pl l).drop k) M = if 20000 < lineM (l[k]!).ln M then true else longG ((pl l).drop (k + 1)) (lineM (l[k]!).ln M) := by
  have h1 : k < (pl l).length := by rw [pl_length]; exact hk
  rw [List.drop_eq_getElem_cons h1]
  have e : (pl l)[k] = (l[k]!).ln := by rw [← pl_get l k hk, List.getElem!_eq_getElem?_getD, List.getElem?_eq_getElem h1]; rfl
  rw [e]
  rfl

set_option maxRecDepth 20000 in
set_option maxHeartbeats 8000000 in
theorem dlong_any (v : Value) (l : List Lw) (w : World) (h : DocAt w v l) (hs : SizedD l) :
    Calls Tryz.prog 59 #[v] w fun e w' => e = .returned (.bool (longD (pl l))) ∧ ∃ z, w' = w.drewN z := by
  obtain ⟨a, c, rfl, hc1, hc2⟩ := h.s.cap
  unfold maxLen at hc2
  obtain ⟨T, hT⟩ : ∃ T, longG (pl l) 0 = T := ⟨_, rfl⟩
  have eB : longD (pl l) = (decide (300 < l.length) || T) := by unfold longD; rw [hT, pl_length]
  rw [eB]
  obtain ⟨n, hn⟩ : ∃ n, l.length = n := ⟨_, rfl⟩
  rw [hn] at hc1 ⊢
  have V := Lib.hid h
  have N := Lib.hid hn
  have S := Lib.hid hs
  have HT : Hid (longG ((pl l).drop 0) 0 = T) := Lib.hid (by rw [List.drop_zero]; exact hT)
  clear h hn hs eB hT
  by_cases hbig : 300 < n
  · have g1 : (300 : Int) < (n : Int) := by omega
    rw [decide_eq_true hbig, Bool.true_or]
    go_enter Tryz.func59, Tryz.ntmps59
    go_wp2
    go_ret
    exact ⟨rfl, 0, rfl⟩
  · have g1 : ¬ (300 : Int) < (n : Int) := by omega
    rw [decide_eq_false hbig, Bool.false_or]
    go_enter Tryz.func59, Tryz.ntmps59
    go_wp2
    go_loopw [3, 4] (fun m i wr => ∃ (k M : Nat), k ≤ n ∧ i = .int .i64 k ∧ m = .int .i64 M ∧ M ≤ 20000 ∧ Hid (longG ((pl l).drop k) M = T) ∧ ∃ z, wr = w.drewN z) (fun m i _ => n - (RowKit.intOf i).toNat)
    case atStart => exact ⟨0, 0, Nat.zero_le _, rfl, rfl, by omega, HT, 0, rfl⟩
    case round =>
      obtain ⟨k, M, hk, rfl, rfl, hM, HM, z, rfl⟩ := hrel
      by_cases hlt : k < n
      · have hkl : k < l.length := by rw [N.out]; exact hlt
        have hkI : (k : Int) < (n : Int) := by omega
        obtain ⟨b, o, c2, e, hlc, hcm, hbl, hcs⟩ := V.out.s.lies (by omega)
        rw [N.out] at e
        obtain ⟨rfl, _, rfl⟩ := Value.slice.inj e
        obtain ⟨_, x1, _, x3⟩ := hcs k hkl
        have hst := HM.out
        rw [longG_at hkl] at hst
        have hxm := mem_get hkl
        have hln := V.out.n _ hxm
        obtain ⟨s1, s2, s3⟩ := S.out _ hxm
        obtain ⟨x, hx⟩ : ∃ x, l[k]! = x := ⟨_, rfl⟩
        rw [hx] at x1 x3 hst hln s1 s2 s3
        unfold Lw.sl at x1
        unfold Lw.sc at x3
        obtain ⟨cs, hcs0⟩ : ∃ cs, x.ln.cs = cs := ⟨_, rfl⟩
        have hr : RowAt w (.slice x.ra x.ln.cs.length x.rc) x.ln.cs := hln.r
        obtain ⟨Q, hQ⟩ : ∃ Q, lineM x.ln M = Q := ⟨_, rfl⟩
        rw [hQ] at hst
        unfold lineM at hQ
        rw [hcs0] at x3 hr hQ s2 s3
        obtain ⟨n2, hn2⟩ : ∃ n, cs.length = n := ⟨_, rfl⟩
        obtain ⟨n1, hn1⟩ : ∃ n, x.ln.ls.length = n := ⟨_, rfl⟩
        rw [hn2] at x3 hr hQ s2
        rw [hn1] at x1 hQ s1
        obtain ⟨za, zc, ra, rc, L⟩ := x
        dsimp only at *
        have R := Lib.hid hr
        have N2 := Lib.hid hn2
        have S3 := Lib.hid s3
        have HQ := Lib.hid hQ
        have HST := Lib.hid hst
        have hw1 : IntKind.i64.wrap ((n2 : Int) + (n1 : Int)) = (n2 : Int) + (n1 : Int) := IntWalk.i64_in _ (by omega)
        have hw2 : IntKind.i64.wrap ((M : Int) + ((n2 : Int) + (n1 : Int))) = (M : Int) + ((n2 : Int) + (n1 : Int)) := IntWalk.i64_in _ (by omega)
        clear hcs e hx hln hcs0 hr hQ hst hn1 hn2 s3 hxm HM HT V S
        go_wp2
        go_quiet (fail)
        go_wp2
        go_loop [3, 5] (fun m i => ∃ (j P : Nat), j ≤ n2 ∧ i = .int .i64 j ∧ m = .int .i64 P ∧ P ≤ 20000 + 281474976710656 ∧ Hid (hrM cs (n2 - j) j P = Q)) (fun _ i => n2 - (RowKit.intOf i).toNat)
        case atStart => exact ⟨0, M + (n2 + n1), Nat.zero_le _, rfl, by go_num, by omega, HQ⟩
        case round =>
          obtain ⟨j, P, hj, rfl, rfl, hP, HP⟩ := hrel
          have hcase : (j < n2 ∧ P ≤ 20000) ∨ ((j < n2 ∧ 20000 < P) ∨ j = n2) := by omega
          rcases hcase with ⟨hjl, hPs⟩ | hex
          · have hjI : (j : Int) < (n2 : Int) := by omega
            have hPI : (P : Int) ≤ 20000 := by omega
            obtain ⟨q, hq⟩ : ∃ q, n2 - j = q + 1 := ⟨n2 - j - 1, by omega⟩
            have hst := HP.out
            rw [hq] at hst
            have hq2 : q = n2 - (j + 1) := by omega
            subst hq2
            unfold hrM at hst
            rw [if_pos hPs] at hst
            have hjc : j < cs.length := by rw [N2.out]; exact hjl
            obtain ⟨b', o', c', e, hlc', hcm', hbl', hcs'⟩ := R.out.lies (by omega)
            rw [N2.out] at e
            obtain ⟨rfl, _, rfl⟩ := Value.slice.inj e
            obtain ⟨_, _, y3⟩ := hcs' j hjc
            have hsz := S3.out.at hjc
            obtain ⟨X, hX⟩ : ∃ X, (cs[j]!).2.2 = X := ⟨_, rfl⟩
            rw [hX] at y3 hsz hst
            have hq0 : (0 : Int) ≤ (X.size : Int) / 8 := by omega
            have hq1 : (X.size : Int) / 8 ≤ 17592186044416 := by omega
            have HS := Lib.hid hst
            clear hX hcs' e hjc hst hq HP hq0
            go_wp2
            go_round
            case rel => exact ⟨j + 1, by omega, by omega, P + X.size / 8, by omega, by omega, HS⟩
            case measure => simp [RowKit.intOf]; omega
          · have eQ : Hid (Q = P) := Lib.hid (by
              rw [← HP.out]
              rcases hex with ⟨_, h2⟩ | h2
              · exact hM_big cs h2 _ _
              · subst h2; rw [Nat.sub_self]; rfl)
            clear HP HQ
            rcases hex with ⟨hjl, hPb⟩ | hjn
            · have hjI : (j : Int) < (n2 : Int) := by omega
              have hPI : (20000 : Int) < (P : Int) := by omega
              have hPJ : ¬ (P : Int) ≤ 20000 := by omega
              have e : T = true := by rw [← HST.out, eQ.out, if_pos (by omega)]
              subst e
              go_wp2
              all_goals go_ret
              all_goals exact ⟨rfl, _, rfl⟩
            · have hjI : ¬ (j : Int) < (n2 : Int) := by omega
              · by_cases hPs : P ≤ 20000
                · have hPI : ¬ (20000 : Int) < (P : Int) := by omega
                  have hPJ : (P : Int) ≤ 20000 := by omega
                  have hst := HST.out
                  rw [eQ.out, if_neg (by omega)] at hst
                  have HZ := Lib.hid hst
                  clear hst
                  go_wp2
                  go_round
                  case rel => exact ⟨k + 1, P, by omega, by go_num, by go_num, hPs, HZ, _, rfl⟩
                  case measure => simp [RowKit.intOf]; omega
                · have hPI : (20000 : Int) < (P : Int) := by omega
                  have hPJ : ¬ (P : Int) ≤ 20000 := by omega
                  have e : T = true := by rw [← HST.out, eQ.out, if_pos (by omega)]
                  subst e
                  go_wp2
                  all_goals go_ret
                  all_goals exact ⟨rfl, _, rfl⟩
      · have hkn : k = n := by omega
        have e : T = false := by rw [← HM.out, List.drop_eq_nil_of_le (by rw [pl_length, N.out]; omega)]; rfl
        subst e
        go_wp2
        all_goals go_ret
        all_goals exact ⟨rfl, _, rfl⟩

end Go.Proofs.YtafincmcmgedbaaGreatDoor

namespace Go.Proofs.YtafincmcmgedbaaGreatDoor
open Go.RowKit Go.Lib

theorem lsameA (x y : Lw) (w : World) (h : LwAt w x) (h' : LwAt w y) (hz : x.ln.ls.length ≤ 50000 ∧ x.ln.cs.length ≤ 50000 ∧ Fair x.ln.cs) :
    Calls Tryz.prog 70 #[aggL x, aggL y] w fun e w' => e = .returned (.bool (sameL x.ln y.ln)) ∧ Below w.heap.size w w' :=
  lsame_any x.ln.q x.ln.k y.ln.q y.ln.k x.sl x.sc y.sl y.sc x.ln.ls y.ln.ls x.ln.cs y.ln.cs w h h' hz.1 hz.2.1
theorem rlsameA (x y : Lw) (w : World) (h : LwAt w x) (h' : LwAt w y) (hz : x.ln.ls.length ≤ 50000 ∧ x.ln.cs.length ≤ 50000 ∧ Fair x.ln.cs) :
    Calls Tryz.prog 56 #[aggL x, aggL y] w fun e w' => e = .returned (.bool (sameL x.ln y.ln)) ∧ Below w.heap.size w w' :=
  rlsame_any x.ln.q x.ln.k y.ln.q y.ln.k x.sl x.sc y.sl y.sc x.ln.ls y.ln.ls x.ln.cs y.ln.cs w h h' hz.1 hz.2.1
theorem sameD_step {d e : Doc} {k : Nat} (h1 : k < d.length) (h2 : k < e.length) : sameD (d.drop k) (e.drop k) = (sameL d[k]! e[k]! && sameD (d.drop (k + 1)) (e.drop (k + 1))) := by
  have e1 : d.drop k = d[k]! :: d.drop (k + 1) := by
    rw [List.drop_eq_getElem_cons h1, List.getElem!_eq_getElem?_getD, List.getElem?_eq_getElem h1]; rfl
  have e2 : e.drop k = e[k]! :: e.drop (k + 1) := by
    rw [List.drop_eq_getElem_cons h2, List.getElem!_eq_getElem?_getD, List.getElem?_eq_getElem h2]; rfl
  rw [e1, e2]
  rfl

set_option maxRecDepth 20000 in
set_option maxHeartbeats 8000000 in
theorem eqf_any (v1 v2 : Value) (l m : List Lw) (w : World) (h1 : DocAt w v1 l) (h2 : DocAt w v2 m) (hf : Fine (pl l)) :
    Calls Tryz.prog 69 #[v1, v2, .func (.func 70) #[] #[]] w fun e w' => e = .returned (.bool (sameD (pl l) (pl m))) ∧ Below w.heap.size w w' := by
  obtain ⟨a1, c1, rfl⟩ := h1.s.len
  obtain ⟨a2, c2, rfl⟩ := h2.s.len
  have hl := hf.len
  have V1 := Lib.hid h1
  have V2 := Lib.hid h2
  have F := Lib.hid hf
  obtain ⟨n, hn⟩ : ∃ n, l.length = n := ⟨_, rfl⟩
  obtain ⟨n2, hn2⟩ : ∃ n, m.length = n := ⟨_, rfl⟩
  rw [hn] at hl V1 ⊢
  rw [hn2] at V2 ⊢
  have N1 := Lib.hid hn
  have N2 := Lib.hid hn2
  by_cases hnn : n = n2
  · subst hnn
    obtain ⟨S, hS⟩ : ∃ S, sameD (pl l) (pl m) = S := ⟨_, rfl⟩
    rw [hS]
    have HS : Hid (sameD ((pl l).drop 0) ((pl m).drop 0) = S) := Lib.hid (by rw [List.drop_zero, List.drop_zero]; exact hS)
    clear h1 h2 hf hn hn2 hS
    go_enter Tryz.func69, Tryz.ntmps69
    go_wp2
    go_loopw [7, 8, 9, 17] (fun _ _ _ i wr => ∃ k : Nat, k ≤ n ∧ i = .int .i64 k ∧ Hid (sameD ((pl l).drop k) ((pl m).drop k) = S) ∧ Below w.heap.size w wr) (fun _ _ _ i _ => n - (RowKit.intOf i).toNat)
    case atStart => exact ⟨0, Nat.zero_le _, rfl, HS, Below.refl _ _⟩
    case round =>
      obtain ⟨k, hk, rfl, HK, hb⟩ := hrel
      by_cases hlt : k < n
      · have hkl : k < l.length := by rw [N1.out]; exact hlt
        have hkm : k < m.length := by rw [N2.out]; exact hlt
        obtain ⟨b, o, d1, e, hlc, hcm, hbl, hcs⟩ := V1.out.s.lies (by omega)
        obtain ⟨b', o', d2, e', hlc', hcm', hbl', hcs'⟩ := V2.out.s.lies (by omega)
        rw [N1.out] at e hlc
        rw [N2.out] at e' hlc'
        obtain ⟨rfl, _, rfl⟩ := Value.slice.inj e
        obtain ⟨rfl, _, rfl⟩ := Value.slice.inj e'
        unfold maxLen at hcm hcm'
        obtain ⟨q, za, n1, zc, kk, ra, n2, rc, x0, x1, x2, x3, hag⟩ := (hcs.below hbl hb).agg hkl
        obtain ⟨q', za', n1', zc', kk', ra', n2', rc', y0, y1, y2, y3, hag'⟩ := (hcs'.below hbl' hb).agg hkm
        have cF : ∀ w1, Below w.heap.size w w1 → _ := fun w1 h1 => lsameA l[k]! m[k]! w1 ((V1.out.n _ (mem_get hkl)).below h1) ((V2.out.n _ (mem_get hkm)).below h1) (F.out.at (mem_get hkl))
        rw [hag, hag'] at cF
        have hst := sameD_step (d := pl l) (e := pl m) (k := k) (by rw [pl_length]; exact hkl) (by rw [pl_length]; exact hkm)
        rw [pl_get l k hkl, pl_get m k hkm, HK.out] at hst
        obtain ⟨M, hM⟩ : ∃ M, sameL (l[k]!).ln (m[k]!).ln = M := ⟨_, rfl⟩
        rw [hM] at hst cF
        have HT := Lib.hid hst
        have hkI : (k : Int) < (n : Int) := by omega
        have hbw : b < wr.heap.size := Nat.lt_of_lt_of_le hbl hb.size
        have hbw' : b' < wr.heap.size := Nat.lt_of_lt_of_le hbl' hb.size
        have hws := hb.size
        clear hst HK hcs hcs' e e' hkl hkm hM hag hag'
        cases M with
        | true =>
          go_wp2_with (go_at_call 70; ((with_reducible refine (cF _ ?hb).mono ?_); (case hb => (repeat (first | (with_reducible exact hb) | (with_reducible refine Below.drew ?_) | (with_reducible refine Below.alloc ?_ ?_ _) | omega | (simp <;> omega)))); rintro e w2 ⟨rfl, hb3⟩; have hb4 := Lib.hid ((show Below w.heap.size w _ by (repeat (first | (with_reducible exact hb) | (with_reducible refine Below.drew ?_) | (with_reducible refine Below.alloc ?_ ?_ _) | omega | (simp <;> omega)))).trans (hb3.mono (by (first | omega | (simp; done) | (simp; omega)))))))
          go_roundw
          case rel => exact ⟨k + 1, hlt, by go_num, Lib.hid (by rw [HT.out]; simp), hb4.out⟩
          case measure => simp [RowKit.intOf]; omega
        | false =>
          go_wp2_with (go_at_call 70; ((with_reducible refine (cF _ ?hb).mono ?_); (case hb => (repeat (first | (with_reducible exact hb) | (with_reducible refine Below.drew ?_) | (with_reducible refine Below.alloc ?_ ?_ _) | omega | (simp <;> omega)))); rintro e w2 ⟨rfl, hb3⟩; have hb4 := Lib.hid ((show Below w.heap.size w _ by (repeat (first | (with_reducible exact hb) | (with_reducible refine Below.drew ?_) | (with_reducible refine Below.alloc ?_ ?_ _) | omega | (simp <;> omega)))).trans (hb3.mono (by (first | omega | (simp; done) | (simp; omega)))))))
          go_ret
          exact ⟨ret_bool (by rw [HT.out]; simp), hb4.out⟩
      · have hkn : k = n := by omega
        subst hkn
        have hS2 : S = true := by rw [← HK.out, List.drop_eq_nil_of_le (by rw [pl_length, N1.out]; omega), List.drop_eq_nil_of_le (by rw [pl_length, N2.out]; omega)]; rfl
        have HS2 := Lib.hid hS2
        clear hS2 HK
        go_wp2
        go_ret
        exact ⟨ret_bool HS2.out.symm, hb⟩
  · have e0 : sameD (pl l) (pl m) = false := by
      cases hc : sameD (pl l) (pl m) with
      | false => rfl
      | true =>
        have := congrArg List.length (sameD_iff.1 hc)
        rw [pl_length, pl_length, hn, hn2] at this
        exact absurd this hnn
    rw [e0]
    have g1 : ((n : Int) != (n2 : Int)) = true := by simp; omega
    have g2 : ¬ (n : Int) = (n2 : Int) := by omega
    clear h1 h2 hf hn hn2 e0 hnn
    go_enter Tryz.func69, Tryz.ntmps69
    go_wp2
    go_ret
    exact ⟨rfl, Below.refl _ _⟩

set_option maxHeartbeats 2000000 in
theorem dsame_any (v1 v2 : Value) (l m : List Lw) (w : World) (h1 : DocAt w v1 l) (h2 : DocAt w v2 m) (hf : Fine (pl l)) :
    Calls Tryz.prog 34 #[v1, v2] w fun e w' => e = .returned (.bool (sameD (pl l) (pl m))) ∧ Below w.heap.size w w' := by
  have hc := eqf_any v1 v2 l m w h1 h2 hf
  obtain ⟨R, hR⟩ : ∃ R, sameD (pl l) (pl m) = R := ⟨_, rfl⟩
  rw [hR] at hc ⊢
  obtain ⟨a1, c1, rfl⟩ := h1.s.len
  obtain ⟨a2, c2, rfl⟩ := h2.s.len
  clear h1 h2 hf hR
  go_enter Tryz.func34, Tryz.ntmps34
  go_wp2_with (go_at_call 69; ((with_reducible refine hc.mono ?_); rintro e w2 ⟨rfl, hb⟩))
  go_ret
  exact ⟨rfl, hb⟩

set_option maxRecDepth 20000 in
set_option maxHeartbeats 8000000 in
theorem rdsame_any (v1 v2 : Value) (l m : List Lw) (w : World) (h1 : DocAt w v1 l) (h2 : DocAt w v2 m) (hf : Fine (pl l)) :
    Calls Tryz.prog 33 #[v1, v2] w fun e w' => e = .returned (.bool (sameD (pl l) (pl m))) ∧ Below w.heap.size w w' := by
  obtain ⟨a1, c1, rfl⟩ := h1.s.len
  obtain ⟨a2, c2, rfl⟩ := h2.s.len
  have hl := hf.len
  have V1 := Lib.hid h1
  have V2 := Lib.hid h2
  have F := Lib.hid hf
  obtain ⟨n, hn⟩ : ∃ n, l.length = n := ⟨_, rfl⟩
  obtain ⟨n2, hn2⟩ : ∃ n, m.length = n := ⟨_, rfl⟩
  rw [hn] at hl V1 ⊢
  rw [hn2] at V2 ⊢
  have N1 := Lib.hid hn
  have N2 := Lib.hid hn2
  by_cases hnn : n = n2
  · subst hnn
    obtain ⟨S, hS⟩ : ∃ S, sameD (pl l) (pl m) = S := ⟨_, rfl⟩
    rw [hS]
    have HS : Hid (sameD ((pl l).drop 0) ((pl m).drop 0) = S) := Lib.hid (by rw [List.drop_zero, List.drop_zero]; exact hS)
    clear h1 h2 hf hn hn2 hS
    go_enter Tryz.func33, Tryz.ntmps33
    go_wp2
    go_loopw [5] (fun i wr => ∃ k : Nat, k ≤ n ∧ i = .int .i64 k ∧ Hid (sameD ((pl l).drop k) ((pl m).drop k) = S) ∧ Below w.heap.size w wr) (fun i _ => n - (RowKit.intOf i).toNat)
    case atStart => exact ⟨0, Nat.zero_le _, rfl, HS, Below.refl _ _⟩
    case round =>
      obtain ⟨k, hk, rfl, HK, hb⟩ := hrel
      by_cases hlt : k < n
      · have hkl : k < l.length := by rw [N1.out]; exact hlt
        have hkm : k < m.length := by rw [N2.out]; exact hlt
        obtain ⟨b, o, d1, e, hlc, hcm, hbl, hcs⟩ := V1.out.s.lies (by omega)
        obtain ⟨b', o', d2, e', hlc', hcm', hbl', hcs'⟩ := V2.out.s.lies (by omega)
        rw [N1.out] at e hlc
        rw [N2.out] at e' hlc'
        obtain ⟨rfl, _, rfl⟩ := Value.slice.inj e
        obtain ⟨rfl, _, rfl⟩ := Value.slice.inj e'
        unfold maxLen at hcm hcm'
        obtain ⟨q, za, n1, zc, kk, ra, n2, rc, x0, x1, x2, x3, hag⟩ := (hcs.below hbl hb).agg hkl
        obtain ⟨q', za', n1', zc', kk', ra', n2', rc', y0, y1, y2, y3, hag'⟩ := (hcs'.below hbl' hb).agg hkm
        have cF : ∀ w1, Below w.heap.size w w1 → _ := fun w1 h1 => rlsameA l[k]! m[k]! w1 ((V1.out.n _ (mem_get hkl)).below h1) ((V2.out.n _ (mem_get hkm)).below h1) (F.out.at (mem_get hkl))
        rw [hag, hag'] at cF
        have hst := sameD_step (d := pl l) (e := pl m) (k := k) (by rw [pl_length]; exact hkl) (by rw [pl_length]; exact hkm)
        rw [pl_get l k hkl, pl_get m k hkm, HK.out] at hst
        obtain ⟨M, hM⟩ : ∃ M, sameL (l[k]!).ln (m[k]!).ln = M := ⟨_, rfl⟩
        rw [hM] at hst cF
        have HT := Lib.hid hst
        have hkI : (k : Int) < (n : Int) := by omega
        have hbw : b < wr.heap.size := Nat.lt_of_lt_of_le hbl hb.size
        have hbw' : b' < wr.heap.size := Nat.lt_of_lt_of_le hbl' hb.size
        have hws := hb.size
        clear hst HK hcs hcs' e e' hkl hkm hM hag hag'
        cases M with
        | true =>
          go_wp2
          go_still_tail 8, (by kernel_rfl)
          change wpList _ _ _ _ _ wr.drew
          go_wp2_with (go_at_call 56; ((with_reducible refine (cF _ ?hb).mono ?_); (case hb => (repeat (first | (with_reducible exact hb) | (with_reducible refine Below.drew ?_) | (with_reducible refine Below.alloc ?_ ?_ _) | omega | (simp <;> omega)))); rintro e w2 ⟨rfl, hb3⟩; have hb4 := Lib.hid ((show Below w.heap.size w _ by (repeat (first | (with_reducible exact hb) | (with_reducible refine Below.drew ?_) | (with_reducible refine Below.alloc ?_ ?_ _) | omega | (simp <;> omega)))).trans (hb3.mono (by (first | omega | (simp; done) | (simp; omega)))))))
          go_roundw
          case rel => exact ⟨k + 1, hlt, by go_num, Lib.hid (by rw [HT.out]; simp), hb4.out⟩
          case measure => simp [RowKit.intOf]; omega
        | false =>
          go_wp2
          go_still_tail 8, (by kernel_rfl)
          change wpList _ _ _ _ _ wr.drew
          go_wp2_with (go_at_call 56; ((with_reducible refine (cF _ ?hb).mono ?_); (case hb => (repeat (first | (with_reducible exact hb) | (with_reducible refine Below.drew ?_) | (with_reducible refine Below.alloc ?_ ?_ _) | omega | (simp <;> omega)))); rintro e w2 ⟨rfl, hb3⟩; have hb4 := Lib.hid ((show Below w.heap.size w _ by (repeat (first | (with_reducible exact hb) | (with_reducible refine Below.drew ?_) | (with_reducible refine Below.alloc ?_ ?_ _) | omega | (simp <;> omega)))).trans (hb3.mono (by (first | omega | (simp; done) | (simp; omega)))))))
          go_ret
          exact ⟨ret_bool (by rw [HT.out]; simp), hb4.out⟩
      · have hkn : k = n := by omega
        subst hkn
        have hS2 : S = true := by rw [← HK.out, List.drop_eq_nil_of_le (by rw [pl_length, N1.out]; omega), List.drop_eq_nil_of_le (by rw [pl_length, N2.out]; omega)]; rfl
        have HS2 := Lib.hid hS2
        clear hS2 HK
        go_wp2
        go_ret
        exact ⟨ret_bool HS2.out.symm, hb⟩
  · have e0 : sameD (pl l) (pl m) = false := by
      cases hc : sameD (pl l) (pl m) with
      | false => rfl
      | true =>
        have := congrArg List.length (sameD_iff.1 hc)
        rw [pl_length, pl_length, hn, hn2] at this
        exact absurd this hnn
    rw [e0]
    have g1 : ((n : Int) != (n2 : Int)) = true := by simp; omega
    have g2 : ¬ (n : Int) = (n2 : Int) := by omega
    clear h1 h2 hf hn hn2 e0 hnn
    go_enter Tryz.func33, Tryz.ntmps33
    go_wp2
    go_ret
    exact ⟨rfl, Below.refl _ _⟩

end Go.Proofs.YtafincmcmgedbaaGreatDoor
