/-
  The program's change; Set.
  The program's Set; Delete.
  The program's Delete.
-/
import Derived.Test.YtafincmcmgedbaaGreatDoorCDocG
import Derived.Test.YtafincmcmgedbaaGreatDoorCSet

namespace Go.Proofs.YtafincmcmgedbaaGreatDoor
open Go.RowKit Go.Lib

theorem DoOk.below {gf : Nat} {caps : Array Value} {u : Row → Nat → Nat → Row} {w w' : World} {d : Doc} (h : DoOk gf caps u w d) (hb : Below w.heap.size w w') : DoOk gf caps u w' d :=
  fun V v cs f t h1 => h V v cs f t (hb.trans (h1.mono hb.size))
theorem DoErr.below {gf : Nat} {caps : Array Value} {w w' : World} {d : Doc} (h : DoErr gf caps w d) (hb : Below w.heap.size w w') : DoErr gf caps w' d :=
  fun V v cs f t h1 => h V v cs f t (hb.trans (h1.mono hb.size))
/-- What a call answers that makes a document, beside an error. -/
def DocE (d : Doc) (er : Int) (w : World) (e : Ending) (w' : World) : Prop := ∃ v r, e = .returned (.tuple #[v, .int .i64 er]) ∧ OwnD w.heap.size w' v r ∧ pl r = d ∧ Below w.heap.size w w'
theorem docE_err {w : World} {e : Ending} {w' : World} {er : Int} (h : e = .returned (.tuple #[.slice none 0 0, .int .i64 er]) ∧ Below w.heap.size w w') : DocE [] er w e w' := ⟨_, [], h.1, ownD_nil _ _, rfl, h.2⟩

set_option maxRecDepth 20000 in
set_option maxHeartbeats 8000000 in
theorem change_off (v : Value) (gf : Nat) (caps : Array Value) (l : List Lw) (p1 p2 q1 q2 : Int) (w : World)
    (hc : ∀ w1, Below w.heap.size w w1 → Calls Tryz.prog 71 #[v, psV (p1, p2), psV (q1, q2), .func (.func gf) #[] caps] w1 fun e w' => e = .returned errV ∧ Below w1.heap.size w1 w') (h : DocAt w v l) :
    Calls Tryz.prog 83 #[v, psV (p1, p2), psV (q1, q2), .func (.func gf) #[] caps] w (DocE [] 1 w) := by
  refine Calls.mono ?_ (fun e w' h => docE_err h)
  obtain ⟨a, c, rfl⟩ := h.s.len
  obtain ⟨n, hn⟩ : ∃ n, l.length = n := ⟨_, rfl⟩
  rw [hn] at hc ⊢
  clear h hn
  unfold psV errV at *
  dsimp only at *
  have hX := Lib.hid (two_allocs w (.cells #[.int .i64 p1, .int .i64 p2] 24) (.cells #[.int .i64 q1, .int .i64 q2] 24))
  go_enter Tryz.func83, Tryz.ntmps83
  go_wp2_with (go_at_call 71; ((with_reducible refine (hc _ hX.out).mono ?_); rintro e w2 ⟨rfl, hk⟩; have hb := hX.out.trans (hk.mono hX.out.size)))
  go_ret2
  exact ⟨rfl, hb⟩

set_option maxRecDepth 20000 in
set_option maxHeartbeats 8000000 in
theorem change_ok (v : Value) (l : List Lw) (al aa bl ba gf : Nat) (caps : Array Value) (u : Row → Nat → Nat → Row) (w : World) (h : DocAt w v l) (hf : Fine (pl l)) (hE : Tg.Env w) (hsp : Span (pl l) al aa bl ba) (hmay : mayD (pl l) = true)
    (hdo : DoOk gf caps u w (pl l)) (hgf : ∀ args W, (callFunc gf args).run Tryz.prog W = .ok (.enter gf args) W) :
    Calls Tryz.prog 83 #[v, psV ((al : Int), (aa : Int)), psV ((bl : Int), (ba : Int)), .func (.func gf) #[] caps] w
      (DocE (if countD (pl l) al aa bl ba = 0 then [] else replaceD (pl l) al bl (eachD (pl l) u (strs (pl l) al aa bl ba))) (if countD (pl l) al aa bl ba = 0 then 7 else 0) w) := by
  obtain ⟨a, c, rfl⟩ := h.s.len
  have hX := two_allocs w (.cells #[.int .i64 (al : Int), .int .i64 (aa : Int)] 24) (.cells #[.int .i64 (bl : Int), .int .i64 (ba : Int)] 24)
  have cE := deach_ok (.slice a l.length c) l al aa bl ba gf caps u _ (h.below hX) hf (hE.below hX) hsp hmay (hdo.below hX) hgf
  have cC : ∀ w1, Below w.heap.size w w1 → _ := fun w1 h1 => dcount_any (.slice a l.length c) l (al : Int) (aa : Int) (bl : Int) (ba : Int) w1 (h.below h1) hf (hE.below h1)
  have hcA : countA (pl l) ((al : Int), (aa : Int)) ((bl : Int), (ba : Int)) = countD (pl l) al aa bl ba := by unfold countA; rw [askedD_mk hsp hmay]; rfl
  rw [hcA] at cC
  have hbl : bl < l.length := by have := hsp.hb; rwa [pl_length] at this
  have hml : ∀ m : List Lw, pl m = eachD (pl l) u (strs (pl l) al aa bl ba) → m.length ≤ 1000 := fun m hm => by
    have h1 := congrArg List.length hm
    rw [pl_length] at h1
    unfold eachD at h1
    rw [List.length_map, strs_length] at h1
    have := hf.len
    omega
  have cR : ∀ (w1 : World) (v2 : Value) (m : List Lw) (B : Nat), Below w.heap.size w w1 → SliceAt w1 v2 m → (∀ x ∈ m, MineLw B w1 x) → pl m = eachD (pl l) u (strs (pl l) al aa bl ba) → B ≤ w1.heap.size → _ := fun w1 v2 m B h1 h2 h3 h4 h5 => dreplace_any (.slice a l.length c) v2 l m al aa bl ba B w1 (h.below h1) hf hbl hsp.hab h2 h3 (hml m h4) h5
  obtain ⟨D, hD⟩ : ∃ D, eachD (pl l) u (strs (pl l) al aa bl ba) = D := ⟨_, rfl⟩
  rw [hD] at cE cR ⊢
  obtain ⟨C, hC⟩ : ∃ C, countD (pl l) al aa bl ba = C := ⟨_, rfl⟩
  rw [hC] at cC ⊢
  unfold psV at *
  dsimp only at *
  obtain ⟨n, hn⟩ : ∃ n, l.length = n := ⟨_, rfl⟩
  rw [hn] at cE cC cR ⊢
  obtain ⟨E, hEE⟩ : ∃ E, replaceD (pl l) al bl D = E := ⟨_, rfl⟩
  have cR2 : ∀ (w1 : World) (v2 : Value) (m : List Lw) (B : Nat), Below w.heap.size w w1 → SliceAt w1 v2 m → (∀ x ∈ m, MineLw B w1 x) → pl m = D → B ≤ w1.heap.size → Calls Tryz.prog 78 #[.slice a n c, .agg #[.int .i64 (al : Int), .int .i64 (aa : Int)], .agg #[.int .i64 (bl : Int), .int .i64 (ba : Int)], v2] w1 fun e w' => ∃ v' r, e = .returned v' ∧ OwnD B w' v' r ∧ pl r = E ∧ Below w1.heap.size w1 w' := fun w1 v2 m B h1 h2 h3 h4 h5 => by
    have h6 := cR w1 v2 m B h1 h2 h3 h4 h5
    rw [h4, hEE] at h6
    exact h6
  rw [hEE]
  have A0 := Lib.hid ((ps_new w (al : Int) (aa : Int)).below (below_alloc1 _ (.cells #[.int .i64 (bl : Int), .int .i64 (ba : Int)] 24)))
  have A1 := Lib.hid (ps_new (w.alloc (.cells #[.int .i64 (al : Int), .int .i64 (aa : Int)] 24)) (bl : Int) (ba : Int))
  rw [show (w.alloc (.cells #[.int .i64 (al : Int), .int .i64 (aa : Int)] 24)).heap.size = w.heap.size + 1 by simp] at A1
  have HX := Lib.hid hX
  clear h hf hE hsp hmay hdo hgf hX hcA hbl hml cR hD hC hn hEE
  by_cases h0 : C = 0
  · subst h0
    rw [if_pos rfl, if_pos rfl]
    refine Calls.mono ?_ (fun e w' h => docE_err h)
    go_enter Tryz.func83, Tryz.ntmps83
    go_wp2_with (first
      | (go_at_call 71; ((with_reducible refine cE.mono ?_); rintro e w2 ⟨v2, m, rfl, o2, p2, hk⟩; have hb := HX.out.trans (hk.mono HX.out.size); obtain ⟨_, y0, y1, _, _⟩ := A0.out.below hk; obtain ⟨_, z0, z1, _, _⟩ := A1.out.below hk; clear o2 p2 hk))
      | (go_at_call 54; ((with_reducible refine (cC _ hb).mono ?_); rintro e w3 ⟨rfl, h3⟩; replace hb := hb.trans (h3.mono hb.size))))
    go_ret2
    exact ⟨rfl, hb⟩
  · rw [if_neg h0, if_neg h0]
    have h0I : ¬ (C : Int) = 0 := by omega
    have h0b : ((C : Int) == 0) = false := by simpa using h0I
    go_enter Tryz.func83, Tryz.ntmps83
    go_wp2_with (first
      | (go_at_call 71; ((with_reducible refine cE.mono ?_); rintro e w2 ⟨v2, m, rfl, o2, p2, hk⟩; have hb := HX.out.trans (hk.mono HX.out.size); have KW := Lib.hid hk; have hle := HX.out.size; have O2 := Lib.hid (And.intro (o2.mono hle) p2); obtain ⟨_, y0, y1, _, _⟩ := A0.out.below hk; obtain ⟨_, z0, z1, _, _⟩ := A1.out.below hk; clear o2 p2 hk))
      | (go_at_call 54; ((with_reducible refine (cC _ hb).mono ?_); rintro e w3 ⟨rfl, h3⟩; have hk := KW.out.trans (h3.mono KW.out.size); replace hb := hb.trans (h3.mono hb.size); have O3 := Lib.hid (And.intro (O2.out.1.below h3) O2.out.2); obtain ⟨_, y0, y1, _, _⟩ := A0.out.below hk; obtain ⟨_, z0, z1, _, _⟩ := A1.out.below hk; clear hk h3))
      | (go_at_call 78; ((with_reducible refine (cR2 _ _ _ _ hb O3.out.1.at.s O3.out.1.n O3.out.2 hb.size).mono ?_); rintro e w4 ⟨v5, r5, rfl, o5, p5, h5⟩; have O5 := Lib.hid (And.intro o5 (And.intro p5 (hb.trans (h5.mono hb.size)))); clear o5 p5 h5)))
    go_ret2
    exact ⟨_, r5, rfl, O5.out.1, O5.out.2.1, O5.out.2.2⟩

end Go.Proofs.YtafincmcmgedbaaGreatDoor

namespace Go.Proofs.YtafincmcmgedbaaGreatDoor
open Go.RowKit Go.Lib

def setU (s c : Int) (r : Row) (f t : Nat) : Row := turnR (setC s c) r f t
/-- What is answered where each row between both is done something to. -/
def chD (d : Doc) (a b : Ps) (u : Row → Nat → Nat → Row) : Doc × Int :=
  if askedD d a b then (if countD d a.1.toNat a.2.toNat b.1.toNat b.2.toNat = 0 then ([], 7) else (replaceD d a.1.toNat b.1.toNat (eachD d u (strs d a.1.toNat a.2.toNat b.1.toNat b.2.toNat)), 0)) else ([], 1)

set_option maxHeartbeats 2000000 in
theorem dsetFn_any (v : Value) (cs : Row) (f t B C : Nat) (s c : Int) (w : World) (hv : RowAt w v cs) (hl : cs.length ≤ 50000) (hft : f ≤ t) (ht : t ≤ cs.length) (h1 : w.cell? ⟨B, 0, none⟩ = some (.int .i64 s)) (h2 : w.cell? ⟨C, 0, none⟩ = some (.int .i64 c)) :
    Calls Tryz.prog 84 #[v, .int .i64 (f : Int), .int .i64 (t : Int), .pointer (some ⟨B, 0, none⟩), .pointer (some ⟨C, 0, none⟩)] w (RowPost (setU s c cs f t) w) := by
  have hc := set_on v cs f t s c w hv hl hft ht
  unfold setU
  obtain ⟨a, cc, rfl⟩ := hv.len
  obtain ⟨R, hR⟩ : ∃ R, turnR (setC s c) cs f t = R := ⟨_, rfl⟩
  obtain ⟨n, hn⟩ : ∃ n, cs.length = n := ⟨_, rfl⟩
  rw [hR, hn] at hc
  rw [hR, hn]
  clear hv hR hn hl ht
  go_enter Tryz.func84, Tryz.ntmps84
  go_wp2_with (go_at_call 85; ((with_reducible refine hc.mono ?_); rintro e w2 ⟨v', rfl, own, hb⟩))
  go_ret2
  exact ⟨v', rfl, own, hb⟩

abbrev boxes4 (w : World) (al aa bl ba s c : Int) : World :=
  (((w.alloc (.cells #[.int .i64 al, .int .i64 aa] 24)).alloc (.cells #[.int .i64 bl, .int .i64 ba] 24)).alloc (.cells #[.int .i64 s] 3)).alloc (.cells #[.int .i64 c] 3)
theorem four_new (w : World) (al aa bl ba s c : Int) : Below w.heap.size w (boxes4 w al aa bl ba s c) ∧ (boxes4 w al aa bl ba s c).cell? ⟨w.heap.size + 1 + 1, 0, none⟩ = some (.int .i64 s) ∧ (boxes4 w al aa bl ba s c).cell? ⟨w.heap.size + 1 + 1 + 1, 0, none⟩ = some (.int .i64 c) := by
  unfold boxes4
  have hX := two_allocs w (.cells #[.int .i64 al, .int .i64 aa] 24) (.cells #[.int .i64 bl, .int .i64 ba] 24)
  have hs : ((w.alloc (.cells #[.int .i64 al, .int .i64 aa] 24)).alloc (.cells #[.int .i64 bl, .int .i64 ba] 24)).heap.size = w.heap.size + 1 + 1 := by simp
  obtain ⟨W, hW⟩ : ∃ W, (w.alloc (.cells #[.int .i64 al, .int .i64 aa] 24)).alloc (.cells #[.int .i64 bl, .int .i64 ba] 24) = W := ⟨_, rfl⟩
  rw [hW] at hX hs ⊢
  have k1 := (blk_new W #[.int .i64 s] 3 _ 0 _ hs rfl).1
  have b1 := below_alloc1 W (.cells #[.int .i64 s] 3)
  have s1 : (W.alloc (.cells #[.int .i64 s] 3)).heap.size = w.heap.size + 1 + 1 + 1 := by rw [World.size_alloc, hs]
  have k2 := (blk_new (W.alloc (.cells #[.int .i64 s] 3)) #[.int .i64 c] 3 _ 0 _ s1 rfl).1
  have b2 := below_alloc1 (W.alloc (.cells #[.int .i64 s] 3)) (.cells #[.int .i64 c] 3)
  exact ⟨hX.trans ((b1.trans (b2.mono b1.size)).mono hX.size), (b2.cell (p := ⟨w.heap.size + 1 + 1, 0, none⟩) (by show w.heap.size + 1 + 1 < _; omega)).trans k1, k2⟩

set_option maxRecDepth 20000 in
set_option maxHeartbeats 8000000 in
theorem dset_any (v : Value) (l : List Lw) (p1 p2 q1 q2 s c : Int) (w : World) (h : DocAt w v l) (hf : Fine (pl l)) (hE : Tg.Env w) :
    Calls Tryz.prog 45 #[v, psV (p1, p2), psV (q1, q2), .int .i64 s, .int .i64 c] w (DocE (chD (pl l) (p1, p2) (q1, q2) (setU s c)).1 (chD (pl l) (p1, p2) (q1, q2) (setU s c)).2 w) := by
  obtain ⟨hX, k1, k2⟩ := four_new w p1 p2 q1 q2 s c
  have hgf := enters_of Tryz.func84 (by kernel_rfl) rfl
  have cH : Calls Tryz.prog 83 #[v, psV (p1, p2), psV (q1, q2), .func (.func 84) #[] #[.pointer (some ⟨w.heap.size + 1 + 1, 0, none⟩), .pointer (some ⟨w.heap.size + 1 + 1 + 1, 0, none⟩)]] (boxes4 w p1 p2 q1 q2 s c) (DocE (chD (pl l) (p1, p2) (q1, q2) (setU s c)).1 (chD (pl l) (p1, p2) (q1, q2) (setU s c)).2 (boxes4 w p1 p2 q1 q2 s c)) := by
    unfold chD
    cases hA : askedD (pl l) (p1, p2) (q1, q2) with
    | false =>
      exact change_off v _ _ l p1 p2 q1 q2 _ (fun w1 h1 => deach_off v _ _ l p1 p2 q1 q2 w1 (h.below (hX.trans (h1.mono hX.size))) hf (hE.below (hX.trans (h1.mono hX.size))) hA) (h.below hX)
    | true =>
      obtain ⟨al, aa, bl, ba, hp, hq, hsp, hmay⟩ := askedD_span hA
      simp only [Prod.mk.injEq] at hp hq
      obtain ⟨rfl, rfl⟩ := hp
      obtain ⟨rfl, rfl⟩ := hq
      have hdo : DoOk 84 #[.pointer (some ⟨w.heap.size + 1 + 1, 0, none⟩), .pointer (some ⟨w.heap.size + 1 + 1 + 1, 0, none⟩)] (setU s c) (boxes4 w (al : Int) (aa : Int) (bl : Int) (ba : Int) s c) (pl l) := by
        intro V v' cs f t h1 h2 h3 h4 h5
        obtain ⟨x, hx, rfl⟩ := h3
        exact dsetFn_any v' x.cs f t _ _ s c V h2 (hf.z x hx).2.1 h4 h5 ((h1.cell (lt_of_cell' k1)).trans k1) ((h1.cell (lt_of_cell' k2)).trans k2)
      have h9 := change_ok v l al aa bl ba _ _ _ _ (h.below hX) hf (hE.below hX) hsp hmay hdo hgf
      simp only [if_true, Int.toNat_natCast]
      by_cases h0 : countD (pl l) al aa bl ba = 0
      · rw [if_pos h0, if_pos h0] at h9
        rw [if_pos h0]
        exact h9
      · rw [if_neg h0, if_neg h0] at h9
        rw [if_neg h0]
        exact h9
  obtain ⟨a, cc, rfl⟩ := h.s.len
  obtain ⟨⟨D, er⟩, hD⟩ : ∃ D, chD (pl l) (p1, p2) (q1, q2) (setU s c) = D := ⟨_, rfl⟩
  rw [hD] at cH ⊢
  dsimp only at cH ⊢
  obtain ⟨n, hn⟩ : ∃ n, l.length = n := ⟨_, rfl⟩
  unfold psV at *
  dsimp only at *
  rw [hn] at cH ⊢
  have HX := Lib.hid hX
  clear h hf hE hX k1 k2 hD hn hgf
  go_enter Tryz.func45, Tryz.ntmps45
  go_wp2_with (go_at_call 83; ((with_reducible refine cH.mono ?_); rintro e w2 ⟨v2, m, rfl, o2, p2, hk⟩; have O2 := Lib.hid (And.intro (o2.mono HX.out.size) (And.intro p2 (HX.out.trans (hk.mono HX.out.size)))); clear o2 p2 hk))
  go_ret2
  exact ⟨_, m, rfl, O2.out.1, O2.out.2.1, O2.out.2.2⟩

end Go.Proofs.YtafincmcmgedbaaGreatDoor

namespace Go.Proofs.YtafincmcmgedbaaGreatDoor
open Go.RowKit Go.Lib

def delP (d : Doc) (a b : Ps) : Doc × Int := if askedD d a b then (deleteD d a.1.toNat a.2.toNat b.1.toNat b.2.toNat, 0) else ([], 1)
/-- A line of one's own, in a slice that was just made. -/
theorem one_mine {B : Nat} {w wc : World} {y : Lw} (hy : MineLw B w y) (hb : Below w.heap.size w wc) : ∀ x ∈ [y], MineLw B wc x := fun x hx => by
  obtain rfl := List.mem_singleton.1 hx
  exact hy.below hb
theorem lines_at {w : World} {a : Option Addr} {n c : Nat} {l : List Lw} (h : DocAt w (.slice a n c) l) (hf : Fine (pl l)) {i : Nat} (hi : i < l.length) :
    ∃ b o q za n1 zc kk ra n2 rc, a = some ⟨b, o, none⟩ ∧ n = l.length ∧ n ≤ c ∧ c ≤ maxLen ∧ b < w.heap.size ∧ w.cell? ⟨b, o + i * 4, none⟩ = some (.int .i64 q) ∧ w.cell? ⟨b, o + i * 4 + 1, none⟩ = some (.slice za n1 zc) ∧ w.cell? ⟨b, o + i * 4 + 2, none⟩ = some (.int .i64 kk) ∧ w.cell? ⟨b, o + i * 4 + 3, none⟩ = some (.slice ra n2 rc) ∧
      aggL l[i]! = .agg #[.int .i64 q, .slice za n1 zc, .int .i64 kk, .slice ra n2 rc] ∧ LwAt w l[i]! ∧ RowAt w (.slice ra n2 rc) (l[i]!).ln.cs ∧ (l[i]!).ln.ls.length ≤ 50000 ∧ (l[i]!).ln.cs.length ≤ 50000 ∧ Fair (l[i]!).ln.cs ∧ (pl l)[i]! = (l[i]!).ln := by
  obtain ⟨b, o, c2, e, hlc, hcm, hbl, hcs⟩ := h.s.lies (by omega)
  obtain ⟨rfl, rfl, rfl⟩ := Value.slice.inj e
  obtain ⟨q, za, n1, zc, kk, ra, n2, rc, x0, x1, x2, x3, k0, k1, k2, k3, k4, k5⟩ := hcs.get hi
  have hxm := mem_get hi
  obtain ⟨z1, z2, z3⟩ := hf.at hxm
  have hw := h.n _ hxm
  have hr := hw.r
  rw [k3] at hr
  exact ⟨b, o, q, za, n1, zc, kk, ra, n2, rc, rfl, rfl, hlc, hcm, hbl, x0, x1, x2, x3, by unfold aggL; rw [k0, k1, k2, k3], hw, hr, z1, z2, z3, pl_get l i hi⟩

set_option maxRecDepth 20000 in
set_option maxHeartbeats 8000000 in
theorem ddelete_off (v : Value) (l : List Lw) (p1 p2 q1 q2 : Int) (w : World) (h : DocAt w v l) (hf : Fine (pl l)) (hE : Tg.Env w) (hA : askedD (pl l) (p1, p2) (q1, q2) = false) :
    Calls Tryz.prog 38 #[v, psV (p1, p2), psV (q1, q2)] w (DocE [] 1 w) := by
  refine Calls.mono ?_ (fun e w' h => docE_err h)
  obtain ⟨a, c, rfl⟩ := h.s.len
  have cA : ∀ w1, Below w.heap.size w w1 → _ := fun w1 h1 => dasked_any _ l p1 p2 q1 q2 w1 (h.below h1) hf (hE.below h1)
  rw [hA] at cA
  obtain ⟨n, hn⟩ : ∃ n, l.length = n := ⟨_, rfl⟩
  rw [hn] at cA ⊢
  clear h hf hE hA hn
  unfold psV at *
  dsimp only at *
  have hX := Lib.hid (two_allocs w (.cells #[.int .i64 p1, .int .i64 p2] 24) (.cells #[.int .i64 q1, .int .i64 q2] 24))
  go_enter Tryz.func38, Tryz.ntmps38
  go_wp2_with (go_at_call 75; ((with_reducible refine (cA _ hX.out).mono ?_); rintro e w2 ⟨rfl, hk⟩; have hb := hX.out.trans (hk.mono hX.out.size)))
  go_ret2
  exact ⟨rfl, hb⟩

theorem box_set3 {w : World} {b : Nat} {q k : Int} {sl sc : Value} (h : BoxAt w b q sl k sc) (u : Value) : BoxAt (w.setCell ⟨b, 3, none⟩ u) b q sl k u := by
  obtain ⟨lt, c0, c1, c2, c3, f0, f1, f2, f3⟩ := h
  refine ⟨by simpa [World.setCell] using lt, ?_, ?_, ?_, ?_, ?_, ?_, ?_, ?_⟩ <;> simp [go_sem, *]
/-- The first line's own, its row laid into it. -/
theorem left_laid {w3 W4 w5 : World} {yl : Lw} {R0 : Row} {rA : Option Addr} {rC : Nat} {B : Nat} (hy : MineLw B w3 yl) (h45 : Below (w3.alloc (.cells #[.int .i64 yl.ln.q, .slice yl.za yl.ln.ls.length yl.zc, .int .i64 yl.ln.k, .slice yl.ra yl.ln.cs.length yl.rc] 46)).heap.size (w3.alloc (.cells #[.int .i64 yl.ln.q, .slice yl.za yl.ln.ls.length yl.zc, .int .i64 yl.ln.k, .slice yl.ra yl.ln.cs.length yl.rc] 46)) w5)
    (ho : w5.ownsRow W4.heap.size 66 3 (.slice rA R0.length rC) R0.length (cellsR R0)) (h4 : w3.heap.size < W4.heap.size) (hB : B ≤ w3.heap.size) :
    BoxAt (w5.setCell ⟨w3.heap.size, 3, none⟩ (.slice rA R0.length rC)) w3.heap.size yl.ln.q (.slice yl.za yl.ln.ls.length yl.zc) yl.ln.k (.slice rA R0.length rC) ∧ Below w3.heap.size w3 (w5.setCell ⟨w3.heap.size, 3, none⟩ (.slice rA R0.length rC)) ∧
    MineLw B (w5.setCell ⟨w3.heap.size, 3, none⟩ (.slice rA R0.length rC)) ⟨yl.za, yl.zc, rA, rC, lnWith yl.ln R0⟩ := by
  have hb3 := below_alloc1 w3 (.cells #[.int .i64 yl.ln.q, .slice yl.za yl.ln.ls.length yl.zc, .int .i64 yl.ln.k, .slice yl.ra yl.ln.cs.length yl.rc] 46)
  have h35 : Below w3.heap.size w3 w5 := hb3.trans (h45.mono hb3.size)
  have h36 : Below w3.heap.size w3 (w5.setCell ⟨w3.heap.size, 3, none⟩ (.slice rA R0.length rC)) := h35.setCell (p := ⟨w3.heap.size, 3, none⟩) (Nat.le_refl _) _
  refine ⟨box_set3 ((box_new w3 yl.ln.q yl.ln.k (.slice yl.za yl.ln.ls.length yl.zc) (.slice yl.ra yl.ln.cs.length yl.rc)).below h45) _, h36, ?_⟩
  exact mineLw_with (hy.below h36) ((own_setCell ho (by show w3.heap.size < _; omega)).mono (by omega)) (Below.refl _ _)

set_option maxRecDepth 40000 in
set_option maxHeartbeats 16000000 in
theorem ddelete_ok (v : Value) (l : List Lw) (al aa bl ba : Nat) (w : World) (h : DocAt w v l) (hf : Fine (pl l)) (hE : Tg.Env w) (hsp : Span (pl l) al aa bl ba) (hmay : mayD (pl l) = true) :
    Calls Tryz.prog 38 #[v, psV ((al : Int), (aa : Int)), psV ((bl : Int), (ba : Int))] w (DocE (deleteD (pl l) al aa bl ba) 0 w) := by
  obtain ⟨a, c, rfl⟩ := h.s.len
  have hX := two_allocs w (.cells #[.int .i64 (al : Int), .int .i64 (aa : Int)] 24) (.cells #[.int .i64 (bl : Int), .int .i64 (ba : Int)] 24)
  have cA : ∀ w1, Below w.heap.size w w1 → _ := fun w1 h1 => dasked_any (.slice a l.length c) l (al : Int) (aa : Int) (bl : Int) (ba : Int) w1 (h.below h1) hf (hE.below h1)
  rw [askedD_mk hsp hmay] at cA
  have hbl : bl < l.length := by have := hsp.hb; rwa [pl_length] at this
  have hab := hsp.hab
  have hal : al < l.length := by omega
  have hka := hsp.hka
  have hkb := hsp.hkb
  rw [cnt_pl hal] at hka
  rw [cnt_pl hbl] at hkb
  obtain ⟨b, o, q, za, n1, zc, kk, ra, n2, rc, rfl, _, hlc, hcm, hbs, x0, x1, x2, x3, hag, hlw, hr, hz1, hz2, hz3, hpg⟩ := lines_at h hf hal
  obtain ⟨b', o', q', za', n1', zc', kk', ra', n2', rc', eb, _, _, _, _, x0', x1', x2', x3', _, _, hr', _, hz2', _, hpg'⟩ := lines_at h hf hbl
  simp only [Option.some.injEq, Addr.mk.injEq, and_true] at eb
  obtain ⟨rfl, rfl⟩ := eb
  unfold maxLen at hcm
  obtain ⟨x, hx⟩ : ∃ x, l[al]! = x := ⟨_, rfl⟩
  obtain ⟨x', hx'⟩ : ∃ x, l[bl]! = x := ⟨_, rfl⟩
  rw [hx] at hag hlw hr hz1 hz2 hz3 hpg hka
  rw [hx'] at hr' hz2' hpg' hkb
  obtain ⟨v1, s1, r1⟩ := slice_h hr aa hka
  obtain ⟨v2, s2, r2⟩ := slice_l hr' ba hkb
  obtain ⟨a1, c1, e1⟩ := s1.len
  obtain ⟨a2, c2, e2⟩ := s2.len
  subst e1 e2
  have cF : ∀ w1, Below w.heap.size w w1 → _ := fun w1 h1 => lframeA x w1 (hlw.below h1) hz1
  rw [hag] at cF
  have cC : ∀ (w1 : World) (g : Nat), Below w.heap.size w w1 → w1.cell? ⟨g, 0, none⟩ = some (.slice a1 (x.ln.cs.take aa).length c1) → w1.cell? ⟨g, 1, none⟩ = some (.slice a2 (x'.ln.cs.drop ba).length c2) → _ := fun w1 g h1 h2 h3 => concat2 g _ _ (x.ln.cs.take aa) (x'.ln.cs.drop ba) w1 h2 h3 (s1.below h1) (s2.below h1) (by rw [List.length_take, List.length_drop]; omega)
  obtain ⟨R0, hR0⟩ : ∃ R0, x.ln.cs.take aa ++ x'.ln.cs.drop ba = R0 := ⟨_, rfl⟩
  rw [hR0] at cC
  have cR : ∀ (w1 : World) (v2 : Value) (y : Lw), Below w.heap.size w w1 → SliceAt w1 v2 [y] → MineLw w.heap.size w1 y → _ := fun w1 v2 y h1 h2 h3 => dreplace_any (.slice (some ⟨b, o, none⟩) l.length c) v2 l [y] al aa bl ba w.heap.size w1 (h.below h1) hf hbl hab h2 (fun z hz => by obtain rfl := List.mem_singleton.1 hz; exact h3) (by simp) h1.size
  have hdel : ∀ y : Lw, y.ln = lnWith x.ln R0 → replaceD (pl l) al bl (pl [y]) = deleteD (pl l) al aa bl ba := fun y hy => by
    unfold deleteD pl
    rw [List.map_cons, List.map_nil, hy]
    have e1 : (List.map (fun x => x.ln) l)[al]! = x.ln := hpg
    have e2 : (List.map (fun x => x.ln) l)[bl]! = x'.ln := hpg'
    rw [e1, e2, hR0]
  obtain ⟨m1, hm1⟩ : ∃ m, (x.ln.cs.take aa).length = m := ⟨_, rfl⟩
  obtain ⟨m2, hm2⟩ : ∃ m, (x'.ln.cs.drop ba).length = m := ⟨_, rfl⟩
  rw [hm1] at cC r1
  rw [hm2] at cC r2
  have hK : ∀ V', Below w.heap.size w V' → V'.cell? ⟨b, o + al * 4, none⟩ = some (.int .i64 q) ∧ V'.cell? ⟨b, o + al * 4 + 1, none⟩ = some (.slice za n1 zc) ∧ V'.cell? ⟨b, o + al * 4 + 2, none⟩ = some (.int .i64 kk) ∧ V'.cell? ⟨b, o + al * 4 + 3, none⟩ = some (.slice ra n2 rc) ∧ V'.cell? ⟨b, o + bl * 4 + 3, none⟩ = some (.slice ra' n2' rc') := fun V' hV' =>
    ⟨(hV'.cell (lt_of_cell' x0)).trans x0, (hV'.cell (lt_of_cell' x1)).trans x1, (hV'.cell (lt_of_cell' x2)).trans x2, (hV'.cell (lt_of_cell' x3)).trans x3, (hV'.cell (lt_of_cell' x3')).trans x3'⟩
  have HK := Lib.hid hK
  have HD := Lib.hid hdel
  have A0 := Lib.hid ((ps_new w (al : Int) (aa : Int)).below (below_alloc1 _ (.cells #[.int .i64 (bl : Int), .int .i64 (ba : Int)] 24)))
  have A1 := Lib.hid (ps_new (w.alloc (.cells #[.int .i64 (al : Int), .int .i64 (aa : Int)] 24)) (bl : Int) (ba : Int))
  rw [show (w.alloc (.cells #[.int .i64 (al : Int), .int .i64 (aa : Int)] 24)).heap.size = w.heap.size + 1 by simp] at A1
  have HX := Lib.hid hX
  unfold psV at *
  dsimp only at *
  obtain ⟨n, hn⟩ : ∃ n, l.length = n := ⟨_, rfl⟩
  rw [hn] at cA cR hlc hal hbl ⊢
  clear h hf hE hsp hmay hX hx hx' hag hlw hr hz1 hz2 hz3 hpg hr' hz2' hpg' s1 s2 hK hdel x0 x1 x2 x3 x0' x1' x2' x3' hn hR0 hm1 hm2 hka hkb
  go_enter Tryz.func38, Tryz.ntmps38
  go_wp2_with (first
    | (go_at_call 75; ((with_reducible refine (cA _ HX.out).mono ?_); rintro e w2 ⟨rfl, hk⟩; have KW := Lib.hid hk; have hb := HX.out.trans (hk.mono HX.out.size); obtain ⟨x0, x1, x2, x3, x4⟩ := HK.out _ hb; obtain ⟨_, y0, y1, _, _⟩ := A0.out.below hk; obtain ⟨_, z0, z1, _, _⟩ := A1.out.below hk; clear hk))
    | (go_at_call 76; ((with_reducible refine (cF _ hb).mono ?_); rintro e w3 ⟨yl, rfl, hyl, hy, h3⟩; have hk := KW.out.trans (h3.mono KW.out.size); have hle3 := hb.size; have HY := Lib.hid (And.intro hyl (hy.mono hle3)); replace hb := hb.trans (h3.mono hb.size); have KW3 := Lib.hid hk; unfold aggL Lw.sl Lw.sc; clear hk h3 hyl hy KW x0 x1 x2 x3 x4 y0 y1 z0 z1)))
  obtain ⟨W3, hW3⟩ : ∃ W3, w3.alloc (.cells #[.int .i64 yl.ln.q, .slice yl.za yl.ln.ls.length yl.zc, .int .i64 yl.ln.k, .slice yl.ra yl.ln.cs.length yl.rc] 46) = W3 := ⟨_, rfl⟩
  have hb3 := below_alloc1 w3 (.cells #[.int .i64 yl.ln.q, .slice yl.za yl.ln.ls.length yl.zc, .int .i64 yl.ln.k, .slice yl.ra yl.ln.cs.length yl.rc] 46)
  have hbx := box_new w3 yl.ln.q yl.ln.k (.slice yl.za yl.ln.ls.length yl.zc) (.slice yl.ra yl.ln.cs.length yl.rc)
  have hsW : W3.heap.size = w3.heap.size + 1 := by rw [← hW3, World.size_alloc]
  rw [hW3] at hb3 hbx ⊢
  have hbW : Below w.heap.size w W3 := hb.trans (hb3.mono hb.size)
  have hk3 := KW3.out.trans (hb3.mono KW3.out.size)
  have hs23 := KW3.out.size
  obtain ⟨x0, x1, x2, x3, x4⟩ := HK.out _ hbW
  obtain ⟨_, y0, y1, _, _⟩ := A0.out.below hk3
  obtain ⟨_, z0, z1, _, _⟩ := A1.out.below hk3
  have HB := Lib.hid (And.intro hb (And.intro hbW (And.intro hk3 hbx)))
  have HW3 := Lib.hid hW3
  have hbs3 : b < W3.heap.size := Nat.lt_of_lt_of_le hbs hbW.size
  have halI : (al : Int) < (n : Int) := by omega
  have hblI : (bl : Int) < (n : Int) := by omega
  clear hb hbW hk3 hbx hW3 hb3
  go_still_tail 18, (by kernel_rfl)
  change wpList _ _ _ _ _ W3.drew
  have hlt3 : w3.heap.size < W3.heap.size := by omega
  go_wp2_with (first
    | (go_at_call 77; ((with_reducible refine (cC _ _ ?hb ?c1 ?c2).mono ?_); (case hb => exact (HB.out.2.1.alloc HB.out.2.1.size _).drew); (case c1 => exact (blk_new W3 _ _ _ 0 _ hsW rfl).1); (case c2 => exact (blk_new W3 _ _ _ 1 _ hsW rfl).1); rintro e w5 ⟨vr, rfl, own, hb5⟩; obtain ⟨rA, rC, hvr⟩ := own_len own; subst hvr; have h45 : Below W3.heap.size W3 w5 := ((Below.refl W3.heap.size W3).alloc (Nat.le_refl _) _).drew.trans (hb5.mono (by show W3.heap.size ≤ (W3.alloc _).heap.size; rw [World.size_alloc]; omega)); obtain ⟨_, l0, l1, l2, l3, g0, g1, g2, g3⟩ := HB.out.2.2.2.below h45; obtain ⟨bx6, h36, hm6⟩ := left_laid (w3 := w3) HY.out.2 (by rw [HW3.out]; exact h45) own (by show w3.heap.size < (W3.alloc _).heap.size; rw [World.size_alloc]; omega) HB.out.1.size; have hbw6 := HB.out.1.trans (h36.mono HB.out.1.size); have hk6 := KW3.out.trans (h36.mono KW3.out.size); clear x0 x1 x2 x3 x4 y0 y1 z0 z1; obtain ⟨_, y0, y1, _, _⟩ := A0.out.below hk6; obtain ⟨_, z0, z1, _, _⟩ := A1.out.below hk6; have hm7 : MineLw w.heap.size (w5.setCell ⟨w3.heap.size, 3, none⟩ (.slice rA R0.length rC)) ⟨yl.za, yl.zc, rA, rC, ⟨yl.ln.q, yl.ln.ls, yl.ln.k, R0⟩⟩ := hm6; have HL := Lib.hid (And.intro hbw6 hm7); have h1 := one_line (w5.setCell ⟨w3.heap.size, 3, none⟩ (.slice rA R0.length rC)) ⟨yl.za, yl.zc, rA, rC, ⟨yl.ln.q, yl.ln.ls, yl.ln.k, R0⟩⟩; dsimp only [Lw.sl, Lw.sc] at h1; rw [show (w5.setCell ⟨w3.heap.size, 3, none⟩ (.slice rA R0.length rC)).heap.size = w5.heap.size by simp [World.setCell]] at h1; have H1 := Lib.hid h1; obtain ⟨_, l0', l1', l2', l3', _, _, _, _⟩ := bx6; clear own hb5 h45 h36 hbw6 hk6 hm6 hm7 h1))
    | (go_at_call 78; ((with_reducible refine (cR _ _ ⟨yl.za, yl.zc, rA, rC, ⟨yl.ln.q, yl.ln.ls, yl.ln.k, R0⟩⟩ (HL.out.1.alloc HL.out.1.size _) H1.out (HL.out.2.below (below_alloc1 _ _))).mono ?_); rintro e w7 ⟨v7, r7, rfl, o7, p7, h7⟩; have O7 := Lib.hid (And.intro o7 (And.intro p7 h7)); clear o7 p7 h7)))
  go_ret2
  exact ⟨_, r7, rfl, O7.out.1, O7.out.2.1.trans (HD.out _ (by show (⟨yl.ln.q, yl.ln.ls, yl.ln.k, R0⟩ : Ln) = _; rw [HY.out.1]; rfl)), (HL.out.1.alloc HL.out.1.size _).trans (O7.out.2.2.mono (by have := HL.out.1.size; rw [World.size_alloc]; omega))⟩
theorem ddelete_any (v : Value) (l : List Lw) (p1 p2 q1 q2 : Int) (w : World) (h : DocAt w v l) (hf : Fine (pl l)) (hE : Tg.Env w) :
    Calls Tryz.prog 38 #[v, psV (p1, p2), psV (q1, q2)] w (DocE (delP (pl l) (p1, p2) (q1, q2)).1 (delP (pl l) (p1, p2) (q1, q2)).2 w) := by
  unfold delP
  cases hA : askedD (pl l) (p1, p2) (q1, q2) with
  | false => exact ddelete_off v l p1 p2 q1 q2 w h hf hE hA
  | true =>
    obtain ⟨al, aa, bl, ba, hp, hq, hsp, hmay⟩ := askedD_span hA
    simp only [Prod.mk.injEq] at hp hq
    obtain ⟨rfl, rfl⟩ := hp
    obtain ⟨rfl, rfl⟩ := hq
    exact ddelete_ok v l al aa bl ba w h hf hE hsp hmay

end Go.Proofs.YtafincmcmgedbaaGreatDoor
