/-
  The document's Count, Set, Link.
-/
import Derived.Test.YtafincmcmgedbaaGreatDoorCDocN
import Derived.Test.YtafincmcmgedbaaGreatDoorCLink
import Derived.Test.YtafincmcmgedbaaGreatDoorCDocU
import Derived.Test.YtafincmcmgedbaaGreatDoorCDocX
import Derived.BigGuardPart
import Derived.Laws.OwnMore

namespace Go.Proofs.YtafincmcmgedbaaGreatDoor
open Go.RowKit Go.Lib

/-! ### a line's row is laid anew in a document of one's own -/
theorem rs_own_ne {w : World} {B e size n r : Nat} {v : Value} {xs : List Value} (h : w.ownsRow B e size v n xs) (hr : r < B) : v.ownBlock ≠ some r := by
  rcases h.2 with ⟨rfl, _⟩ | ⟨g, cap, cur, rfl, hB, _⟩
  · simp [Value.ownBlock]
  · intro e
    have : g = r := by simpa [Value.ownBlock] using e
    omega
def putRow (x : Lw) (rA : Option Addr) (rC : Nat) (r : Row) : Lw := ⟨x.za, x.zc, rA, rC, lnWith x.ln r⟩
theorem cellsD_put (rA : Option Addr) (rC : Nat) (r : Row) : ∀ (l : List Lw) (k : Nat), k < l.length → (cellsD l).set (k * 4 + 3) (.slice rA r.length rC) = cellsD (l.set k (putRow l[k]! rA rC r))
  | [], k, h => by simp at h
  | a :: l, 0, _ => rfl
  | a :: l, k + 1, h => by
    have ih := cellsD_put rA rC r l k (by simpa using h)
    have e1 : (k + 1) * 4 + 3 = k * 4 + 3 + 1 + 1 + 1 + 1 := by omega
    have e : cellsD (a :: l) = .int .i64 a.ln.q :: a.sl :: .int .i64 a.ln.k :: a.sc :: cellsD l := rfl
    have e2 : (a :: l)[k + 1]! = l[k]! := by simp
    rw [e, e1, e2]
    show _ = .int .i64 a.ln.q :: a.sl :: .int .i64 a.ln.k :: a.sc :: cellsD (l.set k (putRow l[k]! rA rC r))
    rw [← ih]
    rfl
theorem OwnD.putRow {B g n cap k : Nat} {w w2 : World} {m : List Lw} {rA : Option Addr} {rC : Nat} {r : Row} (h : OwnD B w (.slice (some ⟨g, 0, none⟩) n cap) m) (hn : m.length = n) (hb : Below w.heap.size w w2) (hB : B ≤ w.heap.size) (hk : k < m.length)
    (own : w2.ownsRow w.heap.size 66 3 (.slice rA r.length rC) r.length (cellsR r)) :
    OwnD B (w2.setCell ⟨g, k * 4 + 3, none⟩ (.slice rA r.length rC)) (.slice (some ⟨g, 0, none⟩) n cap) (m.set k (putRow m[k]! rA rC r)) ∧ Below B w2 (w2.setCell ⟨g, k * 4 + 3, none⟩ (.slice rA r.length rC)) := by
  subst hn
  obtain ⟨hg1, hg2⟩ := ownBlk h.own rfl
  have h2 := h.below hb
  obtain ⟨o2, _⟩ := h2.own.stored (k * 4 + 3) (.slice rA r.length rC)
  have hmem : m[k]! ∈ m := mem_get hk
  have hne : (Value.slice rA r.length rC).ownBlock ≠ some g := rs_own_ne own hg2
  have own2 := own_set2 (p := ⟨g, k * 4 + 3, none⟩) (u := .slice rA r.length rC) own hne
  have hy : MineLw B (w2.setCell ⟨g, k * 4 + 3, none⟩ (.slice rA r.length rC)) (Go.Proofs.YtafincmcmgedbaaGreatDoor.putRow m[k]! rA rC r) := by
    have h3 := (h2.n _ hmem).set (p := ⟨g, k * 4 + 3, none⟩) (h.ap _ hmem g rfl) (.slice rA r.length rC)
    exact ⟨h3.z, (mineR_of_own own2).mono hB (Nat.le_refl _)⟩
  refine ⟨⟨by rw [List.length_set, ← cellsD_put _ _ _ _ _ hk]; exact o2, fun x hx => ?_, fun x hx g' e => ?_⟩, (Below.refl B w2).setCell (p := ⟨g, k * 4 + 3, none⟩) hg1 _⟩
  · rcases List.mem_or_eq_of_mem_set hx with hx | rfl
    · exact (h2.n x hx).set (p := ⟨g, k * 4 + 3, none⟩) (h.ap x hx g rfl) _
    · exact hy
  · obtain rfl : g = g' := by simpa [Value.ownBlock] using e
    rcases List.mem_or_eq_of_mem_set hx with hx | rfl
    · exact h.ap x hx g rfl
    · rintro g' o (⟨e1, hl⟩ | ⟨e1, hl⟩)
      · exact h.ap _ hmem g rfl g' o (.inl ⟨e1, hl⟩)
      · intro e2
        subst e2
        have e3 : rA = some ⟨g', o, none⟩ := e1
        exact hne (by rw [e3]; rfl)
theorem pl_set (m : List Lw) (k : Nat) (y : Lw) : pl (m.set k y) = (pl m).set k y.ln := by unfold pl; rw [List.map_set]
theorem set_get (d : Doc) (k j : Nat) (x : Ln) (hk : k < d.length) : (d.set k x)[j]! = if j = k then x else d[j]! := by
  rw [List.getElem!_eq_getElem?_getD, List.getElem?_set]
  by_cases e : k = j
  · subst e
    rw [if_pos rfl, if_pos rfl, if_pos hk]; rfl
  · rw [if_neg e, if_neg (fun h => e h.symm), List.getElem!_eq_getElem?_getD]
theorem doc_ext {d e : Doc} (hl : d.length = e.length) (h : ∀ j, j < d.length → d[j]! = e[j]!) : d = e := by
  refine List.ext_getElem hl (fun j h1 h2 => ?_)
  have := h j h1
  rw [List.getElem!_eq_getElem?_getD, List.getElem!_eq_getElem?_getD, List.getElem?_eq_getElem h1, List.getElem?_eq_getElem h2] at this
  exact this

/-! ### Count -/
theorem part_count (d : Doc) (p1 p2 q1 q2 : Int) : sizeD (partP d (p1, p2) (q1, q2)).1 = countA d (p1, p2) (q1, q2) := by
  cases hA : askedD d (p1, p2) (q1, q2) with
  | false => unfold partP countA; rw [hA]; rfl
  | true =>
    obtain ⟨al, aa, bl, ba, hp, hq, hsp, hmay⟩ := askedD_span hA
    simp only [Prod.mk.injEq] at hp hq
    obtain ⟨rfl, rfl⟩ := hp
    obtain ⟨rfl, rfl⟩ := hq
    rw [← cells_count hsp hmay, ← flatD_length]
    rfl
theorem part_fine (d : Doc) (p1 p2 q1 q2 : Int) (hf : Fine d) : (partP d (p1, p2) (q1, q2)).1.length ≤ 1000 ∧ countA d (p1, p2) (q1, q2) ≤ 1000000 := by
  cases hA : askedD d (p1, p2) (q1, q2) with
  | false => unfold partP countA; rw [hA]; exact ⟨Nat.zero_le _, Nat.zero_le _⟩
  | true =>
    obtain ⟨al, aa, bl, ba, hp, hq, hsp, hmay⟩ := askedD_span hA
    simp only [Prod.mk.injEq] at hp hq
    obtain ⟨rfl, rfl⟩ := hp
    obtain ⟨rfl, rfl⟩ := hq
    have h1 := part_size hsp hmay
    rw [part_count] at h1
    have h2 := hf.s
    refine ⟨?_, by omega⟩
    unfold partP
    rw [askedD_mk hsp hmay]
    have h3 := hsp.hb
    have h4 := hf.n
    show (eachD d partU (strs d al aa bl ba)).length ≤ 1000
    rw [each_len]
    omega

set_option maxRecDepth 20000 in
set_option maxHeartbeats 8000000 in
theorem rdcount_any (v : Value) (l : List Lw) (p1 p2 q1 q2 : Int) (w : World) (h : DocAt w v l) (hf : Fine (pl l)) :
    Calls Tryz.prog 86 #[v, psV (p1, p2), psV (q1, q2)] w fun e w' => e = .returned (.int .i64 ((countA (pl l) (p1, p2) (q1, q2) : Nat) : Int)) ∧ Below w.heap.size w w' := by
  obtain ⟨a, cc, rfl⟩ := h.s.len
  have hX := Lib.hid (two_allocs w (.cells #[.int .i64 p1, .int .i64 p2] 24) (.cells #[.int .i64 q1, .int .i64 q2] 24))
  have cP := rdpart_any _ l p1 p2 q1 q2 _ (h.below hX.out) hf
  obtain ⟨f1, f2⟩ := part_fine (pl l) p1 p2 q1 q2 hf
  have f3 := part_count (pl l) p1 p2 q1 q2
  obtain ⟨⟨P, er⟩, hP⟩ : ∃ P, partP (pl l) (p1, p2) (q1, q2) = P := ⟨_, rfl⟩
  obtain ⟨C, hC⟩ : ∃ C, countA (pl l) (p1, p2) (q1, q2) = C := ⟨_, rfl⟩
  rw [hP] at cP f1 f3
  rw [hC] at f2 f3 ⊢
  obtain ⟨n0, hn0⟩ : ∃ n, l.length = n := ⟨_, rfl⟩
  rw [hn0] at cP ⊢
  dsimp only at cP f1 f3
  have cS : ∀ (v2 : Value) (r : List Lw) w1, SliceAt w1 v2 r → pl r = P → Calls Tryz.prog 16 #[v2] w1 fun e w' => e = .returned (.int .i64 (C : Int)) ∧ Below w1.heap.size w1 w' := fun v2 r w1 h1 h2 => by
    have := rdsize_any v2 r w1 h1 (by rw [← pl_length, h2]; exact f1) (by rw [h2, f3]; exact f2)
    rw [h2, f3] at this
    exact this
  have CS := Lib.hid cS
  unfold psV at *
  dsimp only at *
  clear h hf hP hn0 hC f1 f2 f3 cS
  go_enter Tryz.func86, Tryz.ntmps86
  go_wp2_with (first
    | (go_at_call 37; ((with_reducible refine cP.mono ?_); rintro e w2 ⟨s, r, rfl, hown, hpr, hk⟩; have hb := Lib.hid (hX.out.trans (hk.mono hX.out.size)); have HD := Lib.hid hown.at; have HP := Lib.hid hpr; obtain ⟨u, cap, rfl⟩ := own_len hown.own; clear hown hpr hk))
    | (go_at_call 16; ((with_reducible refine (CS.out _ _ _ HD.out.s HP.out).mono ?_); rintro e w3 ⟨rfl, hk⟩; have hb3 := Lib.hid (hb.out.trans (hk.mono hb.out.size)); clear hk)))
  go_ret
  exact ⟨rfl, hb3.out⟩

set_option maxRecDepth 20000 in
set_option maxHeartbeats 8000000 in
theorem rdset_off (v : Value) (l : List Lw) (p1 p2 q1 q2 : Int) (s c : Int) (w : World) (h : DocAt w v l) (hf : Fine (pl l)) (hA : askedD (pl l) (p1, p2) (q1, q2) = false) :
    Calls Tryz.prog 46 #[v, psV (p1, p2), psV (q1, q2), .int .i64 s, .int .i64 c] w (DocE [] 1 w) := by
  refine Calls.mono ?_ (fun e w' h => docE_err h)
  obtain ⟨a, cc, rfl⟩ := h.s.len
  have cA : ∀ w1, Below w.heap.size w w1 → _ := fun w1 h1 => rdspan_any _ l p1 p2 q1 q2 w1 (h.below h1) hf
  obtain ⟨A, hAA⟩ : ∃ A, askedD (pl l) (p1, p2) (q1, q2) = A := ⟨_, rfl⟩
  rw [hAA] at cA hA
  obtain ⟨n, hn⟩ : ∃ n, l.length = n := ⟨_, rfl⟩
  rw [hn] at cA ⊢
  clear h hf hn hAA
  unfold psV at *
  dsimp only at *
  have hX := Lib.hid (two_allocs w (.cells #[.int .i64 p1, .int .i64 p2] 24) (.cells #[.int .i64 q1, .int .i64 q2] 24))
  subst hA
  go_enter Tryz.func46, Tryz.ntmps46
  go_wp2_with (go_at_call 73; ((with_reducible refine (cA _ hX.out).mono ?_); rintro e w2 ⟨rfl, hk⟩; have hb := hX.out.trans (hk.mono hX.out.size)))
  go_ret2
  exact ⟨rfl, hb⟩

set_option maxRecDepth 20000 in
set_option maxHeartbeats 8000000 in
theorem rdset_none (v : Value) (l : List Lw) (al aa bl ba : Nat) (s c : Int) (w : World) (h : DocAt w v l) (hf : Fine (pl l)) (hsp : Span (pl l) al aa bl ba) (hmay : mayD (pl l) = true) (h0 : countD (pl l) al aa bl ba = 0) :
    Calls Tryz.prog 46 #[v, psV ((al : Int), (aa : Int)), psV ((bl : Int), (ba : Int)), .int .i64 s, .int .i64 c] w (DocE [] 7 w) := by
  refine Calls.mono ?_ (fun e w' h => docE_err h)
  obtain ⟨a, cc, rfl⟩ := h.s.len
  have cA : ∀ w1, Below w.heap.size w w1 → _ := fun w1 h1 => rdspan_any _ l (al : Int) (aa : Int) (bl : Int) (ba : Int) w1 (h.below h1) hf
  have cC : ∀ w1, Below w.heap.size w w1 → _ := fun w1 h1 => rdcount_any _ l (al : Int) (aa : Int) (bl : Int) (ba : Int) w1 (h.below h1) hf
  rw [askedD_mk hsp hmay] at cA
  have hcA : countA (pl l) ((al : Int), (aa : Int)) ((bl : Int), (ba : Int)) = countD (pl l) al aa bl ba := by unfold countA; rw [askedD_mk hsp hmay]; rfl
  rw [hcA] at cC
  rw [h0] at cC
  obtain ⟨n, hn⟩ : ∃ n, l.length = n := ⟨_, rfl⟩
  rw [hn] at cA cC ⊢
  have A0 := Lib.hid ((ps_new w (al : Int) (aa : Int)).below (below_alloc1 _ (.cells #[.int .i64 (bl : Int), .int .i64 (ba : Int)] 24)))
  have A1 := Lib.hid (ps_new (w.alloc (.cells #[.int .i64 (al : Int), .int .i64 (aa : Int)] 24)) (bl : Int) (ba : Int))
  rw [show (w.alloc (.cells #[.int .i64 (al : Int), .int .i64 (aa : Int)] 24)).heap.size = w.heap.size + 1 by simp] at A1
  have hX := Lib.hid (two_allocs w (.cells #[.int .i64 (al : Int), .int .i64 (aa : Int)] 24) (.cells #[.int .i64 (bl : Int), .int .i64 (ba : Int)] 24))
  clear h hf hsp hmay h0 hcA hn
  unfold psV at *
  dsimp only at *
  go_enter Tryz.func46, Tryz.ntmps46
  go_wp2_with (first
    | (go_at_call 73; ((with_reducible refine (cA _ hX.out).mono ?_); rintro e w0 ⟨rfl, hk⟩; have hb0 := Lib.hid (hX.out.trans (hk.mono hX.out.size)); have B0 := Lib.hid (A0.out.below hk); have B1 := Lib.hid (A1.out.below hk); obtain ⟨_, y0, y1, _, _⟩ := B0.out; obtain ⟨_, z0, z1, _, _⟩ := B1.out; clear hk))
    | (go_at_call 86; ((with_reducible refine (cC _ hb0.out).mono ?_); rintro e w1 ⟨rfl, hk⟩; have B0' := Lib.hid (B0.out.below hk); have B1' := Lib.hid (B1.out.below hk); clear B0 B1 y0 y1 z0 z1; have B0 := B0'; have B1 := B1'; clear B0' B1'; obtain ⟨_, y0, y1, _, _⟩ := B0.out; obtain ⟨_, z0, z1, _, _⟩ := B1.out; have hbn := Lib.hid (hb0.out.trans (hk.mono hb0.out.size)); clear hb0 hk; have hb0 := hbn; clear hbn)))
  go_ret2
  exact ⟨rfl, hb0.out⟩

set_option maxRecDepth 40000 in
set_option maxHeartbeats 16000000 in
theorem rdset_ok (v : Value) (l : List Lw) (al aa bl ba : Nat) (s c : Int) (w : World) (h : DocAt w v l) (hf : Fine (pl l)) (hsp : Span (pl l) al aa bl ba) (hmay : mayD (pl l) = true) (h0 : countD (pl l) al aa bl ba ≠ 0) :
    Calls Tryz.prog 46 #[v, psV ((al : Int), (aa : Int)), psV ((bl : Int), (ba : Int)), .int .i64 s, .int .i64 c] w (DocE (turnD (setC s c) (pl l) al aa bl ba) 0 w) := by
  obtain ⟨a, cc, rfl⟩ := h.s.len
  have cA : ∀ w1, Below w.heap.size w w1 → _ := fun w1 h1 => rdspan_any _ l (al : Int) (aa : Int) (bl : Int) (ba : Int) w1 (h.below h1) hf
  have cC : ∀ w1, Below w.heap.size w w1 → _ := fun w1 h1 => rdcount_any _ l (al : Int) (aa : Int) (bl : Int) (ba : Int) w1 (h.below h1) hf
  rw [askedD_mk hsp hmay] at cA
  have hcA : countA (pl l) ((al : Int), (aa : Int)) ((bl : Int), (ba : Int)) = countD (pl l) al aa bl ba := by unfold countA; rw [askedD_mk hsp hmay]; rfl
  rw [hcA] at cC
  have cO : ∀ w1, Below w.heap.size w w1 → _ := fun w1 h1 => rdown_any _ l w1 (h.below h1) hf
  have h0I : ¬ ((countD (pl l) al aa bl ba : Nat) : Int) = 0 := by omega
  have h0b : (((countD (pl l) al aa bl ba : Nat) : Int) == 0) = false := by simpa using h0I
  obtain ⟨C, hC⟩ : ∃ C, countD (pl l) al aa bl ba = C := ⟨_, rfl⟩
  rw [hC] at cC h0I h0b
  have hl := hf.len
  have hbl : bl < l.length := by have := hsp.hb; rwa [pl_length] at this
  have hab := hsp.hab
  have V := Lib.hid h
  have F := Lib.hid hf
  have SP := Lib.hid hsp
  obtain ⟨T, hT⟩ : ∃ T, turnD (setC s c) (pl l) al aa bl ba = T := ⟨_, rfl⟩
  have TON : Hid (∀ j, al ≤ j → j ≤ bl → T[j]! = lnWith (pl l)[j]! (turnR (setC s c) ((pl l)[j]!).cs (frN al aa j) (toN (pl l) bl ba j))) := Lib.hid (fun j h1 h2 => by rw [← hT]; exact turn_on hsp h1 h2)
  have TOFF : Hid (∀ j, j < al ∨ bl < j → T[j]! = (pl l)[j]!) := Lib.hid (fun j h1 => by rw [← hT]; exact turn_off hsp h1)
  have TLEN : Hid (T.length = (pl l).length) := Lib.hid (by rw [← hT]; exact turn_length hsp)
  rw [hT]
  obtain ⟨n, hn⟩ : ∃ n, l.length = n := ⟨_, rfl⟩
  rw [hn] at cA cC cO hl hbl V ⊢
  have N := Lib.hid hn
  have A0 := Lib.hid ((ps_new w (al : Int) (aa : Int)).below (below_alloc1 _ (.cells #[.int .i64 (bl : Int), .int .i64 (ba : Int)] 24)))
  have A1 := Lib.hid (ps_new (w.alloc (.cells #[.int .i64 (al : Int), .int .i64 (aa : Int)] 24)) (bl : Int) (ba : Int))
  rw [show (w.alloc (.cells #[.int .i64 (al : Int), .int .i64 (aa : Int)] 24)).heap.size = w.heap.size + 1 by simp] at A1
  have hX := Lib.hid (two_allocs w (.cells #[.int .i64 (al : Int), .int .i64 (aa : Int)] 24) (.cells #[.int .i64 (bl : Int), .int .i64 (ba : Int)] 24))
  clear h hf hsp hmay h0 hcA hn hC hT
  unfold psV at *
  dsimp only at *
  go_enter Tryz.func46, Tryz.ntmps46
  go_wp2_with (first
    | (go_at_call 73; ((with_reducible refine (cA _ hX.out).mono ?_); rintro e w0 ⟨rfl, hk⟩; have hb0 := Lib.hid (hX.out.trans (hk.mono hX.out.size)); have B0 := Lib.hid (A0.out.below hk); have B1 := Lib.hid (A1.out.below hk); obtain ⟨_, y0, y1, _, _⟩ := B0.out; obtain ⟨_, z0, z1, _, _⟩ := B1.out; clear hk))
    | (go_at_call 86; ((with_reducible refine (cC _ hb0.out).mono ?_); rintro e w1 ⟨rfl, hk⟩; have B0' := Lib.hid (B0.out.below hk); have B1' := Lib.hid (B1.out.below hk); clear B0 B1 y0 y1 z0 z1; have B0 := B0'; have B1 := B1'; clear B0' B1'; obtain ⟨_, y0, y1, _, _⟩ := B0.out; obtain ⟨_, z0, z1, _, _⟩ := B1.out; have hbn := Lib.hid (hb0.out.trans (hk.mono hb0.out.size)); clear hb0 hk; have hb0 := hbn; clear hbn))
    | (go_at_call 12; ((with_reducible refine (cO _ hb0.out).mono ?_); rintro e w2 ⟨vo, m0, rfl, hown, hpo, hk⟩; have OW := Lib.hid hown; have PO := Lib.hid hpo; obtain ⟨ua, uc, eu⟩ := own_len hown.own; subst eu; have BW := Lib.hid hk; clear y0 y1 z0 z1; obtain ⟨_, y0, y1, _, _⟩ := B0.out.below hk; obtain ⟨_, z0, z1, _, _⟩ := B1.out.below hk; clear hown hpo hk)))
  have ML : m0.length = n := by rw [← pl_length, PO.out, pl_length]; exact N.out
  rw [ML] at OW ⊢
  have HML := Lib.hid ML
  have REL0 : Hid (∀ j, j < n → (pl m0)[j]! = if j < al then T[j]! else (pl l)[j]!) := Lib.hid (fun j hj => by
    rw [PO.out]
    by_cases e : j < al
    · rw [if_pos e, TOFF.out j (.inl e)]
    · rw [if_neg e])
  clear ML cC cA cO h0I h0b
  go_loopw [13, 14, 15] (fun i _ _ wr => ∃ (k : Nat) (m : List Lw), al ≤ k ∧ k ≤ bl + 1 ∧ i = .int .i64 k ∧ Hid (m.length = n) ∧ Hid (∀ j, j < n → (pl m)[j]! = if j < k then T[j]! else (pl l)[j]!) ∧ Hid (OwnD w1.heap.size wr (.slice ua n uc) m) ∧ Hid (Below w1.heap.size w1 wr)) (fun i _ _ _ => bl + 1 - (RowKit.intOf i).toNat)
  case atStart => exact ⟨al, m0, Nat.le_refl _, by omega, rfl, HML, REL0, OW, BW⟩
  case round =>
    obtain ⟨k, m, hk1, hk2, rfl, HM, HP, HO, HBw⟩ := hrel
    clear y0 y1 z0 z1
    obtain ⟨_, y0, y1, _, _⟩ := B0.out.below HBw.out
    obtain ⟨_, z0, z1, _, _⟩ := B1.out.below HBw.out
    have HB := Lib.hid (hb0.out.trans (HBw.out.mono hb0.out.size))
    by_cases hle : k ≤ bl
    · have hkn : k < n := by omega
      have hkl : k < l.length := by rw [N.out]; exact hkn
      have hVr := V.out.below HB.out
      have hfit := SP.out.fit hk1 hle
      have hton := TON.out k hk1 hle
      have hpg := pl_get l k hkl
      rw [cnt_pl hkl] at hfit
      rw [hpg] at hton
      have cFrom : ∀ w1, Below wr.heap.size wr w1 → _ := fun w1 h1 => rdfrom_any _ l al aa bl ba k w1 (hVr.s.below h1) hkl
      obtain ⟨b, o, c2, e, hlc, hcm, hbs, hcs⟩ := V.out.s.lies (by omega)
      rw [N.out] at e hlc
      obtain ⟨rfl, _, rfl⟩ := Value.slice.inj e
      unfold maxLen at hcm
      obtain ⟨q, za, n1, zc, kk, ra, n2, rc, x0, x1, x2, x3, k0, k1, k2, k3, k4, k5⟩ := hcs.get hkl
      have hxm := mem_get hkl
      have hxz := F.out.at hxm
      have hxw := hVr.n _ hxm
      obtain ⟨x, hx⟩ : ∃ x, l[k]! = x := ⟨_, rfl⟩
      rw [hx] at k3 hxz hxw hfit hton hpg
      obtain ⟨f, hfr⟩ : ∃ f, frN al aa k = f := ⟨_, rfl⟩
      obtain ⟨t, hto⟩ : ∃ t, toN (pl l) bl ba k = t := ⟨_, rfl⟩
      rw [hfr, hto] at cFrom hfit hton
      have hrow : RowAt wr (.slice ra n2 rc) x.ln.cs := by have := hxw.r; rwa [k3] at this
      have cS : ∀ w1, Below wr.heap.size wr w1 → _ := fun w1 h1 => rset_on (.slice ra n2 rc) x.ln.cs f t s c w1 (hrow.below h1) hxz.2.1 hfit.1 hfit.2
      obtain ⟨R0, hR0⟩ : ∃ R0, turnR (setC s c) x.ln.cs f t = R0 := ⟨_, rfl⟩
      rw [hR0] at cS hton
      unfold RowPost at cS
      have hmk : k < m.length := by rw [HM.out]; exact hkn
      obtain ⟨g, hg, hcap1, hcap2, spot⟩ := HO.out.spot hmk
      subst hg
      rw [HM.out] at hcap1
      unfold maxLen at hcap2
      obtain ⟨hgB, hgw⟩ := ownBlk HO.out.own rfl
      have gc := spot.c
      have gf : wr.frozen? ⟨g, k * 4 + 3, none⟩ = false := by
        have h9 := HO.out.own
        rw [HM.out] at h9
        exact h9.frozenAt (k * 4 + 3)
      obtain ⟨SC0, hSC0⟩ : ∃ S, (m[k]!).sc = S := ⟨_, rfl⟩
      rw [hSC0] at gc
      have HK : Hid (∀ V', Below wr.heap.size wr V' → V'.cell? ⟨b, o + k * 4 + 3, none⟩ = some (.slice ra n2 rc) ∧ V'.cell? ⟨g, k * 4 + 3, none⟩ = some SC0 ∧ V'.frozen? ⟨g, k * 4 + 3, none⟩ = false) := Lib.hid (fun V' hV' => by
        have hh := HB.out.trans (hV'.mono HB.out.size)
        exact ⟨(hh.cell (p := ⟨b, o + k * 4 + 3, none⟩) hbs).trans x3, (hV'.cell (p := ⟨g, k * 4 + 3, none⟩) hgw).trans gc, (hV'.frozen (p := ⟨g, k * 4 + 3, none⟩) hgw).trans gf⟩)
      have hbw : b < wr.heap.size := Nat.lt_of_lt_of_le hbs HB.out.size
      have hkI : (k : Int) < (n : Int) := by omega
      have hkJ : (k : Int) ≤ (bl : Int) := by omega
      have HTON := Lib.hid hton
      have HPG := Lib.hid hpg
      have HMK := Lib.hid hmk
      clear x0 x1 x2 x3 k0 k1 k2 k3 k4 k5 hx hxm hxz hxw hrow hcs e hVr hfit hpg hton hR0 hfr hto hkl spot gc gf hSC0 hmk
      go_wp2_with (first
        | (go_at_call 74; ((with_reducible refine (cFrom _ (Below.refl _ _)).mono ?_); rintro e w3 ⟨rfl, hk⟩; have KW := Lib.hid hk; obtain ⟨x3, gc, gf⟩ := HK.out _ hk; clear hk y0 y1 z0 z1))
        | (go_at_call 87; ((with_reducible refine (cS _ KW.out).mono ?_); rintro e w4 ⟨vr, rfl, own, hb5⟩; obtain ⟨rA, rC, hvr⟩ := own_len own; subst hvr; have hk4 := KW.out.trans (hb5.mono KW.out.size); have K4 := Lib.hid hk4; have OWN := Lib.hid (own.mono KW.out.size); clear x3 gc gf; obtain ⟨x3, gc, gf⟩ := HK.out _ hk4; clear own hb5 hk4)))
      go_roundw
      case rel =>
        obtain ⟨od, hbd⟩ := HO.out.putRow HM.out K4.out HBw.out.size HMK.out OWN.out
        refine ⟨k + 1, m.set k (putRow m[k]! rA rC R0), by omega, by omega, by go_num, Lib.hid (by rw [List.length_set]; exact HM.out), Lib.hid (fun j hj => ?_), Lib.hid od, Lib.hid ((HBw.out.trans (K4.out.mono HBw.out.size)).trans hbd)⟩
        rw [pl_set, set_get _ _ _ _ (by rw [pl_length]; exact HMK.out)]
        by_cases e : j = k
        · subst e
          rw [if_pos rfl, if_pos (by omega), HTON.out]
          have h1 := HP.out j hj
          rw [if_neg (Nat.lt_irrefl _), pl_get _ _ HMK.out, HPG.out] at h1
          show lnWith (m[j]!).ln R0 = lnWith x.ln R0
          rw [h1]
        · rw [if_neg e, HP.out j hj]
          by_cases e2 : j < k
          · rw [if_pos e2, if_pos (by omega)]
          · rw [if_neg e2, if_neg (by omega)]
      case measure => simp [RowKit.intOf]; omega
    · have hke : k = bl + 1 := by omega
      subst hke
      have HFIN : Hid (pl m = T) := Lib.hid (doc_ext (by rw [pl_length, HM.out, TLEN.out, pl_length, N.out]) (fun j hj => by
        rw [pl_length, HM.out] at hj
        rw [HP.out j hj]
        by_cases e : j < bl + 1
        · rw [if_pos e]
        · rw [if_neg e]; exact (TOFF.out j (.inr (by omega))).symm))
      have hkJ : ¬ ((bl + 1 : Nat) : Int) ≤ (bl : Int) := by omega
      have hkK : (bl : Int) < ((bl + 1 : Nat) : Int) := by omega
      have HOW := Lib.hid (HO.out.mono hb0.out.size)
      clear HP
      go_wp2
      go_ret2
      exact ⟨_, m, rfl, HOW.out, HFIN.out, HB.out⟩

set_option maxRecDepth 20000 in
set_option maxHeartbeats 8000000 in
theorem rdlink_off (v : Value) (l : List Lw) (p1 p2 q1 q2 : Int) (s : ByteArray) (w : World) (h : DocAt w v l) (hf : Fine (pl l)) (hs : s.size ≤ 1000000) (hA : askedD (pl l) (p1, p2) (q1, q2) = false ∨ linkS s = false) :
    Calls Tryz.prog 48 #[v, psV (p1, p2), psV (q1, q2), .string s] w (DocE [] 1 w) := by
  refine Calls.mono ?_ (fun e w' h => docE_err h)
  obtain ⟨a, cc, rfl⟩ := h.s.len
  have cA : ∀ w1, Below w.heap.size w w1 → _ := fun w1 h1 => rdspan_any _ l p1 p2 q1 q2 w1 (h.below h1) hf
  have cL := fun w1 => rlink_any s w1 hs
  obtain ⟨A, hAA⟩ : ∃ A, askedD (pl l) (p1, p2) (q1, q2) = A := ⟨_, rfl⟩
  rw [hAA] at cA hA
  obtain ⟨n, hn⟩ : ∃ n, l.length = n := ⟨_, rfl⟩
  rw [hn] at cA ⊢
  obtain ⟨L, hL⟩ : ∃ L, linkS s = L := ⟨_, rfl⟩
  rw [hL] at cL hA
  clear hL
  clear h hf hn hAA
  unfold psV at *
  dsimp only at *
  have hX := Lib.hid (two_allocs w (.cells #[.int .i64 p1, .int .i64 p2] 24) (.cells #[.int .i64 q1, .int .i64 q2] 24))
  cases A with
  | false =>
    clear hA
    go_enter Tryz.func48, Tryz.ntmps48
    go_wp2_with (go_at_call 73; ((with_reducible refine (cA _ hX.out).mono ?_); rintro e w2 ⟨rfl, hk⟩; have hb := hX.out.trans (hk.mono hX.out.size)))
    go_ret2
    exact ⟨rfl, hb⟩
  | true =>
    obtain rfl : L = false := by simpa using hA
    clear hA
    go_enter Tryz.func48, Tryz.ntmps48
    go_wp2_with (first
    | (go_at_call 73; ((with_reducible refine (cA _ hX.out).mono ?_); rintro e w2 ⟨rfl, hk⟩; have hb := hX.out.trans (hk.mono hX.out.size); clear hk))
    | (go_at_call 90; ((with_reducible refine (cL _).mono ?_); rintro e w1' ⟨rfl, hk⟩; have hb2 := hb.trans (hk.mono hb.size))))
    go_ret2
    exact ⟨rfl, hb2⟩

set_option maxRecDepth 20000 in
set_option maxHeartbeats 8000000 in
theorem rdlink_none (v : Value) (l : List Lw) (al aa bl ba : Nat) (s : ByteArray) (w : World) (h : DocAt w v l) (hf : Fine (pl l)) (hs : s.size ≤ 1000000) (hL : linkS s = true) (hsp : Span (pl l) al aa bl ba) (hmay : mayD (pl l) = true) (h0 : countD (pl l) al aa bl ba = 0) :
    Calls Tryz.prog 48 #[v, psV ((al : Int), (aa : Int)), psV ((bl : Int), (ba : Int)), .string s] w (DocE [] 7 w) := by
  refine Calls.mono ?_ (fun e w' h => docE_err h)
  obtain ⟨a, cc, rfl⟩ := h.s.len
  have cA : ∀ w1, Below w.heap.size w w1 → _ := fun w1 h1 => rdspan_any _ l (al : Int) (aa : Int) (bl : Int) (ba : Int) w1 (h.below h1) hf
  have cC : ∀ w1, Below w.heap.size w w1 → _ := fun w1 h1 => rdcount_any _ l (al : Int) (aa : Int) (bl : Int) (ba : Int) w1 (h.below h1) hf
  rw [askedD_mk hsp hmay] at cA
  have hcA : countA (pl l) ((al : Int), (aa : Int)) ((bl : Int), (ba : Int)) = countD (pl l) al aa bl ba := by unfold countA; rw [askedD_mk hsp hmay]; rfl
  rw [hcA] at cC
  have cL := fun w1 => rlink_any s w1 hs
  rw [hL] at cL
  rw [h0] at cC
  obtain ⟨n, hn⟩ : ∃ n, l.length = n := ⟨_, rfl⟩
  rw [hn] at cA cC ⊢
  have A0 := Lib.hid ((ps_new w (al : Int) (aa : Int)).below (below_alloc1 _ (.cells #[.int .i64 (bl : Int), .int .i64 (ba : Int)] 24)))
  have A1 := Lib.hid (ps_new (w.alloc (.cells #[.int .i64 (al : Int), .int .i64 (aa : Int)] 24)) (bl : Int) (ba : Int))
  rw [show (w.alloc (.cells #[.int .i64 (al : Int), .int .i64 (aa : Int)] 24)).heap.size = w.heap.size + 1 by simp] at A1
  have hX := Lib.hid (two_allocs w (.cells #[.int .i64 (al : Int), .int .i64 (aa : Int)] 24) (.cells #[.int .i64 (bl : Int), .int .i64 (ba : Int)] 24))
  clear h hf hsp hmay h0 hcA hn
  unfold psV at *
  dsimp only at *
  go_enter Tryz.func48, Tryz.ntmps48
  go_wp2_with (first
    | (go_at_call 73; ((with_reducible refine (cA _ hX.out).mono ?_); rintro e w0 ⟨rfl, hk⟩; have hb0 := Lib.hid (hX.out.trans (hk.mono hX.out.size)); have B0 := Lib.hid (A0.out.below hk); have B1 := Lib.hid (A1.out.below hk); obtain ⟨_, y0, y1, _, _⟩ := B0.out; obtain ⟨_, z0, z1, _, _⟩ := B1.out; clear hk))
    | (go_at_call 90; ((with_reducible refine (cL _).mono ?_); rintro e w1' ⟨rfl, hk⟩; have B0' := Lib.hid (B0.out.below hk); have B1' := Lib.hid (B1.out.below hk); clear B0 B1 y0 y1 z0 z1; have B0 := B0'; have B1 := B1'; clear B0' B1'; obtain ⟨_, y0, y1, _, _⟩ := B0.out; obtain ⟨_, z0, z1, _, _⟩ := B1.out; have hbn := Lib.hid (hb0.out.trans (hk.mono hb0.out.size)); clear hb0 hk; have hb0 := hbn; clear hbn))
    | (go_at_call 86; ((with_reducible refine (cC _ hb0.out).mono ?_); rintro e w1 ⟨rfl, hk⟩; have B0' := Lib.hid (B0.out.below hk); have B1' := Lib.hid (B1.out.below hk); clear B0 B1 y0 y1 z0 z1; have B0 := B0'; have B1 := B1'; clear B0' B1'; obtain ⟨_, y0, y1, _, _⟩ := B0.out; obtain ⟨_, z0, z1, _, _⟩ := B1.out; have hbn := Lib.hid (hb0.out.trans (hk.mono hb0.out.size)); clear hb0 hk; have hb0 := hbn; clear hbn)))
  go_ret2
  exact ⟨rfl, hb0.out⟩

set_option maxRecDepth 40000 in
set_option maxHeartbeats 16000000 in
theorem rdlink_ok (v : Value) (l : List Lw) (al aa bl ba : Nat) (s : ByteArray) (w : World) (h : DocAt w v l) (hf : Fine (pl l)) (hs : s.size ≤ 1000000) (hL : linkS s = true) (hsp : Span (pl l) al aa bl ba) (hmay : mayD (pl l) = true) (h0 : countD (pl l) al aa bl ba ≠ 0) :
    Calls Tryz.prog 48 #[v, psV ((al : Int), (aa : Int)), psV ((bl : Int), (ba : Int)), .string s] w (DocE (turnD (linkC s) (pl l) al aa bl ba) 0 w) := by
  obtain ⟨a, cc, rfl⟩ := h.s.len
  have cA : ∀ w1, Below w.heap.size w w1 → _ := fun w1 h1 => rdspan_any _ l (al : Int) (aa : Int) (bl : Int) (ba : Int) w1 (h.below h1) hf
  have cC : ∀ w1, Below w.heap.size w w1 → _ := fun w1 h1 => rdcount_any _ l (al : Int) (aa : Int) (bl : Int) (ba : Int) w1 (h.below h1) hf
  rw [askedD_mk hsp hmay] at cA
  have hcA : countA (pl l) ((al : Int), (aa : Int)) ((bl : Int), (ba : Int)) = countD (pl l) al aa bl ba := by unfold countA; rw [askedD_mk hsp hmay]; rfl
  rw [hcA] at cC
  have cL := fun w1 => rlink_any s w1 hs
  rw [hL] at cL
  have cO : ∀ w1, Below w.heap.size w w1 → _ := fun w1 h1 => rdown_any _ l w1 (h.below h1) hf
  have h0I : ¬ ((countD (pl l) al aa bl ba : Nat) : Int) = 0 := by omega
  have h0b : (((countD (pl l) al aa bl ba : Nat) : Int) == 0) = false := by simpa using h0I
  obtain ⟨C, hC⟩ : ∃ C, countD (pl l) al aa bl ba = C := ⟨_, rfl⟩
  rw [hC] at cC h0I h0b
  have hl := hf.len
  have hbl : bl < l.length := by have := hsp.hb; rwa [pl_length] at this
  have hab := hsp.hab
  have V := Lib.hid h
  have F := Lib.hid hf
  have SP := Lib.hid hsp
  obtain ⟨T, hT⟩ : ∃ T, turnD (linkC s) (pl l) al aa bl ba = T := ⟨_, rfl⟩
  have TON : Hid (∀ j, al ≤ j → j ≤ bl → T[j]! = lnWith (pl l)[j]! (turnR (linkC s) ((pl l)[j]!).cs (frN al aa j) (toN (pl l) bl ba j))) := Lib.hid (fun j h1 h2 => by rw [← hT]; exact turn_on hsp h1 h2)
  have TOFF : Hid (∀ j, j < al ∨ bl < j → T[j]! = (pl l)[j]!) := Lib.hid (fun j h1 => by rw [← hT]; exact turn_off hsp h1)
  have TLEN : Hid (T.length = (pl l).length) := Lib.hid (by rw [← hT]; exact turn_length hsp)
  rw [hT]
  obtain ⟨n, hn⟩ : ∃ n, l.length = n := ⟨_, rfl⟩
  rw [hn] at cA cC cO hl hbl V ⊢
  have N := Lib.hid hn
  have A0 := Lib.hid ((ps_new w (al : Int) (aa : Int)).below (below_alloc1 _ (.cells #[.int .i64 (bl : Int), .int .i64 (ba : Int)] 24)))
  have A1 := Lib.hid (ps_new (w.alloc (.cells #[.int .i64 (al : Int), .int .i64 (aa : Int)] 24)) (bl : Int) (ba : Int))
  rw [show (w.alloc (.cells #[.int .i64 (al : Int), .int .i64 (aa : Int)] 24)).heap.size = w.heap.size + 1 by simp] at A1
  have hX := Lib.hid (two_allocs w (.cells #[.int .i64 (al : Int), .int .i64 (aa : Int)] 24) (.cells #[.int .i64 (bl : Int), .int .i64 (ba : Int)] 24))
  clear h hf hsp hmay h0 hcA hn hC hT
  unfold psV at *
  dsimp only at *
  go_enter Tryz.func48, Tryz.ntmps48
  go_wp2_with (first
    | (go_at_call 73; ((with_reducible refine (cA _ hX.out).mono ?_); rintro e w0 ⟨rfl, hk⟩; have hb0 := Lib.hid (hX.out.trans (hk.mono hX.out.size)); have B0 := Lib.hid (A0.out.below hk); have B1 := Lib.hid (A1.out.below hk); obtain ⟨_, y0, y1, _, _⟩ := B0.out; obtain ⟨_, z0, z1, _, _⟩ := B1.out; clear hk))
    | (go_at_call 90; ((with_reducible refine (cL _).mono ?_); rintro e w1' ⟨rfl, hk⟩; have B0' := Lib.hid (B0.out.below hk); have B1' := Lib.hid (B1.out.below hk); clear B0 B1 y0 y1 z0 z1; have B0 := B0'; have B1 := B1'; clear B0' B1'; obtain ⟨_, y0, y1, _, _⟩ := B0.out; obtain ⟨_, z0, z1, _, _⟩ := B1.out; have hbn := Lib.hid (hb0.out.trans (hk.mono hb0.out.size)); clear hb0 hk; have hb0 := hbn; clear hbn))
    | (go_at_call 86; ((with_reducible refine (cC _ hb0.out).mono ?_); rintro e w1 ⟨rfl, hk⟩; have B0' := Lib.hid (B0.out.below hk); have B1' := Lib.hid (B1.out.below hk); clear B0 B1 y0 y1 z0 z1; have B0 := B0'; have B1 := B1'; clear B0' B1'; obtain ⟨_, y0, y1, _, _⟩ := B0.out; obtain ⟨_, z0, z1, _, _⟩ := B1.out; have hbn := Lib.hid (hb0.out.trans (hk.mono hb0.out.size)); clear hb0 hk; have hb0 := hbn; clear hbn))
    | (go_at_call 12; ((with_reducible refine (cO _ hb0.out).mono ?_); rintro e w2 ⟨vo, m0, rfl, hown, hpo, hk⟩; have OW := Lib.hid hown; have PO := Lib.hid hpo; obtain ⟨ua, uc, eu⟩ := own_len hown.own; subst eu; have BW := Lib.hid hk; clear y0 y1 z0 z1; obtain ⟨_, y0, y1, _, _⟩ := B0.out.below hk; obtain ⟨_, z0, z1, _, _⟩ := B1.out.below hk; clear hown hpo hk)))
  have ML : m0.length = n := by rw [← pl_length, PO.out, pl_length]; exact N.out
  rw [ML] at OW ⊢
  have HML := Lib.hid ML
  have REL0 : Hid (∀ j, j < n → (pl m0)[j]! = if j < al then T[j]! else (pl l)[j]!) := Lib.hid (fun j hj => by
    rw [PO.out]
    by_cases e : j < al
    · rw [if_pos e, TOFF.out j (.inl e)]
    · rw [if_neg e])
  clear ML cC cA cO h0I h0b
  go_loopw [11, 12, 13] (fun i _ _ wr => ∃ (k : Nat) (m : List Lw), al ≤ k ∧ k ≤ bl + 1 ∧ i = .int .i64 k ∧ Hid (m.length = n) ∧ Hid (∀ j, j < n → (pl m)[j]! = if j < k then T[j]! else (pl l)[j]!) ∧ Hid (OwnD w1.heap.size wr (.slice ua n uc) m) ∧ Hid (Below w1.heap.size w1 wr)) (fun i _ _ _ => bl + 1 - (RowKit.intOf i).toNat)
  case atStart => exact ⟨al, m0, Nat.le_refl _, by omega, rfl, HML, REL0, OW, BW⟩
  case round =>
    obtain ⟨k, m, hk1, hk2, rfl, HM, HP, HO, HBw⟩ := hrel
    clear y0 y1 z0 z1
    obtain ⟨_, y0, y1, _, _⟩ := B0.out.below HBw.out
    obtain ⟨_, z0, z1, _, _⟩ := B1.out.below HBw.out
    have HB := Lib.hid (hb0.out.trans (HBw.out.mono hb0.out.size))
    by_cases hle : k ≤ bl
    · have hkn : k < n := by omega
      have hkl : k < l.length := by rw [N.out]; exact hkn
      have hVr := V.out.below HB.out
      have hfit := SP.out.fit hk1 hle
      have hton := TON.out k hk1 hle
      have hpg := pl_get l k hkl
      rw [cnt_pl hkl] at hfit
      rw [hpg] at hton
      have cFrom : ∀ w1, Below wr.heap.size wr w1 → _ := fun w1 h1 => rdfrom_any _ l al aa bl ba k w1 (hVr.s.below h1) hkl
      obtain ⟨b, o, c2, e, hlc, hcm, hbs, hcs⟩ := V.out.s.lies (by omega)
      rw [N.out] at e hlc
      obtain ⟨rfl, _, rfl⟩ := Value.slice.inj e
      unfold maxLen at hcm
      obtain ⟨q, za, n1, zc, kk, ra, n2, rc, x0, x1, x2, x3, k0, k1, k2, k3, k4, k5⟩ := hcs.get hkl
      have hxm := mem_get hkl
      have hxz := F.out.at hxm
      have hxw := hVr.n _ hxm
      obtain ⟨x, hx⟩ : ∃ x, l[k]! = x := ⟨_, rfl⟩
      rw [hx] at k3 hxz hxw hfit hton hpg
      obtain ⟨f, hfr⟩ : ∃ f, frN al aa k = f := ⟨_, rfl⟩
      obtain ⟨t, hto⟩ : ∃ t, toN (pl l) bl ba k = t := ⟨_, rfl⟩
      rw [hfr, hto] at cFrom hfit hton
      have hrow : RowAt wr (.slice ra n2 rc) x.ln.cs := by have := hxw.r; rwa [k3] at this
      have cS : ∀ w1, Below wr.heap.size wr w1 → _ := fun w1 h1 => rlinks_on (.slice ra n2 rc) x.ln.cs f t s w1 (hrow.below h1) hxz.2.1 hfit.1 hfit.2 hs hL
      obtain ⟨R0, hR0⟩ : ∃ R0, turnR (linkC s) x.ln.cs f t = R0 := ⟨_, rfl⟩
      rw [hR0] at cS hton
      unfold RowPost at cS
      have hmk : k < m.length := by rw [HM.out]; exact hkn
      obtain ⟨g, hg, hcap1, hcap2, spot⟩ := HO.out.spot hmk
      subst hg
      rw [HM.out] at hcap1
      unfold maxLen at hcap2
      obtain ⟨hgB, hgw⟩ := ownBlk HO.out.own rfl
      have gc := spot.c
      have gf : wr.frozen? ⟨g, k * 4 + 3, none⟩ = false := by
        have h9 := HO.out.own
        rw [HM.out] at h9
        exact h9.frozenAt (k * 4 + 3)
      obtain ⟨SC0, hSC0⟩ : ∃ S, (m[k]!).sc = S := ⟨_, rfl⟩
      rw [hSC0] at gc
      have HK : Hid (∀ V', Below wr.heap.size wr V' → V'.cell? ⟨b, o + k * 4 + 3, none⟩ = some (.slice ra n2 rc) ∧ V'.cell? ⟨g, k * 4 + 3, none⟩ = some SC0 ∧ V'.frozen? ⟨g, k * 4 + 3, none⟩ = false) := Lib.hid (fun V' hV' => by
        have hh := HB.out.trans (hV'.mono HB.out.size)
        exact ⟨(hh.cell (p := ⟨b, o + k * 4 + 3, none⟩) hbs).trans x3, (hV'.cell (p := ⟨g, k * 4 + 3, none⟩) hgw).trans gc, (hV'.frozen (p := ⟨g, k * 4 + 3, none⟩) hgw).trans gf⟩)
      have hbw : b < wr.heap.size := Nat.lt_of_lt_of_le hbs HB.out.size
      have hkI : (k : Int) < (n : Int) := by omega
      have hkJ : (k : Int) ≤ (bl : Int) := by omega
      have HTON := Lib.hid hton
      have HPG := Lib.hid hpg
      have HMK := Lib.hid hmk
      clear x0 x1 x2 x3 k0 k1 k2 k3 k4 k5 hx hxm hxz hxw hrow hcs e hVr hfit hpg hton hR0 hfr hto hkl spot gc gf hSC0 hmk
      go_wp2_with (first
        | (go_at_call 74; ((with_reducible refine (cFrom _ (Below.refl _ _)).mono ?_); rintro e w3 ⟨rfl, hk⟩; have KW := Lib.hid hk; obtain ⟨x3, gc, gf⟩ := HK.out _ hk; clear hk y0 y1 z0 z1))
        | (go_at_call 91; ((with_reducible refine (cS _ KW.out).mono ?_); rintro e w4 ⟨vr, rfl, own, hb5⟩; obtain ⟨rA, rC, hvr⟩ := own_len own; subst hvr; have hk4 := KW.out.trans (hb5.mono KW.out.size); have K4 := Lib.hid hk4; have OWN := Lib.hid (own.mono KW.out.size); clear x3 gc gf; obtain ⟨x3, gc, gf⟩ := HK.out _ hk4; clear own hb5 hk4)))
      go_roundw
      case rel =>
        obtain ⟨od, hbd⟩ := HO.out.putRow HM.out K4.out HBw.out.size HMK.out OWN.out
        refine ⟨k + 1, m.set k (putRow m[k]! rA rC R0), by omega, by omega, by go_num, Lib.hid (by rw [List.length_set]; exact HM.out), Lib.hid (fun j hj => ?_), Lib.hid od, Lib.hid ((HBw.out.trans (K4.out.mono HBw.out.size)).trans hbd)⟩
        rw [pl_set, set_get _ _ _ _ (by rw [pl_length]; exact HMK.out)]
        by_cases e : j = k
        · subst e
          rw [if_pos rfl, if_pos (by omega), HTON.out]
          have h1 := HP.out j hj
          rw [if_neg (Nat.lt_irrefl _), pl_get _ _ HMK.out, HPG.out] at h1
          show lnWith (m[j]!).ln R0 = lnWith x.ln R0
          rw [h1]
        · rw [if_neg e, HP.out j hj]
          by_cases e2 : j < k
          · rw [if_pos e2, if_pos (by omega)]
          · rw [if_neg e2, if_neg (by omega)]
      case measure => simp [RowKit.intOf]; omega
    · have hke : k = bl + 1 := by omega
      subst hke
      have HFIN : Hid (pl m = T) := Lib.hid (doc_ext (by rw [pl_length, HM.out, TLEN.out, pl_length, N.out]) (fun j hj => by
        rw [pl_length, HM.out] at hj
        rw [HP.out j hj]
        by_cases e : j < bl + 1
        · rw [if_pos e]
        · rw [if_neg e]; exact (TOFF.out j (.inr (by omega))).symm))
      have hkJ : ¬ ((bl + 1 : Nat) : Int) ≤ (bl : Int) := by omega
      have hkK : (bl : Int) < ((bl + 1 : Nat) : Int) := by omega
      have HOW := Lib.hid (HO.out.mono hb0.out.size)
      clear HP
      go_wp2
      go_ret2
      exact ⟨_, m, rfl, HOW.out, HFIN.out, HB.out⟩

/-! ### all of it -/
set_option maxRecDepth 20000 in
theorem rdset_any (v : Value) (l : List Lw) (p1 p2 q1 q2 s c : Int) (w : World) (h : DocAt w v l) (hf : Fine (pl l)) :
    Calls Tryz.prog 46 #[v, psV (p1, p2), psV (q1, q2), .int .i64 s, .int .i64 c] w (DocE (chD (pl l) (p1, p2) (q1, q2) (setU s c)).1 (chD (pl l) (p1, p2) (q1, q2) (setU s c)).2 w) := by
  cases hA : askedD (pl l) (p1, p2) (q1, q2) with
  | false =>
    have e : chD (pl l) (p1, p2) (q1, q2) (setU s c) = ([], 1) := by unfold chD; rw [hA]; rfl
    rw [e]
    exact rdset_off v l p1 p2 q1 q2 s c w h hf hA
  | true =>
    obtain ⟨al, aa, bl, ba, hp, hq, hsp, hmay⟩ := askedD_span hA
    simp only [Prod.mk.injEq] at hp hq
    obtain ⟨rfl, rfl⟩ := hp
    obtain ⟨rfl, rfl⟩ := hq
    by_cases h0 : countD (pl l) al aa bl ba = 0
    · have e : chD (pl l) ((al : Int), (aa : Int)) ((bl : Int), (ba : Int)) (setU s c) = ([], 7) := by unfold chD; rw [hA]; simp only [if_true, Int.toNat_natCast]; rw [if_pos h0]
      rw [e]
      exact rdset_none v l al aa bl ba s c w h hf hsp hmay h0
    · have e : chD (pl l) ((al : Int), (aa : Int)) ((bl : Int), (ba : Int)) (setU s c) = (turnD (setC s c) (pl l) al aa bl ba, 0) := chD_turn (setC s c) hsp hmay h0
      rw [e]
      exact rdset_ok v l al aa bl ba s c w h hf hsp hmay h0
/-- Link: where the link may be. -/
def lnkP (d : Doc) (a b : Ps) (s : ByteArray) : Doc × Int := if linkS s then chD d a b (linkU s) else ([], 1)
set_option maxRecDepth 20000 in
theorem rdlink_any (v : Value) (l : List Lw) (p1 p2 q1 q2 : Int) (s : ByteArray) (w : World) (h : DocAt w v l) (hf : Fine (pl l)) (hs : s.size ≤ 1000000) :
    Calls Tryz.prog 48 #[v, psV (p1, p2), psV (q1, q2), .string s] w (DocE (lnkP (pl l) (p1, p2) (q1, q2) s).1 (lnkP (pl l) (p1, p2) (q1, q2) s).2 w) := by
  unfold lnkP
  cases hL : linkS s with
  | false => exact rdlink_off v l p1 p2 q1 q2 s w h hf hs (.inr hL)
  | true =>
  rw [if_pos rfl]
  cases hA : askedD (pl l) (p1, p2) (q1, q2) with
  | false =>
    have e : chD (pl l) (p1, p2) (q1, q2) (linkU s) = ([], 1) := by unfold chD; rw [hA]; rfl
    rw [e]
    exact rdlink_off v l p1 p2 q1 q2 s w h hf hs (.inl hA)
  | true =>
    obtain ⟨al, aa, bl, ba, hp, hq, hsp, hmay⟩ := askedD_span hA
    simp only [Prod.mk.injEq] at hp hq
    obtain ⟨rfl, rfl⟩ := hp
    obtain ⟨rfl, rfl⟩ := hq
    by_cases h0 : countD (pl l) al aa bl ba = 0
    · have e : chD (pl l) ((al : Int), (aa : Int)) ((bl : Int), (ba : Int)) (linkU s) = ([], 7) := by unfold chD; rw [hA]; simp only [if_true, Int.toNat_natCast]; rw [if_pos h0]
      rw [e]
      exact rdlink_none v l al aa bl ba s w h hf hs hL hsp hmay h0
    · have e : chD (pl l) ((al : Int), (aa : Int)) ((bl : Int), (ba : Int)) (linkU s) = (turnD (linkC s) (pl l) al aa bl ba, 0) := chD_turn (linkC s) hsp hmay h0
      rw [e]
      exact rdlink_ok v l al aa bl ba s w h hf hs hL hsp hmay h0

/-! ### the program's Link, where the link may not be -/
set_option maxHeartbeats 2000000 in
theorem dlinkFn_no (v : Value) (cs : Row) (f t B : Nat) (s : ByteArray) (w : World) (hv : RowAt w v cs) (hs : s.size ≤ 1000000) (hE : Tg.Env w) (hL : linkS s = false) (h1 : w.cell? ⟨B, 0, none⟩ = some (.string s)) :
    Calls Tryz.prog 88 #[v, .int .i64 (f : Int), .int .i64 (t : Int), .pointer (some ⟨B, 0, none⟩)] w fun e w' => e = .returned errV ∧ Below w.heap.size w w' := by
  have hc := link_off v cs f t s w hv hs hE (by rw [hL]; rfl)
  obtain ⟨a, cc, rfl⟩ := hv.len
  obtain ⟨n, hn⟩ : ∃ n, cs.length = n := ⟨_, rfl⟩
  rw [hn] at hc
  rw [hn]
  unfold errV at *
  clear hv hn hE hL hs
  go_enter Tryz.func88, Tryz.ntmps88
  go_wp2_with (go_at_call 89; ((with_reducible refine hc.mono ?_); rintro e w2 ⟨rfl, hb⟩))
  go_ret2
  exact ⟨rfl, hb⟩
set_option maxRecDepth 20000 in
set_option maxHeartbeats 8000000 in
theorem dlink_no (v : Value) (l : List Lw) (p1 p2 q1 q2 : Int) (s : ByteArray) (w : World) (h : DocAt w v l) (hf : Fine (pl l)) (hE : Tg.Env w) (hs : s.size ≤ 1000000) (hL : linkS s = false) :
    Calls Tryz.prog 47 #[v, psV (p1, p2), psV (q1, q2), .string s] w (DocE [] 1 w) := by
  obtain ⟨hX, k1⟩ := three_new w p1 p2 q1 q2 s
  have hgf := enters_of Tryz.func88 (by kernel_rfl) rfl
  have cH : Calls Tryz.prog 83 #[v, psV (p1, p2), psV (q1, q2), .func (.func 88) #[] #[.pointer (some ⟨w.heap.size + 1 + 1, 0, none⟩)]] (boxes3 w p1 p2 q1 q2 s) (DocE [] 1 (boxes3 w p1 p2 q1 q2 s)) := by
    refine change_off v _ _ l p1 p2 q1 q2 _ (fun w1 h1 => ?_) (h.below hX)
    have h2 := hX.trans (h1.mono hX.size)
    cases hA : askedD (pl l) (p1, p2) (q1, q2) with
    | false => exact deach_off v _ _ l p1 p2 q1 q2 w1 (h.below h2) hf (hE.below h2) hA
    | true =>
      obtain ⟨al, aa, bl, ba, hp, hq, hsp, hmay⟩ := askedD_span hA
      simp only [Prod.mk.injEq] at hp hq
      obtain ⟨rfl, rfl⟩ := hp
      obtain ⟨rfl, rfl⟩ := hq
      refine deach_err v l al aa bl ba _ _ w1 (h.below h2) hf (hE.below h2) hsp hmay ?_ hgf
      intro V v' cs f t h3 h4 _ _ _
      exact dlinkFn_no v' cs f t _ s V h4 hs (hE.below (h2.trans (h3.mono h2.size))) hL (((h1.trans (h3.mono h1.size)).cell (lt_of_cell' k1)).trans k1)
  obtain ⟨a, cc, rfl⟩ := h.s.len
  obtain ⟨n, hn⟩ : ∃ n, l.length = n := ⟨_, rfl⟩
  unfold psV at *
  dsimp only at *
  rw [hn] at cH ⊢
  have HX := Lib.hid hX
  clear h hf hE hX k1 hs hL hn hgf
  go_enter Tryz.func47, Tryz.ntmps47
  go_wp2_with (go_at_call 83; ((with_reducible refine cH.mono ?_); rintro e w2 ⟨v2, m, rfl, o2, p2, hk⟩; have O2 := Lib.hid (And.intro (o2.mono HX.out.size) (And.intro p2 (HX.out.trans (hk.mono HX.out.size)))); clear o2 p2 hk))
  go_ret2
  exact ⟨_, m, rfl, O2.out.1, O2.out.2.1, O2.out.2.2⟩
theorem dlink_all (v : Value) (l : List Lw) (p1 p2 q1 q2 : Int) (s : ByteArray) (w : World) (h : DocAt w v l) (hf : Fine (pl l)) (hE : Tg.Env w) (hs : s.size ≤ 1000000) :
    Calls Tryz.prog 47 #[v, psV (p1, p2), psV (q1, q2), .string s] w (DocE (lnkP (pl l) (p1, p2) (q1, q2) s).1 (lnkP (pl l) (p1, p2) (q1, q2) s).2 w) := by
  unfold lnkP
  cases hL : linkS s with
  | false => exact dlink_no v l p1 p2 q1 q2 s w h hf hE hs hL
  | true => exact dlink_any v l p1 p2 q1 q2 s w h hf hE hs hL

/-! ### all, some of the cells between two places -/
theorem lacks_eq {q : Int} {r : Row} {f t : Nat} (hft : f ≤ t) (ht : t ≤ r.length) : lacksU q r f t = (partU r f t).any (lacksB q) := by
  have hB : fitB r.length (f : Int) (t : Int) = true := decide_eq_true (by omega)
  unfold lacksU allO partU
  rw [hB, Int.toNat_natCast, Int.toNat_natCast]
  by_cases h : f < t
  · rw [decide_eq_true h, decide_eq_true (show (f : Int) < (t : Int) by omega)]
    simp
  · have e : t - f = 0 := by omega
    rw [decide_eq_false h, e]
    simp
theorem has_eq {q : Int} {r : Row} {f t : Nat} (hft : f ≤ t) (ht : t ≤ r.length) : hasU q r f t = (partU r f t).any (hasB q) := by
  have hB : fitB r.length (f : Int) (t : Int) = true := decide_eq_true (by omega)
  unfold hasU someO partU
  rw [hB, Int.toNat_natCast, Int.toNat_natCast, Bool.true_and]
theorem flat_any (d : Doc) (P : Ce → Bool) : ∀ ss : List St, (flatD (eachD d partU ss)).any P = ss.any (fun s => (partU (d[s.1]!).cs s.2.1 s.2.2).any P)
  | [] => rfl
  | s :: ss => by
    have ih := flat_any d P ss
    have e : eachD d partU (s :: ss) = atS d partU s :: eachD d partU ss := rfl
    rw [e, flatD_cons, List.any_append, ih, List.any_cons]
    rfl
theorem anyS_eq {d : Doc} {al aa bl ba : Nat} (h : Span d al aa bl ba) (hm : mayD d = true) (u : Row → Nat → Nat → Bool) (P : Ce → Bool) (hu : ∀ (r : Row) (f t : Nat), f ≤ t → t ≤ r.length → u r f t = (partU r f t).any P) :
    anyS d u al aa bl ba = (cellsB d ((al : Int), (aa : Int)) ((bl : Int), (ba : Int))).any P := by
  have e : cellsB d ((al : Int), (aa : Int)) ((bl : Int), (ba : Int)) = flatD (eachD d partU (strs d al aa bl ba)) := by unfold cellsB partP; rw [askedD_mk h hm]; rfl
  rw [e, flat_any]
  unfold anyS
  have hx : ∀ s ∈ strs d al aa bl ba, u (d[s.1]!).cs s.2.1 s.2.2 = (partU (d[s.1]!).cs s.2.1 s.2.2).any P := fun s hs => by
    obtain ⟨m1, m2, m3⟩ := strs_mem hs
    have hfit := h.fit m1 m2
    have e1 : s.2.1 = frN al aa s.1 := congrArg (·.2.1) m3
    have e2 : s.2.2 = toN d bl ba s.1 := congrArg (·.2.2) m3
    rw [← e1, ← e2] at hfit
    exact hu _ _ _ hfit.1 hfit.2
  generalize strs d al aa bl ba = ss at hx
  induction ss with
  | nil => rfl
  | cons s ss ih =>
    rw [List.any_cons, List.any_cons, hx s List.mem_cons_self, ih (fun x hm => hx x (List.mem_cons_of_mem _ hm))]
theorem cells_len (d : Doc) (p1 p2 q1 q2 : Int) : (cellsB d (p1, p2) (q1, q2)).length = countA d (p1, p2) (q1, q2) := by
  unfold cellsB
  rw [flatD_length, part_count]
theorem all_eq (d : Doc) (p1 p2 q1 q2 q : Int) : allD d (p1, p2) (q1, q2) q = allO (cellsB d (p1, p2) (q1, q2)) 0 ((cellsB d (p1, p2) (q1, q2)).length : Int) q := by
  have hl := cells_len d p1 p2 q1 q2
  unfold allD allO
  rw [← hl]
  cases hA : askedD d (p1, p2) (q1, q2) with
  | false =>
    have e : cellsB d (p1, p2) (q1, q2) = [] := by unfold cellsB partP; rw [hA]; rfl
    rw [e]; rfl
  | true =>
    obtain ⟨al, aa, bl, ba, hp, hq, hsp, hmay⟩ := askedD_span hA
    simp only [Prod.mk.injEq] at hp hq
    obtain ⟨rfl, rfl⟩ := hp
    obtain ⟨rfl, rfl⟩ := hq
    simp only [Int.toNat_natCast]
    rw [anyS_eq hsp hmay _ (lacksB q) (fun r f t h1 h2 => lacks_eq h1 h2)]
    generalize cellsB d ((al : Int), (aa : Int)) ((bl : Int), (ba : Int)) = Z
    have hB : fitB Z.length 0 (Z.length : Int) = true := decide_eq_true (by omega)
    have e0 : (0 : Int).toNat = 0 := rfl
    rw [hB, e0, List.drop_zero, Nat.sub_zero, List.take_length, Bool.true_and]
    congr 1
    by_cases h : 0 < Z.length
    · rw [decide_eq_true h, decide_eq_true (show (0 : Int) < (Z.length : Int) by omega)]
    · rw [decide_eq_false h, decide_eq_false (show ¬ (0 : Int) < (Z.length : Int) by omega)]
theorem some_eq (d : Doc) (p1 p2 q1 q2 q : Int) : someD d (p1, p2) (q1, q2) q = someO (cellsB d (p1, p2) (q1, q2)) 0 ((cellsB d (p1, p2) (q1, q2)).length : Int) q := by
  unfold someD someO
  cases hA : askedD d (p1, p2) (q1, q2) with
  | false =>
    have e : cellsB d (p1, p2) (q1, q2) = [] := by unfold cellsB partP; rw [hA]; rfl
    rw [e]; rfl
  | true =>
    obtain ⟨al, aa, bl, ba, hp, hq, hsp, hmay⟩ := askedD_span hA
    simp only [Prod.mk.injEq] at hp hq
    obtain ⟨rfl, rfl⟩ := hp
    obtain ⟨rfl, rfl⟩ := hq
    simp only [Int.toNat_natCast]
    rw [anyS_eq hsp hmay _ (hasB q) (fun r f t h1 h2 => has_eq h1 h2)]
    generalize cellsB d ((al : Int), (aa : Int)) ((bl : Int), (ba : Int)) = Z
    have hB : fitB Z.length 0 (Z.length : Int) = true := decide_eq_true (by omega)
    have e0 : (0 : Int).toNat = 0 := rfl
    rw [hB, e0, List.drop_zero, Nat.sub_zero, List.take_length]
theorem part_le (d : Doc) (p1 p2 q1 q2 : Int) : countA d (p1, p2) (q1, q2) ≤ sizeD d := by
  cases hA : askedD d (p1, p2) (q1, q2) with
  | false => unfold countA; rw [hA]; exact Nat.zero_le _
  | true =>
    obtain ⟨al, aa, bl, ba, hp, hq, hsp, hmay⟩ := askedD_span hA
    simp only [Prod.mk.injEq] at hp hq
    obtain ⟨rfl, rfl⟩ := hp
    obtain ⟨rfl, rfl⟩ := hq
    have h1 := part_size hsp hmay
    rw [part_count] at h1
    exact h1
theorem fine_nil : Fine [] := ⟨by decide, fun x hx => (by cases hx), by decide⟩
theorem chD_fine (g : Ce → Ce) {d : Doc} (hf : Fine d) (hg : ∀ c : Ce, c.2.2.size ≤ 1000000 → (g c).2.2.size ≤ 1000000) (p1 p2 q1 q2 : Int) : Fine (chD d (p1, p2) (q1, q2) (fun r f t => turnR g r f t)).1 := by
  cases hA : askedD d (p1, p2) (q1, q2) with
  | false => unfold chD; rw [hA]; exact fine_nil
  | true =>
    obtain ⟨al, aa, bl, ba, hp, hq, hsp, hmay⟩ := askedD_span hA
    simp only [Prod.mk.injEq] at hp hq
    obtain ⟨rfl, rfl⟩ := hp
    obtain ⟨rfl, rfl⟩ := hq
    by_cases h0 : countD d al aa bl ba = 0
    · have e : chD d ((al : Int), (aa : Int)) ((bl : Int), (ba : Int)) (fun r f t => turnR g r f t) = ([], 7) := by unfold chD; rw [hA]; simp only [if_true, Int.toNat_natCast]; rw [if_pos h0]
      rw [e]; exact fine_nil
    · rw [chD_turn g hsp hmay h0]
      exact turn_fine hsp hf hg

end Go.Proofs.YtafincmcmgedbaaGreatDoor
