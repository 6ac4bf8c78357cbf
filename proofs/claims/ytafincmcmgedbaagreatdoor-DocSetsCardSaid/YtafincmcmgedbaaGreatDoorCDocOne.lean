/-
  The program's one: is that so of the cells of one of the lines?
-/
import Derived.Test.YtafincmcmgedbaaGreatDoorCDocG

namespace Go.Proofs.YtafincmcmgedbaaGreatDoor
open Go.RowKit Go.Lib Go.Shelf
attribute [local go_sem] Oper.semAt_some

/-- What is asked of what each row is handed to: it tells. -/
def IsOk (gf : Nat) (caps : Array Value) (P : Row → Nat → Nat → Bool) (w : World) (d : Doc) : Prop :=
  ∀ (V : World) (v : Value) (cs : Row) (f t : Nat), Below w.heap.size w V → RowAt V v cs → (∃ x ∈ d, x.cs = cs) → f ≤ t → t ≤ cs.length → Calls Tryz.prog gf (#[v, .int .i64 (f : Int), .int .i64 (t : Int)] ++ caps) V fun e w' => e = .returned (.bool (P cs f t)) ∧ Below V.heap.size V w'
abbrev boxes5 (w : World) (a : Option Addr) (n c : Nat) (al aa bl ba : Int) (F : Value) : World :=
  ((((w.alloc (.cells #[.slice a n c] 22)).alloc (.cells #[.int .i64 al, .int .i64 aa] 24)).alloc (.cells #[.int .i64 bl, .int .i64 ba] 24)).alloc (.cells #[F] 92)).alloc (.cells #[.bool false] 4)
/-- What the five boxes hold. -/
structure FiveAt (w W : World) (a : Option Addr) (n c : Nat) (al aa bl ba : Int) (F : Value) : Prop where
  b : Below w.heap.size w W
  s : w.heap.size + 5 ≤ W.heap.size
  d : W.cell? ⟨w.heap.size, 0, none⟩ = some (.slice a n c)
  p : PsAt W (w.heap.size + 1) al aa
  q : PsAt W (w.heap.size + 1 + 1) bl ba
  f : W.cell? ⟨w.heap.size + 1 + 1 + 1, 0, none⟩ = some F
  r : W.cell? ⟨w.heap.size + 1 + 1 + 1 + 1, 0, none⟩ = some (.bool false)
  rf : W.frozen? ⟨w.heap.size + 1 + 1 + 1 + 1, 0, none⟩ = false
theorem FiveAt.below {w W W' : World} {a : Option Addr} {n c : Nat} {al aa bl ba : Int} {F : Value} (h : FiveAt w W a n c al aa bl ba F) (hb : Below W.heap.size W W') : FiveAt w W' a n c al aa bl ba F := by
  have hs := h.s
  exact ⟨h.b.trans (hb.mono h.b.size), Nat.le_trans hs hb.size, (hb.cell (p := ⟨_, 0, none⟩) (by show w.heap.size < _; omega)).trans h.d, h.p.below hb, h.q.below hb, (hb.cell (p := ⟨_, 0, none⟩) (by show w.heap.size + 1 + 1 + 1 < _; omega)).trans h.f,
    (hb.cell (p := ⟨_, 0, none⟩) (by show w.heap.size + 1 + 1 + 1 + 1 < _; omega)).trans h.r, (hb.frozen (p := ⟨_, 0, none⟩) (by show w.heap.size + 1 + 1 + 1 + 1 < _; omega)).trans h.rf⟩
theorem five_new (w : World) (a : Option Addr) (n c : Nat) (al aa bl ba : Int) (F : Value) : FiveAt w (boxes5 w a n c al aa bl ba F) a n c al aa bl ba F := by
  have s1 : ∀ (V : World) (o : Obj), (V.alloc o).heap.size = V.heap.size + 1 := fun V o => World.size_alloc _ _
  unfold boxes5
  obtain ⟨W1, h1⟩ : ∃ W, w.alloc (.cells #[.slice a n c] 22) = W := ⟨_, rfl⟩
  have k1 : W1.heap.size = w.heap.size + 1 := by rw [← h1, s1]
  have d1 := (blk_new w #[.slice a n c] 22 _ 0 _ rfl rfl).1
  have b1 := below_alloc1 w (.cells #[.slice a n c] 22)
  rw [h1] at d1 b1 ⊢
  obtain ⟨W2, h2⟩ : ∃ W, W1.alloc (.cells #[.int .i64 al, .int .i64 aa] 24) = W := ⟨_, rfl⟩
  have k2 : W2.heap.size = w.heap.size + 1 + 1 := by rw [← h2, s1, k1]
  have p2 := ps_new W1 al aa
  have b2 := below_alloc1 W1 (.cells #[.int .i64 al, .int .i64 aa] 24)
  rw [h2] at p2 b2 ⊢
  rw [k1] at p2
  obtain ⟨W3, h3⟩ : ∃ W, W2.alloc (.cells #[.int .i64 bl, .int .i64 ba] 24) = W := ⟨_, rfl⟩
  have k3 : W3.heap.size = w.heap.size + 1 + 1 + 1 := by rw [← h3, s1, k2]
  have p3 := ps_new W2 bl ba
  have b3 := below_alloc1 W2 (.cells #[.int .i64 bl, .int .i64 ba] 24)
  rw [h3] at p3 b3 ⊢
  rw [k2] at p3
  obtain ⟨W4, h4⟩ : ∃ W, W3.alloc (.cells #[F] 92) = W := ⟨_, rfl⟩
  have k4 : W4.heap.size = w.heap.size + 1 + 1 + 1 + 1 := by rw [← h4, s1, k3]
  have f4 := (blk_new W3 #[F] 92 _ 0 _ k3 rfl).1
  have b4 := below_alloc1 W3 (.cells #[F] 92)
  rw [h4] at f4 b4 ⊢
  have e6 := blk_new W4 #[.bool false] 4 _ 0 _ k4 rfl
  have b6 := below_alloc1 W4 (.cells #[.bool false] 4)
  obtain ⟨W6, h6⟩ : ∃ W, W4.alloc (.cells #[.bool false] 4) = W := ⟨_, rfl⟩
  have k6 : W6.heap.size = w.heap.size + 1 + 1 + 1 + 1 + 1 := by rw [← h6, s1, k4]
  rw [h6] at e6 b6 ⊢
  have t4 := b4.trans (b6.mono b4.size)
  have t3 := b3.trans (t4.mono b3.size)
  have t2 := b2.trans (t3.mono b2.size)
  have t1 := b1.trans (t2.mono b1.size)
  exact ⟨t1, by omega, (t2.cell (p := ⟨w.heap.size, 0, none⟩) (show w.heap.size < W1.heap.size by omega)).trans d1, p2.below t3, p3.below t4, (b6.cell (p := ⟨w.heap.size + 1 + 1 + 1, 0, none⟩) (show w.heap.size + 1 + 1 + 1 < W4.heap.size by omega)).trans f4, e6.1, e6.2⟩

theorem boxes5_size (w : World) (a : Option Addr) (n c : Nat) (al aa bl ba : Int) (F : Value) : (boxes5 w a n c al aa bl ba F).heap.size = w.heap.size + 5 := by
  unfold boxes5
  rw [World.size_alloc, World.size_alloc, World.size_alloc, World.size_alloc, World.size_alloc]
/-- None has been so. -/
def NoneYet (W6 : World) (p : St → Bool) (s : List St) (R : Nat → Prop) (V : World) : Prop := (∀ x ∈ s, p x = false) ∧ R = (fun _ => False) ∧ Below W6.heap.size W6 V
theorem noneYet_bides (W6 : World) (p : St → Bool) (B : Nat) (hB : W6.heap.size ≤ B) : Bides B (NoneYet W6 p) := by
  rintro s R W W' rr ⟨h0, h1, hb⟩ hg hr
  exact ⟨h0, h1, hb.grown hg hb.size (fun k e => by have := (hr k e).1; omega)⟩
/-- One was so. -/
def Found (w : World) (p : St → Bool) (c : Code) (s : List St) (V : World) : Prop :=
  c = .ret ∧ (∃ x ∈ s, p x = true) ∧ V.cell? ⟨w.heap.size + 1 + 1 + 1 + 1, 0, none⟩ = some (.bool true) ∧ Below w.heap.size w V
theorem found_leaves (w : World) (p : St → Bool) (B : Nat) (hB : w.heap.size + 5 ≤ B) (c : Code) : Leaves B (Found w p c) := by
  rintro s W W' rr ⟨hc, hx, c1, hb⟩ hg hr
  refine ⟨hc, hx, ?_, hb.grown hg hb.size (fun k e => by have := hr k e; omega)⟩
  rw [World.cell?_of_block (hg.block _ (lt_of_cell' c1) (fun e => by have h := hr _ e.symm; dsimp only at h; omega))]; exact c1
theorem results_one {P : Program} {fn : Func} {p : Tmp} {t : TypeId} (h : fn.results = #[.cell p t]) {tmps : Array Value} {a : Addr} {v : Value} {w : World}
    (ha : tmps[p]?.getD undef = .pointer (some a)) (hva : ∀ w, (isAgg t).run P w = .ok false w) (hv : w.cell? a = some v) : (results fn tmps).run P w = .ok v w := by
  simp only [results, h]
  simp [go_sem, ha, hv, hva, Result.andThen]
def anyS (d : Doc) (P : Row → Nat → Nat → Bool) (al aa bl ba : Nat) : Bool := (strs d al aa bl ba).any (fun s => P (d[s.1]!).cs s.2.1 s.2.2)

set_option maxRecDepth 40000 in
set_option maxHeartbeats 32000000 in
theorem done_any (v : Value) (l : List Lw) (al aa bl ba gf : Nat) (caps : Array Value) (P : Row → Nat → Nat → Bool) (w : World) (h : DocAt w v l) (hf : Fine (pl l)) (hsp : Span (pl l) al aa bl ba)
    (hdo : IsOk gf caps P w (pl l)) (hgf : ∀ args W, (callFunc gf args).run Tryz.prog W = .ok (.enter gf args) W) :
    Calls Tryz.prog 94 #[v, psV ((al : Int), (aa : Int)), psV ((bl : Int), (ba : Int)), .func (.func gf) #[] caps] w fun e w' => e = .returned (.bool (anyS (pl l) P al aa bl ba)) ∧ Below w.heap.size w w' := by
  obtain ⟨a, c, rfl⟩ := h.s.len
  obtain ⟨p, hp⟩ : ∃ p : St → Bool, (fun s => P ((pl l)[s.1]!).cs s.2.1 s.2.2) = p := ⟨_, rfl⟩
  have HP := Lib.hid hp
  have hany : anyS (pl l) P al aa bl ba = (strs (pl l) al aa bl ba).any p := by rw [← hp]; rfl
  rw [hany]
  clear hp hany
  have cB := fun (w1 : World) => between_any a l.length c (al : Int) (aa : Int) (bl : Int) (ba : Int) w1
  have S6 := Lib.hid (five_new w a l.length c (al : Int) (aa : Int) (bl : Int) (ba : Int) (.func (.func gf) #[] caps))
  have hz5 := boxes5_size w a l.length c (al : Int) (aa : Int) (bl : Int) (ba : Int) (.func (.func gf) #[] caps)
  have V := Lib.hid h
  unfold psV at cB ⊢
  dsimp only at cB ⊢
  obtain ⟨_, t2, t3, ⟨_, y0, y1, _, _⟩, ⟨_, z0, z1, _, _⟩, t4, _, _⟩ := S6.out
  refine (callsIn_wide (n := 9)).1 ?_
  refine callsIn_of_wp_marks Tryz.func94 rfl trivial ?_ rfl
  simp only [Tryz.ntmps94, List.size_toArray, List.length_cons, List.length_nil, Nat.reduceAdd, Nat.reduceSub, Array.replicate_succ, Array.replicate_zero, List.push_toArray, List.append_toArray, List.nil_append, List.cons_append]
  gi_wp2_with (refine ⟨trivial, ?_⟩; gi_at_call 98; refine (callsIn_wide.2 (cB _)).mono ?_; rintro e w2 ⟨rfl, hz2, hb2, c1, P1, P2⟩)
  obtain ⟨W6, hW6⟩ : ∃ W6, boxes5 w a l.length c (al : Int) (aa : Int) (bl : Int) (ba : Int) (.func (.func gf) #[] caps) = W6 := ⟨_, rfl⟩
  have hz6 : W6.heap.size = w.heap.size + 5 := by rw [← hW6]; exact hz5
  rw [hW6] at S6
  replace hz2 : w2.heap.size = w.heap.size + 5 + 3 := by rw [← hz5]; exact hz2
  replace hb2 : Below W6.heap.size W6 w2 := by rw [← hW6]; exact hb2
  replace c1 : w2.cell? ⟨w.heap.size + 5, 0, none⟩ = some (.slice a l.length c) := by rw [← hz5]; exact c1
  replace P1 : PsAt w2 (w.heap.size + 5 + 1) al aa := by rw [← hz5]; exact P1
  replace P2 : PsAt w2 (w.heap.size + 5 + 2) bl ba := by rw [← hz5]; exact P2
  have hgo := between_goes (w.heap.size + 5) a c l al aa bl ba hf hsp (fun W => Below W6.heap.size W6 W) (fun W h => V.out.s.below (S6.out.b.trans (h.mono S6.out.b.size))) w2 hz2 c1 P1 P2
  have hw6 := S6.out.s
  clear c1 P1 P2 cB y0 y1 z0 z1 t2 t3 t4 hW6 hz5
  refine range_goes (gf := 125) rfl (enters_of Tryz.func125 (by kernel_rfl) rfl)
    hgo (by omega) (Below.refl _ _) (fun _ => rfl) (NoneYet W6 p) (Found w p) (found_leaves w p _ (by omega)) (noneYet_bides W6 p _ (by omega)) ?lt (fun s row W h => h.2.2)
    ⟨(fun x hx => by cases hx), rfl, hb2⟩
    (fun r W => { tmps := #[.slice a l.length c, .agg #[.int .i64 (al : Int), .int .i64 (aa : Int)], .agg #[.int .i64 (bl : Int), .int .i64 (ba : Int)], .func (.func gf) #[] caps, .pointer (some ⟨w.heap.size, 0, none⟩), .pointer (some ⟨w.heap.size + 1, 0, none⟩), .pointer (some ⟨w.heap.size + 1 + 1, 0, none⟩), .pointer (some ⟨w.heap.size + 1 + 1 + 1, 0, none⟩), .pointer (some ⟨w.heap.size + 1 + 1 + 1 + 1, 0, none⟩), .pointer (some ⟨W.heap.size, 0, none⟩), .slice a l.length c, .agg #[.int .i64 (al : Int), .int .i64 (aa : Int)], .agg #[.int .i64 (bl : Int), .int .i64 (ba : Int)], .func (.func 125) #[] #[.pointer (some ⟨w.heap.size + 5 + 1, 0, none⟩), .pointer (some ⟨w.heap.size + 5 + 2, 0, none⟩), .pointer (some ⟨w.heap.size + 5, 0, none⟩)], .agg #[.int .i64 (r.1 : Int), .int .i64 (r.2.1 : Int), .int .i64 (r.2.2 : Int)], undef, undef, undef, undef, undef, undef, undef, undef, undef, undef, undef, undef], defers := [] })
    (fun r W => W.alloc (.cells #[.int .i64 (r.1 : Int), .int .i64 (r.2.1 : Int), .int .i64 (r.2.2 : Int)] 98)) (fun r W => below_alloc1 W _) ?assign ?body ?done ?stop
  case lt =>
    rintro s row W ⟨_, rfl, _⟩ r e
    exact False.elim e
  case assign =>
    intro y x W K hK
    dsimp only [stV]
    gi_wp2
    exact hK
  case stop =>
    rintro D c' pre X hD hsp' ⟨rfl, ⟨x, hx, hpx⟩, d1, hb⟩ hK'
    have D1 := Lib.hid (cell_put (D := D) (o := .deferred none) d1 (by show w.heap.size + 1 + 1 + 1 + 1 ≠ D; omega))
    have HB := Lib.hid (hb.grown (grownBy_putObj' _ D (.deferred none)) hb.size (fun r e => by cases e; omega))
    have HK := Lib.hid hK'
    have HX : Hid ((strs (pl l) al aa bl ba).any p = true) := Lib.hid (List.any_eq_true.2 ⟨x, hsp'.subset hx, hpx⟩)
    clear hb hK' d1 hx hpx
    gi_wp2
    refine ⟨by simp, .inl ⟨_, _, rfl, run_takeDeferred HK.out, ?_⟩⟩
    exact ⟨_, results_one rfl rfl (run_isAgg_plain Tryz.underlying4 rfl) D1.out, by rw [HX.out], HB.out⟩
  case done =>
    rintro D xs R X hD rfl ⟨h0, rfl, hb⟩ hrD hK'
    have SX := S6.out.below hb
    have HX : Hid ((strs (pl l) al aa bl ba).any p = false) := Lib.hid (by
      rw [List.any_eq_false]
      intro x hx
      rw [h0 x hx]
      decide)
    obtain ⟨t0, ts, _, _, _, _, r1, r2⟩ := SX
    have hne : (w.heap.size + 1 + 1 + 1 + 1 : Nat) ≠ D := by omega
    have D1 := Lib.hid (cell_put (D := D) (o := .deferred none) (World.cell?_setCell_same X ⟨w.heap.size + 1 + 1 + 1 + 1, 0, none⟩ (.bool false) r1) hne)
    have HB := Lib.hid ((t0.setCell (p := ⟨w.heap.size + 1 + 1 + 1 + 1, 0, none⟩) (show w.heap.size ≤ w.heap.size + 1 + 1 + 1 + 1 by omega) (.bool false)).grown (grownBy_putObj' _ D (.deferred none)) (t0.setCell (p := ⟨w.heap.size + 1 + 1 + 1 + 1, 0, none⟩) (show w.heap.size ≤ w.heap.size + 1 + 1 + 1 + 1 by omega) (.bool false)).size (fun r e => by cases e; omega))
    have HK : Hid ((X.setCell ⟨w.heap.size + 1 + 1 + 1 + 1, 0, none⟩ (.bool false)).heap[D]? = some (.deferred (some []))) := Lib.hid ((Below.heap_setCell _ ⟨w.heap.size + 1 + 1 + 1 + 1, 0, none⟩ _ D (by show D ≠ w.heap.size + 1 + 1 + 1 + 1; omega)).trans hK')
    clear hb hK' t0 ts hrD h0 hne
    gi_wp2
    refine ⟨by simp, .inl ⟨_, _, rfl, run_takeDeferred HK.out, ?_⟩⟩
    exact ⟨_, results_one rfl rfl (run_isAgg_plain Tryz.underlying4 rfl) D1.out, by rw [HX.out], HB.out⟩
  case body =>
    rintro y pre ⟨i, f, t⟩ R W X hsz hXs hXk ⟨hpre, rfl, hb⟩ hT
    have hmem : ((i, f, t) : St) ∈ strs (pl l) al aa bl ba := hT.subset (by simp)
    obtain ⟨m1, m2, m3⟩ := strs_mem hmem
    have hfit := hsp.fit m1 m2
    have hil : i < l.length := by have := hsp.hb; rw [pl_length] at this; exact Nat.lt_of_le_of_lt m2 this
    have hln := hf.len
    dsimp only at hXk hXs m3
    have hr2 : f = frN al aa i := congrArg (·.2.1) m3
    have hr3 : t = toN (pl l) bl ba i := congrArg (·.2.2) m3
    dsimp only at hfit
    rw [← hr2, ← hr3, cnt_pl hil] at hfit
    have hXW := (hXk W.heap.size (Nat.le_refl _)).trans (World.alloc_heap_new W _)
    rw [World.size_alloc] at hXs
    have z0 : X.cell? ⟨W.heap.size, 0, none⟩ = some (.int .i64 (i : Int)) := cell_blk hXW 0 _ rfl
    have z1 : X.cell? ⟨W.heap.size, 1, none⟩ = some (.int .i64 (f : Int)) := cell_blk hXW 1 _ rfl
    have z2 : X.cell? ⟨W.heap.size, 2, none⟩ = some (.int .i64 (t : Int)) := cell_blk hXW 2 _ rfl
    have SX := S6.out.below hb
    have hwX := SX.b
    have hVX := V.out.below hwX
    obtain ⟨b, o, c2, e, hlc, hcm, hbl, hcs⟩ := hVX.s.lies (by omega)
    obtain ⟨rfl, _, rfl⟩ := Value.slice.inj e
    unfold maxLen at hcm
    obtain ⟨q, za, n1, zc, kk, ra, n2, rc, x0, x1, x2, x3, k0, k1, k2, k3, k4, k5⟩ := hcs.get hil
    have hxm := mem_get hil
    have hxw := hVX.n _ hxm
    have hpg := pl_get l i hil
    obtain ⟨x, hx⟩ : ∃ x, l[i]! = x := ⟨_, rfl⟩
    rw [hx] at k0 k1 k2 k3 k4 k5 hxm hxw hfit hpg
    have cD := hdo X.drew (.slice ra n2 rc) x.ln.cs f t hwX.drew (by have := hxw.r; rw [k3] at this; exact this.below (Below.refl _ _).drew) ⟨x.ln, by unfold pl; exact List.mem_map.2 ⟨x, hxm, rfl⟩, rfl⟩ hfit.1 hfit.2
    have hpx : p (i, f, t) = P x.ln.cs f t := by rw [← HP.out, ← hpg]
    obtain ⟨T, hT2⟩ : ∃ T, P x.ln.cs f t = T := ⟨_, rfl⟩
    rw [hT2] at cD hpx
    have hd0 := SX.d
    have hg3 := SX.f
    have hiI : (i : Int) < (l.length : Int) := by omega
    have HSX := Lib.hid SX
    have HPX := Lib.hid hpx
    have HPR := Lib.hid hpre
    have HBW := Lib.hid hb
    clear hXk hXW m1 m2 m3 hr2 hr3 hT hmem e hcs hVX hxm hxw hpg hb hx k0 k1 k2 k3 k4 k5 SX hT2 hpx hpre
    gi_wp2
    refine wpIn_region_mid 11 (by kernel_rfl) (by kernel_rfl) (by kernel_rfl) (by rintro ⟨_, _, hq⟩; exact hq) ?_
    simp only [List.take_succ_cons, List.take_zero, List.drop_succ_cons, List.drop_zero]
    repeat still_step
    refine wpStill_nil ?_
    change wpList _ _ _ _ _ X.drew
    go_wp2
    refine cD.mono ?_
    rintro e X1 ⟨rfl, hb1⟩
    have hb1' : Below X.heap.size X X1 := (Below.refl _ X).drew.trans hb1
    obtain ⟨t0, ts, _, _, _, _, r1, r2⟩ := HSX.out.below hb1'
    have HB1 := Lib.hid hb1'
    have HT := Lib.hid t0
    clear hb1 hb1' z0 z1 z2 x0 x1 x2 x3 hd0 hg3 cD t0 HSX
    cases T with
    | true =>
      go_wp2
      refine wpStill_nil ?_
      gi_wp2
      refine ⟨⟨fun _ => False, ?_, fun _ h => h.elim⟩, rfl, ⟨_, List.mem_append_right _ (List.mem_singleton_self _), HPX.out⟩, ?_, ?_⟩
      · exact (KeptR.below HB1.out).trans (KeptR.grown (grownBy_setCell' X1 (w.heap.size + 1 + 1 + 1 + 1) _) (fun r e h => by cases e; omega))
      · exact World.cell?_setCell_same _ _ _ r1
      · exact HT.out.setCell (p := ⟨w.heap.size + 1 + 1 + 1 + 1, 0, none⟩) (by show w.heap.size ≤ w.heap.size + 1 + 1 + 1 + 1; omega) _
    | false =>
      go_wp2
      refine wpStill_nil ?_
      gi_wp2
      refine ⟨fun _ => False, ⟨?_, rfl, ?_⟩, KeptR.below HB1.out, fun _ h => h.elim⟩
      · intro z hz
        rcases List.mem_append.1 hz with hz | hz
        · exact HPR.out z hz
        · obtain rfl := List.mem_singleton.1 hz
          exact HPX.out
      · exact HBW.out.trans (HB1.out.mono HBW.out.size)

end Go.Proofs.YtafincmcmgedbaaGreatDoor
