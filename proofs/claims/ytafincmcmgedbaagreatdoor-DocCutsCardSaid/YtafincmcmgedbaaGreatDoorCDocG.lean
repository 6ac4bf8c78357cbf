/-
  The program's Count.
  The program's each: what is made of each line's row between two places.
  The program's each.
  The program's each, where what it hands rows to refuses.
-/
import Derived.Test.YtafincmcmgedbaaGreatDoorCDocF
import Derived.Test.YtafincmcmgedbaaGreatDoorRoundS
import Derived.Test.YtafincmcmgedbaaGreatDoorCFit

namespace Go.Proofs.YtafincmcmgedbaaGreatDoor
open Go.RowKit Go.Lib Go.Shelf
attribute [local go_sem] Oper.semAt_some

/-- What holds between two rounds of Count: the variable. -/
def Counted (B M : Nat) (w : World) (s : List St) (row : Nat → Prop) (V : World) : Prop :=
  V.cell? ⟨B, 0, none⟩ = some (.int .i64 ((countL s : Nat) : Int)) ∧ V.frozen? ⟨B, 0, none⟩ = false ∧ row = (fun _ => False) ∧ Below w.heap.size w V ∧ countL s ≤ M
theorem counted_bides (B M : Nat) (w : World) (hw : w.heap.size ≤ B) : Bides (B + 1) (Counted B M w) := by
  rintro s row W W' rr ⟨c1, f1, hr0, hb, hM⟩ hg hr
  have hlt := lt_of_cell' c1
  have hne : some B ≠ rr := fun e => by have := (hr _ e.symm).1; omega
  refine ⟨?_, ?_, hr0, hb.grown hg hb.size (fun k e => by have := (hr k e).1; omega), hM⟩
  · rw [World.cell?_of_block (hg.block _ hlt hne)]; exact c1
  · rw [World.frozen?_of_block (hg.block _ hlt hne)]; exact f1
theorem countL_snoc (s : List St) (x : St) : countL (s ++ [x]) = countL s + (x.2.2 - x.2.1) := by
  unfold countL; rw [List.map_append, List.sum_append]; simp
theorem countL_pre {s t : List St} (h : s <+: t) : countL s ≤ countL t := by
  obtain ⟨u, rfl⟩ := h
  unfold countL; rw [List.map_append, List.sum_append]; omega
/-- How many cells stand between both. -/
def countD (d : Doc) (al aa bl ba : Nat) : Nat := countL (strs d al aa bl ba)
theorem countF_le (d : Doc) (al aa bl ba : Nat) (h : Span d al aa bl ba) : ∀ n i, al ≤ i → bl + 1 - i ≤ n → sizeD (d.take i) + countL (strsF d al aa bl ba i) ≤ sizeD d
  | 0, i, _, hn => by
    rw [strsF_end _ _ _ _ _ _ (by omega)]
    have := sizeD_take_le d i
    simpa [countL] using this
  | n + 1, i, hi, hn => by
    by_cases hb : i ≤ bl
    · have ih := countF_le d al aa bl ba h n (i + 1) (by omega) (by omega)
      rw [strsF_step _ _ _ _ _ _ hb]
      obtain ⟨f1, f2⟩ := h.fit hi hb
      have hbl := h.hb
      rw [sizeD_next (by omega)] at ih
      unfold countL at ih ⊢
      rw [List.map_cons, List.sum_cons]
      unfold stN
      dsimp only
      omega
    · rw [strsF_end _ _ _ _ _ _ (by omega)]
      have := sizeD_take_le d i
      simpa [countL] using this
theorem countD_le {d : Doc} {al aa bl ba : Nat} (h : Span d al aa bl ba) : countD d al aa bl ba ≤ sizeD d := by
  have := countF_le d al aa bl ba h (bl + 1 - al) al (Nat.le_refl _) (Nat.le_refl _)
  unfold countD strs
  omega
/-- The count that is answered. -/
def countA (d : Doc) (a b : Ps) : Nat := if askedD d a b then countD d a.1.toNat a.2.toNat b.1.toNat b.2.toNat else 0

set_option maxRecDepth 20000 in
set_option maxHeartbeats 16000000 in
theorem dcount_any (v : Value) (l : List Lw) (p1 p2 q1 q2 : Int) (w : World) (h : DocAt w v l) (hf : Fine (pl l)) (hE : Tg.Env w) :
    Calls Tryz.prog 54 #[v, psV (p1, p2), psV (q1, q2)] w fun e w' => e = .returned (.int .i64 ((countA (pl l) (p1, p2) (q1, q2) : Nat) : Int)) ∧ Below w.heap.size w w' := by
  obtain ⟨a, c, rfl⟩ := h.s.len
  have cA : ∀ w1, Below w.heap.size w w1 → _ := fun w1 h1 => dasked_any _ l p1 p2 q1 q2 w1 (h.below h1) hf (hE.below h1)
  unfold countA
  have A0 := Lib.hid ((ps_new w p1 p2).below (below_alloc1 _ (.cells #[.int .i64 q1, .int .i64 q2] 24)))
  have A1 := Lib.hid (ps_new (w.alloc (.cells #[.int .i64 p1, .int .i64 p2] 24)) q1 q2)
  rw [show (w.alloc (.cells #[.int .i64 p1, .int .i64 p2] 24)).heap.size = w.heap.size + 1 by simp] at A1
  have hX := Lib.hid (two_allocs w (.cells #[.int .i64 p1, .int .i64 p2] 24) (.cells #[.int .i64 q1, .int .i64 q2] 24))
  have hXs : ((w.alloc (.cells #[.int .i64 p1, .int .i64 p2] 24)).alloc (.cells #[.int .i64 q1, .int .i64 q2] 24)).heap.size = w.heap.size + 2 := by simp
  cases hA : askedD (pl l) (p1, p2) (q1, q2) with
  | false =>
    rw [hA] at cA
    unfold psV at cA ⊢
    dsimp only at cA ⊢
    obtain ⟨n, hn⟩ : ∃ n, l.length = n := ⟨_, rfl⟩
    rw [hn] at cA ⊢
    clear h hf hE hA hn hXs
    go_enter Tryz.func54, Tryz.ntmps54
    go_wp2_with (go_at_call 75; ((with_reducible refine (cA _ hX.out).mono ?_); rintro e w2 ⟨rfl, hk⟩; have hb := hX.out.trans (hk.mono hX.out.size)))
    go_ret
    exact ⟨rfl, hb⟩
  | true =>
    obtain ⟨al, aa, bl, ba, hp, hq, hsp, hmay⟩ := askedD_span hA
    rw [hA] at cA
    simp only [Prod.mk.injEq] at hp hq
    obtain ⟨rfl, rfl⟩ := hp
    obtain ⟨rfl, rfl⟩ := hq
    simp only [if_true, Int.toNat_natCast]
    have hMle := countD_le hsp
    have hfs := hf.s
    have cB := fun (w1 : World) => between_any a l.length c (al : Int) (aa : Int) (bl : Int) (ba : Int) w1
    have V := Lib.hid h
    unfold psV at cA cB ⊢
    dsimp only at cA cB ⊢
    refine (callsIn_wide (n := 9)).1 ?_
    refine callsIn_of_wp_marks Tryz.func54 rfl trivial ?_ rfl
    simp only [Tryz.ntmps54, List.size_toArray, List.length_cons, List.length_nil, Nat.reduceAdd, Nat.reduceSub, Array.replicate_succ, Array.replicate_zero, List.push_toArray, List.append_toArray, List.nil_append, List.cons_append]
    gi_wp2_with (first
      | (refine ⟨trivial, ?_⟩; gi_at_call 75; refine (callsIn_wide.2 (cA _ hX.out)).mono ?_; rintro e w1 ⟨rfl, hk⟩; have KW := Lib.hid hk; obtain ⟨_, y0, y1, _, _⟩ := A0.out.below hk; obtain ⟨_, z0, z1, _, _⟩ := A1.out.below hk; have hw1 := hk.size; clear hk)
      | (refine ⟨trivial, ?_⟩; gi_at_call 98; refine (callsIn_wide.2 (cB _)).mono ?_; rintro e w2 ⟨rfl, hz2, hb2, c1, P1, P2⟩))
    have hs9 : (w1.alloc (.cells #[.int .i64 0] 3)).heap.size = w1.heap.size + 1 := by simp
    have hUw : w.heap.size + 2 ≤ w1.heap.size := by omega
    rw [hs9] at hz2 hb2 c1 P1 P2
    have hb1 := hX.out.trans (KW.out.mono hX.out.size)
    have hb0 : Below w.heap.size w w2 := (hb1.alloc hb1.size _).trans (hb2.mono (by omega))
    have hnew := World.alloc_heap_new w1 (.cells #[.int .i64 0] 3)
    have t1 : w2.cell? ⟨w1.heap.size, 0, none⟩ = some (.int .i64 0) := (hb2.cell (p := ⟨w1.heap.size, 0, none⟩) (show w1.heap.size < w1.heap.size + 1 by omega)).trans (by exact cell_blk hnew 0 _ rfl)
    have t2 : w2.frozen? ⟨w1.heap.size, 0, none⟩ = false := (hb2.frozen (p := ⟨w1.heap.size, 0, none⟩) (show w1.heap.size < w1.heap.size + 1 by omega)).trans (by exact frozen_of_row _ _ 0 _ _ hnew)
    have hgo := between_goes (w1.heap.size + 1) a c l al aa bl ba hf hsp (fun W => Below w.heap.size w W) (fun W h => V.out.s.below h) w2 hz2 c1 P1 P2
    clear c1 P1 P2 hb1 hb2 hnew hs9 cA cB y0 y1 z0 z1 hw1
    refine range_goes (gf := 125) rfl (enters_of Tryz.func125 (by kernel_rfl) rfl)
      hgo (by omega) (Below.refl _ _) (fun _ => rfl) (Counted w1.heap.size (sizeD (pl l)) w) (fun _ _ _ => False) (fun _ _ _ _ _ h _ _ => h) (counted_bides w1.heap.size _ w (by omega)) ?lt (fun s row W h => h.2.2.2.1)
      ⟨t1, t2, rfl, hb0, Nat.zero_le _⟩
      (fun r W => { tmps := #[.slice a l.length c, .agg #[.int .i64 (al : Int), .int .i64 (aa : Int)], .agg #[.int .i64 (bl : Int), .int .i64 (ba : Int)], undef, .pointer (some ⟨w.heap.size, 0, none⟩), .pointer (some ⟨w.heap.size + 1, 0, none⟩), .int .i64 0, .pointer (some ⟨w1.heap.size, 0, none⟩), .pointer (some ⟨W.heap.size, 0, none⟩), .slice a l.length c, .agg #[.int .i64 (al : Int), .int .i64 (aa : Int)], .agg #[.int .i64 (bl : Int), .int .i64 (ba : Int)], .bool true, .bool false, .slice a l.length c, .agg #[.int .i64 (al : Int), .int .i64 (aa : Int)], .agg #[.int .i64 (bl : Int), .int .i64 (ba : Int)], .func (.func 125) #[] #[.pointer (some ⟨w1.heap.size + 1 + 1, 0, none⟩), .pointer (some ⟨w1.heap.size + 1 + 2, 0, none⟩), .pointer (some ⟨w1.heap.size + 1, 0, none⟩)], .agg #[.int .i64 (r.1 : Int), .int .i64 (r.2.1 : Int), .int .i64 (r.2.2 : Int)], undef, undef, undef, undef, undef, undef, undef, undef], defers := [] })
      (fun r W => W.alloc (.cells #[.int .i64 (r.1 : Int), .int .i64 (r.2.1 : Int), .int .i64 (r.2.2 : Int)] 98)) (fun r W => below_alloc1 W _) ?assign ?body ?done (fun _ _ _ _ _ _ h _ => h.elim)
    case lt =>
      rintro s row W ⟨_, _, rfl, _⟩ r e
      exact False.elim e
    case assign =>
      intro y x W K hK
      dsimp only [stV]
      gi_wp2
      exact hK
    case body =>
      rintro y pre ⟨r1, r2, r3⟩ row W X hsz hXs hXk ⟨c1, f1, rfl, hb, hM⟩ hT
      have hmem : ((r1, r2, r3) : St) ∈ strs (pl l) al aa bl ba := hT.subset (by simp)
      obtain ⟨m1, m2, m3⟩ := strs_mem hmem
      have hfit := hsp.fit m1 m2
      have hcr := hf.cnt r1 (by have := hsp.hb; rw [pl_length] at this; exact Nat.lt_of_le_of_lt m2 this)
      have hle := countL_pre hT
      rw [countL_snoc] at hle
      unfold countD at hMle
      dsimp only at hXk hle m3 hXs
      have hr2 : r2 = frN al aa r1 := congrArg (·.2.1) m3
      have hr3 : r3 = toN (pl l) bl ba r1 := congrArg (·.2.2) m3
      dsimp only at hfit
      rw [← hr2, ← hr3] at hfit
      have hXW := (hXk W.heap.size (Nat.le_refl _)).trans (World.alloc_heap_new W _)
      rw [World.size_alloc] at hXs
      have z1 : X.cell? ⟨W.heap.size, 1, none⟩ = some (.int .i64 (r2 : Int)) := cell_blk hXW 1 _ rfl
      have z2 : X.cell? ⟨W.heap.size, 2, none⟩ = some (.int .i64 (r3 : Int)) := cell_blk hXW 2 _ rfl
      obtain ⟨N0, hN0⟩ : ∃ N0, countL pre = N0 := ⟨_, rfl⟩
      rw [hN0] at c1 hM hle
      have hUX : w1.heap.size < X.heap.size := by omega
      have e1 : (N0 : Int) + ((r3 : Int) - (r2 : Int)) = ((N0 + (r3 - r2) : Nat) : Int) := by omega
      have C1 := Lib.hid c1
      have F1 := Lib.hid f1
      have HB := Lib.hid hb
      have hNb : Hid (N0 + (r3 - r2) ≤ sizeD (pl l)) := Lib.hid (by omega)
      have hcs : Hid (countL (pre ++ [(r1, r2, r3)]) = N0 + (r3 - r2)) := Lib.hid (by rw [countL_snoc, hN0])
      have E1 := Lib.hid e1
      clear hXk hXW m1 m2 m3 hr2 hr3 hT hmem hb e1
      have hwb : (r2 : Int) ≤ (r3 : Int) := by omega
      have hwc : (r3 : Int) ≤ 1000000 := by omega
      have hwd : (N0 : Int) ≤ 1000000 := by omega
      gi_wp2
      refine ⟨fun _ => False, ⟨?_, ?_, rfl, ?_, ?_⟩, ?_, fun _ h => h.elim⟩
      · rw [hcs.out, ← E1.out]
        exact World.cell?_setCell_same' _ _ _ (by rw [C1.out]; rfl)
      · rw [World.frozen?_setCell]; exact F1.out
      · exact HB.out.setCell (p := ⟨w1.heap.size, 0, none⟩) (show w.heap.size ≤ w1.heap.size by omega) _
      · rw [hcs.out]; exact hNb.out
      · exact KeptR.grown (grownBy_setCell' X w1.heap.size _) (fun r e h => by cases e; omega)
    case done =>
      rintro D xs row X hD rfl ⟨c1, f1, rfl, hb, _⟩ hrD hK'
      have HB := Lib.hid hb
      have HK := Lib.hid hK'
      clear hb hK'
      gi_wp2
      refine ⟨by simp, .inl ⟨_, _, rfl, run_takeDeferred HK.out, ?_⟩⟩
      exact ⟨_, results_tmp rfl _ _ _, rfl, HB.out.grown (grownBy_putObj' X D (.deferred none)) HB.out.size (fun r e => by cases e; omega)⟩

end Go.Proofs.YtafincmcmgedbaaGreatDoor

namespace Go.Proofs.YtafincmcmgedbaaGreatDoor
open Go.RowKit Go.Lib Go.Shelf
attribute [local go_sem] Oper.semAt_some

theorem lframeA (x : Lw) (w : World) (h : LwAt w x) (hz : x.ln.ls.length ≤ 50000) :
    Calls Tryz.prog 76 #[aggL x] w fun e w' => ∃ y : Lw, e = .returned (aggL y) ∧ y.ln = lnWith x.ln [] ∧ MineLw w.heap.size w' y ∧ Below w.heap.size w w' := by
  refine (lframe_any x.ln.q x.ln.k x.sl x.sc x.ln.ls x.ln.cs w h hz).mono ?_
  rintro e w' ⟨sl', sc', rfl, o, hb⟩
  obtain ⟨y, h1, h2, h3, h4⟩ := lw_of_own (q := x.ln.q) (k := x.ln.k) o
  exact ⟨y, by unfold aggL; rw [h1, h2, h3], h3, h4, hb⟩
/-- What is asked of what each is handed: a row of its own. -/
def DoOk (gf : Nat) (caps : Array Value) (u : Row → Nat → Nat → Row) (w : World) (d : Doc) : Prop :=
  ∀ (V : World) (v : Value) (cs : Row) (f t : Nat), Below w.heap.size w V → RowAt V v cs → (∃ x ∈ d, x.cs = cs) → f ≤ t → t ≤ cs.length → Calls Tryz.prog gf (#[v, .int .i64 (f : Int), .int .i64 (t : Int)] ++ caps) V (RowPost (u cs f t) V)
/-- .. or that it refuses. -/
def DoErr (gf : Nat) (caps : Array Value) (w : World) (d : Doc) : Prop :=
  ∀ (V : World) (v : Value) (cs : Row) (f t : Nat), Below w.heap.size w V → RowAt V v cs → (∃ x ∈ d, x.cs = cs) → f ≤ t → t ≤ cs.length → Calls Tryz.prog gf (#[v, .int .i64 (f : Int), .int .i64 (t : Int)] ++ caps) V fun e w' => e = .returned errV ∧ Below V.heap.size V w'

abbrev boxes6 (w : World) (a : Option Addr) (n c : Nat) (al aa bl ba : Int) (F : Value) : World :=
  (((((w.alloc (.cells #[.slice a n c] 22)).alloc (.cells #[.int .i64 al, .int .i64 aa] 24)).alloc (.cells #[.int .i64 bl, .int .i64 ba] 24)).alloc (.cells #[F] 78)).alloc (.cells #[.slice none 0 0] 22)).alloc (.cells #[.int .i64 0] 33)
theorem blk_new (w : World) (cs : Array Value) (t : TypeId) (n j : Nat) (v : Value) (hn : w.heap.size = n) (h : cs[j]? = some v) : (w.alloc (.cells cs t)).cell? ⟨n, j, none⟩ = some v ∧ (w.alloc (.cells cs t)).frozen? ⟨n, j, none⟩ = false := by
  subst hn
  have h0 : (w.alloc (.cells cs t)).heap[w.heap.size]? = some (.cells cs t) := World.alloc_heap_new w _
  exact ⟨cell_blk h0 j v h, frozen_of_row _ _ j _ _ h0⟩
/-- What the six boxes hold. -/
structure SixAt (w W : World) (a : Option Addr) (n c : Nat) (al aa bl ba : Int) (F : Value) : Prop where
  b : Below w.heap.size w W
  s : w.heap.size + 6 ≤ W.heap.size
  d : W.cell? ⟨w.heap.size, 0, none⟩ = some (.slice a n c)
  p : PsAt W (w.heap.size + 1) al aa
  q : PsAt W (w.heap.size + 1 + 1) bl ba
  f : W.cell? ⟨w.heap.size + 1 + 1 + 1, 0, none⟩ = some F
  r : W.cell? ⟨w.heap.size + 1 + 1 + 1 + 1, 0, none⟩ = some (.slice none 0 0)
  rf : W.frozen? ⟨w.heap.size + 1 + 1 + 1 + 1, 0, none⟩ = false
  e : W.cell? ⟨w.heap.size + 1 + 1 + 1 + 1 + 1, 0, none⟩ = some (.int .i64 0)
  ef : W.frozen? ⟨w.heap.size + 1 + 1 + 1 + 1 + 1, 0, none⟩ = false
theorem SixAt.below {w W W' : World} {a : Option Addr} {n c : Nat} {al aa bl ba : Int} {F : Value} (h : SixAt w W a n c al aa bl ba F) (hb : Below W.heap.size W W') : SixAt w W' a n c al aa bl ba F := by
  have hs := h.s
  exact ⟨h.b.trans (hb.mono h.b.size), Nat.le_trans hs hb.size, (hb.cell (p := ⟨_, 0, none⟩) (by show w.heap.size < _; omega)).trans h.d, h.p.below hb, h.q.below hb, (hb.cell (p := ⟨_, 0, none⟩) (by show w.heap.size + 1 + 1 + 1 < _; omega)).trans h.f,
    (hb.cell (p := ⟨_, 0, none⟩) (by show w.heap.size + 1 + 1 + 1 + 1 < _; omega)).trans h.r, (hb.frozen (p := ⟨_, 0, none⟩) (by show w.heap.size + 1 + 1 + 1 + 1 < _; omega)).trans h.rf, (hb.cell (p := ⟨_, 0, none⟩) (by show w.heap.size + 1 + 1 + 1 + 1 + 1 < _; omega)).trans h.e, (hb.frozen (p := ⟨_, 0, none⟩) (by show w.heap.size + 1 + 1 + 1 + 1 + 1 < _; omega)).trans h.ef⟩
theorem six_new (w : World) (a : Option Addr) (n c : Nat) (al aa bl ba : Int) (F : Value) : SixAt w (boxes6 w a n c al aa bl ba F) a n c al aa bl ba F := by
  have s1 : ∀ (V : World) (o : Obj), (V.alloc o).heap.size = V.heap.size + 1 := fun V o => World.size_alloc _ _
  unfold boxes6
  obtain ⟨W1, h1⟩ : ∃ W, w.alloc (.cells #[.slice a n c] 22) = W := ⟨_, rfl⟩
  have k1 : W1.heap.size = w.heap.size + 1 := by rw [← h1, s1]
  have d1 := (blk_new w #[.slice a n c] 22 _ 0 _ rfl rfl).1
  have b1 := below_alloc1 w (.cells #[.slice a n c] 22)
  rw [h1] at d1 b1 ⊢
  obtain ⟨W2, h2⟩ : ∃ W, W1.alloc (.cells #[.int .i64 al, .int .i64 aa] 24) = W := ⟨_, rfl⟩
  have k2 : W2.heap.size = w.heap.size + 1 + 1 := by rw [← h2, s1, k1]
  have p2 := ps_new W1 al aa
  have b2 := below_alloc1 W1 (.cells #[.int .i64 al, .int .i64 aa] 24)
  rw [h2] at p2 b2 ⊢
  rw [k1] at p2
  obtain ⟨W3, h3⟩ : ∃ W, W2.alloc (.cells #[.int .i64 bl, .int .i64 ba] 24) = W := ⟨_, rfl⟩
  have k3 : W3.heap.size = w.heap.size + 1 + 1 + 1 := by rw [← h3, s1, k2]
  have p3 := ps_new W2 bl ba
  have b3 := below_alloc1 W2 (.cells #[.int .i64 bl, .int .i64 ba] 24)
  rw [h3] at p3 b3 ⊢
  rw [k2] at p3
  obtain ⟨W4, h4⟩ : ∃ W, W3.alloc (.cells #[F] 78) = W := ⟨_, rfl⟩
  have k4 : W4.heap.size = w.heap.size + 1 + 1 + 1 + 1 := by rw [← h4, s1, k3]
  have f4 := (blk_new W3 #[F] 78 _ 0 _ k3 rfl).1
  have b4 := below_alloc1 W3 (.cells #[F] 78)
  rw [h4] at f4 b4 ⊢
  obtain ⟨W5, h5⟩ : ∃ W, W4.alloc (.cells #[.slice none 0 0] 22) = W := ⟨_, rfl⟩
  have k5 : W5.heap.size = w.heap.size + 1 + 1 + 1 + 1 + 1 := by rw [← h5, s1, k4]
  have r5 := blk_new W4 #[.slice none 0 0] 22 _ 0 _ k4 rfl
  have b5 := below_alloc1 W4 (.cells #[.slice none 0 0] 22)
  rw [h5] at r5 b5 ⊢
  have e6 := blk_new W5 #[.int .i64 0] 33 _ 0 _ k5 rfl
  have b6 := below_alloc1 W5 (.cells #[.int .i64 0] 33)
  obtain ⟨W6, h6⟩ : ∃ W, W5.alloc (.cells #[.int .i64 0] 33) = W := ⟨_, rfl⟩
  have k6 : W6.heap.size = w.heap.size + 1 + 1 + 1 + 1 + 1 + 1 := by rw [← h6, s1, k5]
  rw [h6] at e6 b6 ⊢
  have t5 := b5.trans (b6.mono b5.size)
  have t4 := b4.trans (t5.mono b4.size)
  have t3 := b3.trans (t4.mono b3.size)
  have t2 := b2.trans (t3.mono b2.size)
  have t1 := b1.trans (t2.mono b1.size)
  exact ⟨t1, by omega, (t2.cell (p := ⟨w.heap.size, 0, none⟩) (show w.heap.size < W1.heap.size by omega)).trans d1, p2.below t3, p3.below t4, (t5.cell (p := ⟨w.heap.size + 1 + 1 + 1, 0, none⟩) (show w.heap.size + 1 + 1 + 1 < W4.heap.size by omega)).trans f4,
    (b6.cell (p := ⟨w.heap.size + 1 + 1 + 1 + 1, 0, none⟩) (show w.heap.size + 1 + 1 + 1 + 1 < W5.heap.size by omega)).trans r5.1, (b6.frozen (p := ⟨w.heap.size + 1 + 1 + 1 + 1, 0, none⟩) (show w.heap.size + 1 + 1 + 1 + 1 < W5.heap.size by omega)).trans r5.2, e6.1, e6.2⟩

/-- In which blocks a line's rows lie. -/
def InRows (k : Nat) (x : Lw) : Prop := ∃ o, (x.za = some ⟨k, o, none⟩ ∧ 0 < x.ln.ls.length) ∨ (x.ra = some ⟨k, o, none⟩ ∧ 0 < x.ln.cs.length)
def RowsOf (v : Value) (m : List Lw) (k : Nat) : Prop := v.ownBlock = some k ∨ ∃ x ∈ m, InRows k x
theorem inRows_lo {B k : Nat} {w : World} {x : Lw} (h : MineLw B w x) (hk : InRows k x) : B ≤ k ∧ k < w.heap.size := by
  obtain ⟨o, ⟨e, hl⟩ | ⟨e, hl⟩⟩ := hk
  · obtain ⟨h1, h2, _⟩ := h.z.mine hl k o _ _ (by unfold Lw.sl; rw [e])
    exact ⟨h1, h2⟩
  · obtain ⟨h1, h2, _⟩ := h.r.mine hl k o _ _ (by unfold Lw.sc; rw [e])
    exact ⟨h1, h2⟩
theorem OwnD.rows {B k : Nat} {w : World} {v : Value} {m : List Lw} (h : OwnD B w v m) (hk : RowsOf v m k) : B ≤ k ∧ k < w.heap.size := by
  rcases hk with hk | ⟨x, hx, hk⟩
  · exact ownBlk h.own hk
  · exact inRows_lo (h.n x hx) hk
theorem OwnD.grown {B : Nat} {w w' : World} {v : Value} {m : List Lw} {rr : Option Nat} (h : OwnD B w v m) (hg : w.grownBy w' rr) (hr : ∀ r, rr = some r → ¬ RowsOf v m r) : OwnD B w' v m := by
  refine ⟨h.own.kept hg ?_, fun x hx => (h.n x hx).grown hg (fun g e g' o hgo hgg => hr g e (.inr ⟨x, hx, o, hgg ▸ hgo⟩)), h.ap⟩
  rcases hv : v.ownBlock with _ | g
  · exact .inl rfl
  · exact .inr (fun e => hr g e.symm (.inl hv))
theorem OwnD.set {B : Nat} {w : World} {v : Value} {m : List Lw} {p : Addr} (h : OwnD B w v m) (hp : p.block < B) (u : Value) : OwnD B (w.setCell p u) v m :=
  ⟨own_setCell h.own hp, fun x hx => (h.n x hx).set (offB_lo (h.n x hx) hp) u, h.ap⟩

end Go.Proofs.YtafincmcmgedbaaGreatDoor

namespace Go.Proofs.YtafincmcmgedbaaGreatDoor
open Go.RowKit Go.Lib Go.Shelf
attribute [local go_sem] Oper.semAt_some

set_option maxRecDepth 20000 in
set_option maxHeartbeats 4000000 in
theorem deach_off (v : Value) (gf : Nat) (caps : Array Value) (l : List Lw) (p1 p2 q1 q2 : Int) (w : World) (h : DocAt w v l) (hf : Fine (pl l)) (hE : Tg.Env w) (hA : askedD (pl l) (p1, p2) (q1, q2) = false) :
    Calls Tryz.prog 71 #[v, psV (p1, p2), psV (q1, q2), .func (.func gf) #[] caps] w fun e w' => e = .returned errV ∧ Below w.heap.size w w' := by
  obtain ⟨a, c, rfl⟩ := h.s.len
  have cA : ∀ w1, Below w.heap.size w w1 → _ := fun w1 h1 => dasked_any _ l p1 p2 q1 q2 w1 (h.below h1) hf (hE.below h1)
  rw [hA] at cA
  obtain ⟨n, hn⟩ : ∃ n, l.length = n := ⟨_, rfl⟩
  have S6 := Lib.hid (six_new w a n c p1 p2 q1 q2 (.func (.func gf) #[] caps))
  unfold psV at cA ⊢
  dsimp only at cA ⊢
  rw [hn] at cA ⊢
  unfold errV
  clear h hf hE hA hn
  go_enter Tryz.func71, Tryz.ntmps71
  go_wp2_with (go_at_call 75; ((with_reducible refine (cA _ S6.out.b).mono ?_); rintro e w2 ⟨rfl, hk⟩; have T6 := Lib.hid (S6.out.below hk); have hb := S6.out.b.trans (hk.mono S6.out.b.size); obtain ⟨t1, t2, t3, t4, t5, t6, t7, t8, t9, t10⟩ := T6.out))
  exact bodyPost_ret (v := .tuple #[.slice none 0 0, .int .i64 1]) (by simp [results, Tryz.results71, go_sem, *]) rfl ⟨rfl, by repeat (first | (with_reducible exact hb) | (with_reducible refine Below.setCell ?_ ?_ _) | (show w.heap.size ≤ w.heap.size + _; omega) | (simp; omega))⟩

/-- What holds between two rounds: the variable, the lines that it names. -/
def Gath (W6 : World) (U : Nat) (d : Doc) (u : Row → Nat → Nat → Row) (s : List St) (R : Nat → Prop) (V : World) : Prop :=
  ∃ v m, V.cell? ⟨U, 0, none⟩ = some v ∧ V.frozen? ⟨U, 0, none⟩ = false ∧ OwnD (U + 4) V v m ∧ R = RowsOf v m ∧ pl m = eachD d u s ∧ Below W6.heap.size W6 V ∧ m.length = s.length ∧ s.length ≤ 1000
theorem gath_bides (W6 : World) (U : Nat) (d : Doc) (u : Row → Nat → Nat → Row) (hU : W6.heap.size ≤ U) : Bides (U + 1) (Gath W6 U d u) := by
  rintro s R W W' rr ⟨v, m, c1, f1, own, rfl, hm, hb, hl, hs⟩ hg hr
  have hlt := lt_of_cell' c1
  have hne : some U ≠ rr := fun e => by have := (hr _ e.symm).1; omega
  refine ⟨v, m, ?_, ?_, own.grown hg (fun r e => (hr r e).2), rfl, hm, hb.grown hg hb.size (fun k e => by have := (hr k e).1; omega), hl, hs⟩
  · rw [World.cell?_of_block (hg.block _ hlt hne)]; exact c1
  · rw [World.frozen?_of_block (hg.block _ hlt hne)]; exact f1
/-- Where a round has left. -/
def Left (w : World) (c : Code) (_ : List St) (V : World) : Prop :=
  c = .ret ∧ V.cell? ⟨w.heap.size + 1 + 1 + 1 + 1, 0, none⟩ = some (.slice none 0 0) ∧ V.cell? ⟨w.heap.size + 1 + 1 + 1 + 1 + 1, 0, none⟩ = some (.int .i64 1) ∧ Below w.heap.size w V
theorem left_leaves (w : World) (B : Nat) (hB : w.heap.size + 6 ≤ B) (c : Code) : Leaves B (Left w c) := by
  rintro s W W' rr ⟨hc, c1, c2, hb⟩ hg hr
  refine ⟨hc, ?_, ?_, hb.grown hg hb.size (fun k e => by have := hr k e; omega)⟩
  · rw [World.cell?_of_block (hg.block _ (lt_of_cell' c1) (fun e => by have h := hr _ e.symm; dsimp only at h; omega))]; exact c1
  · rw [World.cell?_of_block (hg.block _ (lt_of_cell' c2) (fun e => by have h := hr _ e.symm; dsimp only at h; omega))]; exact c2
theorem results_two {P : Program} {fn : Func} {p q : Tmp} {t t' : TypeId} (h : fn.results = #[.cell p t, .cell q t']) {tmps : Array Value} {a b : Addr} {v u : Value} {w : World}
    (ha : tmps[p]?.getD undef = .pointer (some a)) (hb : tmps[q]?.getD undef = .pointer (some b)) (hva : ∀ w, (isAgg t).run P w = .ok false w) (hva' : ∀ w, (isAgg t').run P w = .ok false w) (hv : w.cell? a = some v) (hu : w.cell? b = some u) : (results fn tmps).run P w = .ok (.tuple #[v, u]) w := by
  simp only [results, h]
  simp [go_sem, ha, hb, hv, hu, hva, hva', Result.andThen]
theorem cell_put {Y : World} {D : Nat} {o : Obj} {a : Addr} {v : Value} (h : Y.cell? a = some v) (hne : a.block ≠ D) : (Y.putObj D o).cell? a = some v := by
  rw [World.cell?_of_block ((grownBy_putObj' Y D o).block _ (lt_of_cell' h) (fun e => hne (Option.some.inj e)))]; exact h
/-- Two results laid, the deferred calls' block shut. -/
theorem two_laid {w X : World} {D b : Nat} {v1 v2 : Value} (c1 : ∃ u, X.cell? ⟨b, 0, none⟩ = some u) (c2 : ∃ u, X.cell? ⟨b + 1, 0, none⟩ = some u) (hD : b + 1 < D) (hb : Below w.heap.size w X) (hbw : w.heap.size ≤ b) (hK : X.heap[D]? = some (.deferred (some []))) :
    ((X.setCell ⟨b, 0, none⟩ v1).setCell ⟨b + 1, 0, none⟩ v2).heap[D]? = some (.deferred (some [])) ∧
    (((X.setCell ⟨b, 0, none⟩ v1).setCell ⟨b + 1, 0, none⟩ v2).putObj D (.deferred none)).cell? ⟨b, 0, none⟩ = some v1 ∧ (((X.setCell ⟨b, 0, none⟩ v1).setCell ⟨b + 1, 0, none⟩ v2).putObj D (.deferred none)).cell? ⟨b + 1, 0, none⟩ = some v2 ∧
    Below w.heap.size w (((X.setCell ⟨b, 0, none⟩ v1).setCell ⟨b + 1, 0, none⟩ v2).putObj D (.deferred none)) := by
  obtain ⟨u1, c1⟩ := c1
  obtain ⟨u2, c2⟩ := c2
  have n1 : (⟨b, 0, none⟩ : Addr) ≠ ⟨b + 1, 0, none⟩ := fun e => by have := congrArg Addr.block e; dsimp only at this; omega
  have hb2 : Below w.heap.size w ((X.setCell ⟨b, 0, none⟩ v1).setCell ⟨b + 1, 0, none⟩ v2) := (hb.setCell (p := ⟨b, 0, none⟩) hbw _).setCell (p := ⟨b + 1, 0, none⟩) (by show w.heap.size ≤ b + 1; omega) _
  refine ⟨(Below.heap_setCell _ ⟨b + 1, 0, none⟩ _ D (by show D ≠ b + 1; omega)).trans ((Below.heap_setCell _ ⟨b, 0, none⟩ _ D (by show D ≠ b; omega)).trans hK), ?_, ?_, ?_⟩
  · refine cell_put ?_ (by show b ≠ D; omega)
    rw [World.cell?_setCell_other _ _ _ _ n1.symm]
    exact World.cell?_setCell_same _ _ _ c1
  · refine cell_put ?_ (by show b + 1 ≠ D; omega)
    exact World.cell?_setCell_same _ _ _ ((World.cell?_setCell_other _ _ _ _ n1).trans c2)
  · exact hb2.grown (grownBy_putObj' _ D (.deferred none)) hb2.size (fun r e => by cases e; omega)

theorem eachD_snoc (d : Doc) (u : Row → Nat → Nat → Row) (s : List St) (x : St) : eachD d u (s ++ [x]) = eachD d u s ++ [atS d u x] := by
  unfold eachD; rw [List.map_append]; rfl

theorem wpListIn_append_lies {F : Fence} {nF : Nat} {P : Program} (w : World) {ops : Array Oper} {rest : List Oper} {o : Oper} {a : Act} {Q : Exit → Act → World → Prop} (hgd : o.guard = none) (s x : Operand) (t : TypeId)
    (ho : o.op = .call { callee := .builtin .append, args := #[s, x], argTypes := #[t, t] })
    (base : Nat) (e : TypeId) (i : TypeInfo) (z : Value) (size bytes : Nat) (ht : P.underlying t = some (.slice e)) (hi : P.info? e = some i) (hz : i.zero = some z)
    (hsize : i.size = size) (hby : i.bytes = bytes) (hzs : z.cells.size = size) (hsz : 0 < size)
    (v : Value) (n : Nat) (xs : List Value) (hs : a.eval s = v) (hown : w.ownsRow base e size v n xs)
    (ad : Addr) (m c : Nat) (news : List Value) (hx : a.eval x = .slice (some ad) m c) (hl : news.length = m * size) (hnews : ∀ j u, news[j]? = some u → w.cell? (ad.add j) = some u) (h1 : ∀ u ∈ news, u.oneCell' = true)
    (hm : 0 < m) (h63 : n + m ≤ maxLen) (hbytes : (n + m) * bytes ≤ 140737488355328) (hbase : base ≤ w.heap.size) (H : Nat) (hH : w.heap.size = H)
    (h : ∀ g cap w', w'.ownsRow base e size (.slice (some ⟨g, 0, none⟩) (n + m) cap) (n + m) (xs ++ news) → w.grownBy w' v.ownBlock → (v.ownBlock = some g ∨ g = H) → g < w'.heap.size → wpListIn F nF P ops Q rest (a.put o.dst (.slice (some ⟨g, 0, none⟩) (n + m) cap)) w') :
    wpListIn F nF P ops Q (o :: rest) a w := by
  refine wpListIn_plain hgd fun K hK => ?_
  obtain ⟨g, cap, w', hr, h2, h3, h4, h5⟩ := run_append_lies (P := P) (w := w) t o.type base e i z size bytes ht hi hz hsize hby hzs hsz v n xs hown ad m c news hl hnews h1 hm h63 hbytes hbase H hH
  unfold Oper.wpIn
  refine ⟨by simp [Oper.about, ho, resolve, Target.leads, Sem.run_pure], ?_⟩
  rw [Oper.semAt_plain F _ _ (by rw [ho]; intro c hc'; cases hc')]
  simp [execOp, ho, resolve, invoke, builtin, hs, hx, hr, Result.andThen]
  exact hK _ _ (h g cap w' h2 h3 h4 h5)

/-- **append(s, x)**, within a round, with where the answer lies. -/
theorem wpListIn_append_line {F : Fence} {nF : Nat} {ops : Array Oper} {rest : List Oper} {o : Oper} {a : Act} {Q : Exit → Act → World → Prop} {w : World} (hgd : o.guard = none) (s x : Operand)
    (ho : o.op = .call { callee := .builtin .append, args := #[s, x], argTypes := #[22, 22] })
    (base : Nat) (v : Value) (l : List Lw) (hs : a.eval s = v) (hown : w.ownsRow base 46 4 v l.length (cellsD l)) (g0 : Nat) (y : Lw) (hx : a.eval x = .slice (some ⟨g0, 0, none⟩) 1 1) (hu : SliceAt w (.slice (some ⟨g0, 0, none⟩) 1 1) [y])
    (hb : l.length ≤ 100000) (hbase : base ≤ w.heap.size) (H : Nat) (hH : w.heap.size = H)
    (h : ∀ g cap w', w'.ownsRow base 46 4 (.slice (some ⟨g, 0, none⟩) (l.length + 1) cap) (l ++ [y]).length (cellsD (l ++ [y])) → w.grownBy w' v.ownBlock → (v.ownBlock = some g ∨ g = H) → wpListIn F nF Tryz.prog ops Q rest (a.put o.dst (.slice (some ⟨g, 0, none⟩) (l.length + 1) cap)) w') : wpListIn F nF Tryz.prog ops Q (o :: rest) a w := by
  obtain ⟨i0, hi, hz0, hz1, hz2⟩ := info_parts infoLine
  obtain ⟨b, o1, c, e, _, _, hbb, hcs⟩ := hu.lies (by simp)
  simp only [Value.slice.injEq, Option.some.injEq, Addr.mk.injEq, and_true] at e
  obtain ⟨⟨rfl, rfl⟩, _, rfl⟩ := e
  refine wpListIn_append_lies w hgd s x 22 ho base 46 i0 _ 4 64 Tryz.underlying22 hi hz0 hz1 hz2 rfl (by decide) v _ _ hs hown ⟨g0, 0, none⟩ 1 1 (cellsD [y]) hx (cellsD_length [y]) hcs.addF (cellsD_one [y]) (by decide) (by unfold maxLen; omega) (by omega) hbase H hH (fun g cap w' h1 h2 h3 _ => h g cap w' (own_appD h1 rfl rfl) h2 h3)
/-- A line of one's own of which another row is laid. -/
theorem mineLw_with {B : Nat} {w w1 : World} {y : Lw} {R0 : Row} {rA : Option Addr} {rC : Nat} (hy : MineLw B w y) (ho : w1.ownsRow B 66 3 (.slice rA R0.length rC) R0.length (cellsR R0)) (hb : Below w1.heap.size w1 w) : MineLw B w ⟨y.za, y.zc, rA, rC, lnWith y.ln R0⟩ :=
  ⟨hy.z, ((mineR_of_own ho).kept (kept_of_below hb)).mono (Nat.le_refl _) hb.size⟩

set_option maxRecDepth 40000 in
set_option maxHeartbeats 32000000 in
theorem deach_ok (v : Value) (l : List Lw) (al aa bl ba gf : Nat) (caps : Array Value) (u : Row → Nat → Nat → Row) (w : World) (h : DocAt w v l) (hf : Fine (pl l)) (hE : Tg.Env w) (hsp : Span (pl l) al aa bl ba) (hmay : mayD (pl l) = true)
    (hdo : DoOk gf caps u w (pl l)) (hgf : ∀ args W, (callFunc gf args).run Tryz.prog W = .ok (.enter gf args) W) :
    Calls Tryz.prog 71 #[v, psV ((al : Int), (aa : Int)), psV ((bl : Int), (ba : Int)), .func (.func gf) #[] caps] w fun e w' => ∃ v r, e = .returned (.tuple #[v, .int .i64 0]) ∧ OwnD w.heap.size w' v r ∧ pl r = eachD (pl l) u (strs (pl l) al aa bl ba) ∧ Below w.heap.size w w' := by
  obtain ⟨a, c, rfl⟩ := h.s.len
  have cA : ∀ w1, Below w.heap.size w w1 → _ := fun w1 h1 => dasked_any _ l (al : Int) (aa : Int) (bl : Int) (ba : Int) w1 (h.below h1) hf (hE.below h1)
  rw [askedD_mk hsp hmay] at cA
  have cB := fun (w1 : World) => between_any a l.length c (al : Int) (aa : Int) (bl : Int) (ba : Int) w1
  have S6 := Lib.hid (six_new w a l.length c (al : Int) (aa : Int) (bl : Int) (ba : Int) (.func (.func gf) #[] caps))
  have V := Lib.hid h
  unfold psV at cA cB ⊢
  dsimp only at cA cB ⊢
  refine (callsIn_wide (n := 9)).1 ?_
  refine callsIn_of_wp_marks Tryz.func71 rfl trivial ?_ rfl
  simp only [Tryz.ntmps71, List.size_toArray, List.length_cons, List.length_nil, Nat.reduceAdd, Nat.reduceSub, Array.replicate_succ, Array.replicate_zero, List.push_toArray, List.append_toArray, List.nil_append, List.cons_append]
  gi_wp2_with (first
    | (refine ⟨trivial, ?_⟩; gi_at_call 75; refine (callsIn_wide.2 (cA _ S6.out.b)).mono ?_; rintro e w1 ⟨rfl, hk⟩; have KW := Lib.hid hk; have T6 := Lib.hid (S6.out.below hk); obtain ⟨_, t2, t3, ⟨_, y0, y1, _, _⟩, ⟨_, z0, z1, _, _⟩, _, _, _, _, _⟩ := T6.out.below (below_alloc1 w1 (.cells #[.slice none 0 0] 22)); clear t2 hk)
    | (refine ⟨trivial, ?_⟩; gi_at_call 98; refine (callsIn_wide.2 (cB _)).mono ?_; rintro e w2 ⟨rfl, hz2, hb2, c1, P1, P2⟩))
  have hs9 : (w1.alloc (.cells #[.slice none 0 0] 22)).heap.size = w1.heap.size + 1 := by simp
  rw [hs9] at hz2 hb2 c1 P1 P2
  obtain ⟨W6, hW6⟩ : ∃ W6, boxes6 w a l.length c (al : Int) (aa : Int) (bl : Int) (ba : Int) (.func (.func gf) #[] caps) = W6 := ⟨_, rfl⟩
  rw [hW6] at S6 KW
  have hk6 : Below W6.heap.size W6 w2 := (KW.out.alloc KW.out.size _).trans (hb2.mono (by have := KW.out.size; omega))
  have hU6 := KW.out.size
  have hw6 := S6.out.s
  obtain ⟨t1, tf⟩ := blk_new w1 #[.slice none 0 0] 22 _ 0 _ rfl rfl
  replace t1 := (hb2.cell (p := ⟨w1.heap.size, 0, none⟩) (show w1.heap.size < w1.heap.size + 1 by omega)).trans t1
  replace tf := (hb2.frozen (p := ⟨w1.heap.size, 0, none⟩) (show w1.heap.size < w1.heap.size + 1 by omega)).trans tf
  have hgo := between_goes (w1.heap.size + 1) a c l al aa bl ba hf hsp (fun W => Below W6.heap.size W6 W) (fun W h => V.out.s.below (S6.out.b.trans (h.mono S6.out.b.size))) w2 hz2 c1 P1 P2
  clear c1 P1 P2 hb2 hs9 cA cB y0 y1 z0 z1 t3 T6 hW6
  refine range_goes (gf := 125) rfl (enters_of Tryz.func125 (by kernel_rfl) rfl)
    hgo (by omega) (Below.refl _ _) (fun _ => rfl) (Gath W6 w1.heap.size (pl l) u) (fun _ _ _ => False) (fun _ _ _ _ _ h _ _ => h) (gath_bides W6 _ _ _ hU6) ?lt (fun s row W h => by obtain ⟨_, _, _, _, _, _, _, hb, _⟩ := h; exact hb)
    ⟨.slice none 0 0, [], t1, tf, ownD_nil _ _, funext (fun k => by simp [RowsOf, Value.ownBlock]), rfl, hk6, rfl, Nat.zero_le _⟩
    (fun r W => { tmps := #[.slice a l.length c, .agg #[.int .i64 (al : Int), .int .i64 (aa : Int)], .agg #[.int .i64 (bl : Int), .int .i64 (ba : Int)], .func (.func gf) #[] caps, .pointer (some ⟨w.heap.size, 0, none⟩), .pointer (some ⟨w.heap.size + 1, 0, none⟩), .pointer (some ⟨w.heap.size + 1 + 1, 0, none⟩), .pointer (some ⟨w.heap.size + 1 + 1 + 1, 0, none⟩), .pointer (some ⟨w.heap.size + 1 + 1 + 1 + 1, 0, none⟩), .pointer (some ⟨w.heap.size + 1 + 1 + 1 + 1 + 1, 0, none⟩), .pointer (some ⟨w1.heap.size, 0, none⟩), .pointer (some ⟨W.heap.size, 0, none⟩), undef, undef, undef, .slice a l.length c, .agg #[.int .i64 (al : Int), .int .i64 (aa : Int)], .agg #[.int .i64 (bl : Int), .int .i64 (ba : Int)], .bool true, .bool false, .slice a l.length c, .agg #[.int .i64 (al : Int), .int .i64 (aa : Int)], .agg #[.int .i64 (bl : Int), .int .i64 (ba : Int)], .func (.func 125) #[] #[.pointer (some ⟨w1.heap.size + 1 + 1, 0, none⟩), .pointer (some ⟨w1.heap.size + 1 + 2, 0, none⟩), .pointer (some ⟨w1.heap.size + 1, 0, none⟩)], .agg #[.int .i64 (r.1 : Int), .int .i64 (r.2.1 : Int), .int .i64 (r.2.2 : Int)], undef, undef, undef, undef, undef, undef, undef, undef, undef, undef, undef, undef, undef, undef, undef, undef, undef, undef, undef, undef, undef, undef, undef, undef, undef, undef, undef, undef, undef, undef, undef], defers := [] })
    (fun r W => W.alloc (.cells #[.int .i64 (r.1 : Int), .int .i64 (r.2.1 : Int), .int .i64 (r.2.2 : Int)] 98)) (fun r W => below_alloc1 W _) ?assign ?body ?done ?stop
  case lt =>
    rintro s row W ⟨_, _, _, _, own, rfl, _⟩ r e
    exact (own.rows e).2
  case assign =>
    intro y x W K hK
    dsimp only [stV]
    gi_wp2
    exact hK
  case stop =>
    rintro D c' pre X hD hsp' h hK'
    exact h.elim
  case done =>
    rintro D xs R X hD rfl ⟨vv, m, c1, f1, own, rfl, hm, hb, hml, hlen⟩ hrD hK'
    have SX := S6.out.below hb
    obtain ⟨t0, ts, _, _, _, _, r1, r2, e1, e2⟩ := SX
    obtain ⟨u1, cp, rfl⟩ := own_len own.own
    obtain ⟨g1, g2, g3, g4⟩ := two_laid (w := w) (D := D) (v1 := .slice u1 m.length cp) (v2 := .int .i64 0) ⟨_, r1⟩ ⟨_, e1⟩ (by omega) t0 (by omega) hK'
    have HG := Lib.hid (And.intro g1 (And.intro g2 (And.intro g3 g4)))
    have HO := Lib.hid (((own.set (p := ⟨w.heap.size + 1 + 1 + 1 + 1, 0, none⟩) (by show w.heap.size + 1 + 1 + 1 + 1 < w1.heap.size + 4; omega) (.slice u1 m.length cp)).set (p := ⟨w.heap.size + 1 + 1 + 1 + 1 + 1, 0, none⟩) (by show w.heap.size + 1 + 1 + 1 + 1 + 1 < w1.heap.size + 4; omega) (.int .i64 0)).grown (grownBy_putObj' _ D (.deferred none)) (fun r e => by cases e; exact hrD))
    have HM := Lib.hid hm
    clear g1 g2 g3 g4 own hb hK' hml hm t0 ts hrD
    gi_wp2
    refine ⟨by simp, .inl ⟨_, _, rfl, run_takeDeferred HG.out.1, ?_⟩⟩
    exact ⟨_, results_two rfl rfl rfl (run_isAgg_plain Tryz.underlying22 rfl) (run_isAgg_plain Tryz.underlying33 rfl) HG.out.2.1 HG.out.2.2.1, _, m, rfl, HO.out.mono (by omega), HM.out, HG.out.2.2.2⟩
  case body =>
    rintro y pre ⟨i, f, t⟩ R W X hsz hXs hXk ⟨vv, m, c1, f1, own, rfl, hm, hb, hml, hlen⟩ hT
    have hmem : ((i, f, t) : St) ∈ strs (pl l) al aa bl ba := hT.subset (by simp)
    obtain ⟨m1, m2, m3⟩ := strs_mem hmem
    have hfit := hsp.fit m1 m2
    have hil : i < l.length := by have := hsp.hb; rw [pl_length] at this; exact Nat.lt_of_le_of_lt m2 this
    have hprl := hT.length_le
    rw [strs_length, List.length_append, List.length_singleton] at hprl
    have hln := hf.len
    have hbl2 : bl < l.length := by have := hsp.hb; rwa [pl_length] at this
    dsimp only at hXk hXs m3
    have hr2 : f = frN al aa i := congrArg (·.2.1) m3
    have hr3 : t = toN (pl l) bl ba i := congrArg (·.2.2) m3
    dsimp only at hfit
    rw [← hr2, ← hr3, cnt_pl hil] at hfit
    have hXW := (hXk W.heap.size (Nat.le_refl _)).trans (World.alloc_heap_new W _)
    rw [World.size_alloc] at hXs
    have z0 : X.cell? ⟨W.heap.size, 0, none⟩ = some (.int .i64 (i : Int)) := cell_blk hXW 0 _ rfl
    have z1 : X.cell? ⟨W.heap.size, 1, none⟩ = some (.int .i64 (f : Int)) := cell_blk hXW 1 _ rfl
    have z2 : X.cell? ⟨W.heap.size, 2, none⟩ = some (.int .i64 (t : Int)) := cell_blk hXW 2 _ rfl
    have SX := S6.out.below hb
    have hwX := SX.b
    have hVX := V.out.below hwX
    obtain ⟨b, o, c2, e, hlc, hcm, hbl, hcs⟩ := hVX.s.lies (by omega)
    obtain ⟨rfl, _, rfl⟩ := Value.slice.inj e
    unfold maxLen at hcm
    obtain ⟨q, za, n1, zc, kk, ra, n2, rc, x0, x1, x2, x3, k0, k1, k2, k3, k4, k5⟩ := hcs.get hil
    have hxm := mem_get hil
    have hxz := hf.at hxm
    have hxw := hVX.n _ hxm
    have hpg := pl_get l i hil
    obtain ⟨x, hx⟩ : ∃ x, l[i]! = x := ⟨_, rfl⟩
    rw [hx] at k0 k1 k2 k3 k4 k5 hxm hxz hxw hfit hpg
    have hag : aggL x = .agg #[.int .i64 q, .slice za n1 zc, .int .i64 kk, .slice ra n2 rc] := by unfold aggL; rw [k0, k1, k2, k3]
    have hK : ∀ V', Below X.heap.size X V' → V'.cell? ⟨w.heap.size, 0, none⟩ = some (.slice (some ⟨b, o, none⟩) l.length c) ∧ V'.cell? ⟨W.heap.size, 0, none⟩ = some (.int .i64 (i : Int)) ∧ V'.cell? ⟨b, o + i * 4, none⟩ = some (.int .i64 q) ∧ V'.cell? ⟨b, o + i * 4 + 1, none⟩ = some (.slice za n1 zc) ∧ V'.cell? ⟨b, o + i * 4 + 2, none⟩ = some (.int .i64 kk) ∧ V'.cell? ⟨b, o + i * 4 + 3, none⟩ = some (.slice ra n2 rc) ∧ V'.cell? ⟨w1.heap.size, 0, none⟩ = some vv ∧ V'.frozen? ⟨w1.heap.size, 0, none⟩ = false := fun V' hV' =>
      ⟨(hV'.cell (lt_of_cell' SX.d)).trans SX.d, (hV'.cell (lt_of_cell' z0)).trans z0, (hV'.cell (lt_of_cell' x0)).trans x0, (hV'.cell (lt_of_cell' x1)).trans x1, (hV'.cell (lt_of_cell' x2)).trans x2, (hV'.cell (lt_of_cell' x3)).trans x3, (hV'.cell (lt_of_cell' c1)).trans c1, (hV'.frozen (lt_of_cell' c1)).trans f1⟩
    have HK := Lib.hid hK
    have cD := hdo X.drew (.slice ra n2 rc) x.ln.cs f t hwX.drew (by have := hxw.r; rw [k3] at this; exact this.below (Below.refl _ _).drew) ⟨x.ln, by unfold pl; exact List.mem_map.2 ⟨x, hxm, rfl⟩, rfl⟩ hfit.1 hfit.2
    have cF : ∀ V', Below X.heap.size X V' → _ := fun V' h1 => lframeA x V' (hxw.below h1) hxz.1
    rw [hag] at cF
    have hd0 := SX.d
    have hg3 := SX.f
    have hiI : (i : Int) < (l.length : Int) := by omega
    obtain ⟨R0, hR0⟩ : ∃ R0, u x.ln.cs f t = R0 := ⟨_, rfl⟩
    rw [hR0] at cD
    obtain ⟨u1, cp, rfl⟩ := own_len own.own
    have OW := Lib.hid own
    have HM := Lib.hid hm
    have HB := Lib.hid hb
    have hmb : m.length ≤ 1000 := by omega
    have HML := Lib.hid hml
    clear hml
    have hXU : w1.heap.size + 4 ≤ X.heap.size := by omega
    have hAt : Hid (atS (pl l) u (i, f, t) = lnWith x.ln R0) := Lib.hid (by unfold atS; dsimp only; rw [hpg, hR0])
    clear hXk hXW m1 m2 m3 hr2 hr3 hT hmem e hcs hVX hxm hxw hpg hK own hm hb hR0 hx k0 k1 k2 k3 k4 k5 hag c1 f1 SX
    gi_wp2
    refine wpIn_region_mid 11 (by kernel_rfl) (by kernel_rfl) (by kernel_rfl) (by rintro ⟨_, _, hq⟩; exact hq) ?_
    simp only [List.take_succ_cons, List.take_zero, List.drop_succ_cons, List.drop_zero]
    repeat still_step
    refine wpStill_nil ?_
    change wpList _ _ _ _ _ X.drew
    go_wp2
    refine cD.mono ?_
    rintro e X1 ⟨vr, rfl, orow, hb1⟩
    have hb1' : Below X.heap.size X X1 := (Below.refl _ X).drew.trans hb1
    obtain ⟨rA, rC, rfl⟩ := own_len orow
    obtain ⟨a0, a1, a2, a3, a4, a5, a6, a7⟩ := HK.out X1 hb1'
    have OR := Lib.hid orow
    have HB1 := Lib.hid hb1'
    have hfar : ∀ k, k < w1.heap.size + 4 → some k ≠ (Value.slice u1 m.length cp).ownBlock := fun k hk e => by have := ownBlk OW.out.own e.symm; omega
    have HF := Lib.hid hfar
    clear orow hb1 hb1' z0 z1 z2 x0 x1 x2 x3 hd0 hg3 cD hfar
    go_wp2
    change wpStill _ _ _ _ _ _
    repeat still_step
    refine wpStill_nil ?_
    gi_wp2_with (first
      | (refine ⟨trivial, ?_⟩; gi_at_call 76; ((with_reducible refine (CallsIn.inRound y (callsIn_wide.2 (cF _ HB1.out))).mono ?_); rintro e X2 ⟨yl, rfl, hyl, hy, hb2⟩; have HB2 := Lib.hid hb2; have HY := Lib.hid (And.intro hyl hy); have hX2 : Below X.heap.size X X2 := HB1.out.trans (hb2.mono HB1.out.size); unfold aggL Lw.sl Lw.sc; obtain ⟨_, _, _, _, _, _, b6, b7⟩ := HK.out _ (hX2.alloc hX2.size (.cells #[.int .i64 yl.ln.q, .slice yl.za yl.ln.ls.length yl.zc, .int .i64 yl.ln.k, .slice rA R0.length rC] 46)); have HX2 := Lib.hid hX2; clear hyl hy hb2 hX2 a0 a1 a2 a3 a4 a5 a6 a7))
      | (gi_at_builtin; have hA := (HX2.out.alloc HX2.out.size (.cells #[.int .i64 yl.ln.q, .slice yl.za yl.ln.ls.length yl.zc, .int .i64 yl.ln.k, .slice rA R0.length rC] 46)).alloc (show X.heap.size ≤ (X2.alloc (.cells #[.int .i64 yl.ln.q, .slice yl.za yl.ln.ls.length yl.zc, .int .i64 yl.ln.k, .slice rA R0.length rC] 46)).heap.size by rw [World.size_alloc]; have := HX2.out.size; omega) (.cells #[.int .i64 yl.ln.q, .slice yl.za yl.ln.ls.length yl.zc, .int .i64 yl.ln.k, .slice rA R0.length rC] 46); have hy1 := one_line (X2.alloc (.cells #[.int .i64 yl.ln.q, .slice yl.za yl.ln.ls.length yl.zc, .int .i64 yl.ln.k, .slice rA R0.length rC] 46)) ⟨yl.za, yl.zc, rA, rC, lnWith yl.ln R0⟩; dsimp only [Lw.sl, Lw.sc, lnWith] at hy1; rw [World.size_alloc] at hy1; refine wpListIn_append_line rfl _ _ rfl (w1.heap.size + 4) (.slice u1 m.length cp) m rfl (ownsRow_below OW.out.own hA) _ ⟨yl.za, yl.zc, rA, rC, lnWith yl.ln R0⟩ rfl hy1 (by omega) (by have := hA.size; omega) (X2.heap.size + 2) (by rw [World.size_alloc, World.size_alloc]) ?_; intro g cap' X5 hown hgrow hat; have hlt5 : w1.heap.size < ((X2.alloc (.cells #[.int .i64 yl.ln.q, .slice yl.za yl.ln.ls.length yl.zc, .int .i64 yl.ln.k, .slice rA R0.length rC] 46)).alloc (.cells #[.int .i64 yl.ln.q, .slice yl.za yl.ln.ls.length yl.zc, .int .i64 yl.ln.k, .slice rA R0.length rC] 46)).heap.size := Nat.lt_of_lt_of_le (show w1.heap.size < X.heap.size by omega) hA.size; have k1 := (hgrow.cell_far ⟨w1.heap.size, 0, none⟩ hlt5 (HF.out _ (by show w1.heap.size < w1.heap.size + 4; omega))).trans (HK.out _ hA).2.2.2.2.2.2.1; have k2 := (hgrow.frozen_far ⟨w1.heap.size, 0, none⟩ hlt5 (HF.out _ (by show w1.heap.size < w1.heap.size + 4; omega))).trans (HK.out _ hA).2.2.2.2.2.2.2; have HA := Lib.hid hA; have HO := Lib.hid (And.intro hown (And.intro hgrow hat)); clear hA hown hgrow hat hy1 b6 b7))
    obtain ⟨hown, hgrow, hat⟩ := HO.out
    obtain ⟨hyl, hy⟩ := HY.out
    have hy5 : MineLw X.heap.size _ ⟨yl.za, yl.zc, rA, rC, lnWith yl.ln R0⟩ := mineLw_with (B := X.heap.size) (hy.mono HB1.out.size) (by exact OR.out) HB2.out
    have hA := HA.out
    have hXX2 : Below X2.heap.size X2 ((X2.alloc (.cells #[.int .i64 yl.ln.q, .slice yl.za yl.ln.ls.length yl.zc, .int .i64 yl.ln.k, .slice rA R0.length rC] 46)).alloc (.cells #[.int .i64 yl.ln.q, .slice yl.za yl.ln.ls.length yl.zc, .int .i64 yl.ln.k, .slice rA R0.length rC] 46)) := (below_alloc1 X2 _).alloc (by rw [World.size_alloc]; omega) _
    have hD := ownD_put OW.out hA (by omega) (hy5.below hXX2) hown hgrow (by
      rcases hat with h | h
      · exact .inl h.symm
      · refine .inr (fun g' e => ?_)
        cases e
        rw [h, World.size_alloc, World.size_alloc]
        exact Nat.le_refl _)
    refine ⟨_, ⟨_, m ++ [⟨yl.za, yl.zc, rA, rC, lnWith yl.ln R0⟩], ?_, ?_, hD.set (p := ⟨w1.heap.size, 0, none⟩) (by show w1.heap.size < w1.heap.size + 4; omega) _, rfl, ?_, ?_, ?_, ?_⟩, ?_, ?_⟩
    · exact World.cell?_setCell_same' _ _ _ (by rw [k1]; rfl)
    · rw [World.frozen?_setCell]; exact k2
    · rw [pl_append, HM.out, eachD_snoc, hAt.out]
      unfold pl
      rw [List.map_cons, List.map_nil, hyl]
      rfl
    · exact ((HB.out.trans (hA.mono HB.out.size)).grown hgrow (by have := hA.size; have := HB.out.size; omega) (fun r e => by have := ownBlk OW.out.own e; omega)).setCell (p := ⟨w1.heap.size, 0, none⟩) (by show W6.heap.size ≤ w1.heap.size; omega) _
    · rw [List.length_append, List.length_append, HML.out]; rfl
    · rw [List.length_append, List.length_singleton]; omega
    · exact ((KeptR.below hA).trans (KeptR.grown hgrow (fun r e _ => .inl e))).trans (KeptR.grown (grownBy_setCell' X5 w1.heap.size _) (fun r e h => by cases e; omega))
    · intro r hr
      rcases hr with hr | ⟨x', hx', hr⟩
      · rcases hat with h | h
        · exact .inl (.inl (h.trans hr))
        · cases hr
          refine .inr ?_
          show X.heap.size ≤ g
          rw [h]; have := HX2.out.size; omega
      · rcases List.mem_append.1 hx' with hx' | hx'
        · exact .inl (.inr ⟨x', hx', hr⟩)
        · obtain rfl := List.mem_singleton.1 hx'
          exact .inr (inRows_lo hy5 hr).1

end Go.Proofs.YtafincmcmgedbaaGreatDoor

namespace Go.Proofs.YtafincmcmgedbaaGreatDoor
open Go.RowKit Go.Lib Go.Shelf
attribute [local go_sem] Oper.semAt_some

/-- Nothing has been done. -/
def First (W6 : World) (s : List St) (R : Nat → Prop) (V : World) : Prop := s = [] ∧ R = (fun _ => False) ∧ Below W6.heap.size W6 V
theorem first_bides (W6 : World) (B : Nat) (hB : W6.heap.size ≤ B) : Bides B (First W6) := by
  rintro s R W W' rr ⟨h0, h1, hb⟩ hg hr
  exact ⟨h0, h1, hb.grown hg hb.size (fun k e => by have := (hr k e).1; omega)⟩

set_option maxRecDepth 40000 in
set_option maxHeartbeats 32000000 in
theorem deach_err (v : Value) (l : List Lw) (al aa bl ba gf : Nat) (caps : Array Value) (w : World) (h : DocAt w v l) (hf : Fine (pl l)) (hE : Tg.Env w) (hsp : Span (pl l) al aa bl ba) (hmay : mayD (pl l) = true)
    (hdo : DoErr gf caps w (pl l)) (hgf : ∀ args W, (callFunc gf args).run Tryz.prog W = .ok (.enter gf args) W) :
    Calls Tryz.prog 71 #[v, psV ((al : Int), (aa : Int)), psV ((bl : Int), (ba : Int)), .func (.func gf) #[] caps] w fun e w' => e = .returned errV ∧ Below w.heap.size w w' := by
  obtain ⟨a, c, rfl⟩ := h.s.len
  have cA : ∀ w1, Below w.heap.size w w1 → _ := fun w1 h1 => dasked_any _ l (al : Int) (aa : Int) (bl : Int) (ba : Int) w1 (h.below h1) hf (hE.below h1)
  rw [askedD_mk hsp hmay] at cA
  have cB := fun (w1 : World) => between_any a l.length c (al : Int) (aa : Int) (bl : Int) (ba : Int) w1
  have S6 := Lib.hid (six_new w a l.length c (al : Int) (aa : Int) (bl : Int) (ba : Int) (.func (.func gf) #[] caps))
  have V := Lib.hid h
  unfold psV at cA cB ⊢
  dsimp only at cA cB ⊢
  refine (callsIn_wide (n := 9)).1 ?_
  refine callsIn_of_wp_marks Tryz.func71 rfl trivial ?_ rfl
  simp only [Tryz.ntmps71, List.size_toArray, List.length_cons, List.length_nil, Nat.reduceAdd, Nat.reduceSub, Array.replicate_succ, Array.replicate_zero, List.push_toArray, List.append_toArray, List.nil_append, List.cons_append]
  gi_wp2_with (first
    | (refine ⟨trivial, ?_⟩; gi_at_call 75; refine (callsIn_wide.2 (cA _ S6.out.b)).mono ?_; rintro e w1 ⟨rfl, hk⟩; have KW := Lib.hid hk; have T6 := Lib.hid (S6.out.below hk); obtain ⟨_, t2, t3, ⟨_, y0, y1, _, _⟩, ⟨_, z0, z1, _, _⟩, _, _, _, _, _⟩ := T6.out.below (below_alloc1 w1 (.cells #[.slice none 0 0] 22)); clear t2 hk)
    | (refine ⟨trivial, ?_⟩; gi_at_call 98; refine (callsIn_wide.2 (cB _)).mono ?_; rintro e w2 ⟨rfl, hz2, hb2, c1, P1, P2⟩))
  have hs9 : (w1.alloc (.cells #[.slice none 0 0] 22)).heap.size = w1.heap.size + 1 := by simp
  rw [hs9] at hz2 hb2 c1 P1 P2
  obtain ⟨W6, hW6⟩ : ∃ W6, boxes6 w a l.length c (al : Int) (aa : Int) (bl : Int) (ba : Int) (.func (.func gf) #[] caps) = W6 := ⟨_, rfl⟩
  rw [hW6] at S6 KW
  have hk6 : Below W6.heap.size W6 w2 := (KW.out.alloc KW.out.size _).trans (hb2.mono (by have := KW.out.size; omega))
  have hU6 := KW.out.size
  have hw6 := S6.out.s
  obtain ⟨t1, tf⟩ := blk_new w1 #[.slice none 0 0] 22 _ 0 _ rfl rfl
  replace t1 := (hb2.cell (p := ⟨w1.heap.size, 0, none⟩) (show w1.heap.size < w1.heap.size + 1 by omega)).trans t1
  replace tf := (hb2.frozen (p := ⟨w1.heap.size, 0, none⟩) (show w1.heap.size < w1.heap.size + 1 by omega)).trans tf
  have hgo := between_goes (w1.heap.size + 1) a c l al aa bl ba hf hsp (fun W => Below W6.heap.size W6 W) (fun W h => V.out.s.below (S6.out.b.trans (h.mono S6.out.b.size))) w2 hz2 c1 P1 P2
  clear c1 P1 P2 hb2 hs9 cA cB y0 y1 z0 z1 t3 T6 hW6
  refine range_goes (gf := 125) rfl (enters_of Tryz.func125 (by kernel_rfl) rfl)
    hgo (by omega) (Below.refl _ _) (fun _ => rfl) (First W6) (Left w) (left_leaves w _ (by omega)) (first_bides W6 _ (by omega)) ?lt (fun s row W h => h.2.2)
    ⟨rfl, rfl, hk6⟩
    (fun r W => { tmps := #[.slice a l.length c, .agg #[.int .i64 (al : Int), .int .i64 (aa : Int)], .agg #[.int .i64 (bl : Int), .int .i64 (ba : Int)], .func (.func gf) #[] caps, .pointer (some ⟨w.heap.size, 0, none⟩), .pointer (some ⟨w.heap.size + 1, 0, none⟩), .pointer (some ⟨w.heap.size + 1 + 1, 0, none⟩), .pointer (some ⟨w.heap.size + 1 + 1 + 1, 0, none⟩), .pointer (some ⟨w.heap.size + 1 + 1 + 1 + 1, 0, none⟩), .pointer (some ⟨w.heap.size + 1 + 1 + 1 + 1 + 1, 0, none⟩), .pointer (some ⟨w1.heap.size, 0, none⟩), .pointer (some ⟨W.heap.size, 0, none⟩), undef, undef, undef, .slice a l.length c, .agg #[.int .i64 (al : Int), .int .i64 (aa : Int)], .agg #[.int .i64 (bl : Int), .int .i64 (ba : Int)], .bool true, .bool false, .slice a l.length c, .agg #[.int .i64 (al : Int), .int .i64 (aa : Int)], .agg #[.int .i64 (bl : Int), .int .i64 (ba : Int)], .func (.func 125) #[] #[.pointer (some ⟨w1.heap.size + 1 + 1, 0, none⟩), .pointer (some ⟨w1.heap.size + 1 + 2, 0, none⟩), .pointer (some ⟨w1.heap.size + 1, 0, none⟩)], .agg #[.int .i64 (r.1 : Int), .int .i64 (r.2.1 : Int), .int .i64 (r.2.2 : Int)], undef, undef, undef, undef, undef, undef, undef, undef, undef, undef, undef, undef, undef, undef, undef, undef, undef, undef, undef, undef, undef, undef, undef, undef, undef, undef, undef, undef, undef, undef, undef], defers := [] })
    (fun r W => W.alloc (.cells #[.int .i64 (r.1 : Int), .int .i64 (r.2.1 : Int), .int .i64 (r.2.2 : Int)] 98)) (fun r W => below_alloc1 W _) ?assign ?body ?done ?stop
  case lt =>
    rintro s row W ⟨_, rfl, _⟩ r e
    exact False.elim e
  case assign =>
    intro y x W K hK
    dsimp only [stV]
    gi_wp2
    exact hK
  case stop =>
    rintro D c' pre X hD hsp' ⟨rfl, d1, d2, hb⟩ hK'
    have D1 := Lib.hid (cell_put (D := D) (o := .deferred none) d1 (by show w.heap.size + 1 + 1 + 1 + 1 ≠ D; omega))
    have D2 := Lib.hid (cell_put (D := D) (o := .deferred none) d2 (by show w.heap.size + 1 + 1 + 1 + 1 + 1 ≠ D; omega))
    have HB := Lib.hid (hb.grown (grownBy_putObj' _ D (.deferred none)) hb.size (fun r e => by cases e; omega))
    have HK := Lib.hid hK'
    clear hb hK' d1 d2
    gi_wp2
    refine ⟨by simp, .inl ⟨_, _, rfl, run_takeDeferred HK.out, ?_⟩⟩
    exact ⟨_, results_two rfl rfl rfl (run_isAgg_plain Tryz.underlying22 rfl) (run_isAgg_plain Tryz.underlying33 rfl) D1.out D2.out, rfl, HB.out⟩
  case done =>
    rintro D xs R X hD hxs ⟨h0, _⟩ hrD hK'
    have h1 := strs_length (pl l) al aa bl ba
    have h2 := hsp.hab
    rw [← hxs, h0] at h1
    simp at h1
    omega
  case body =>
    rintro y pre ⟨i, f, t⟩ R W X hsz hXs hXk ⟨rfl, rfl, hb⟩ hT
    have hmem : ((i, f, t) : St) ∈ strs (pl l) al aa bl ba := hT.subset (by simp)
    obtain ⟨m1, m2, m3⟩ := strs_mem hmem
    have hfit := hsp.fit m1 m2
    have hil : i < l.length := by have := hsp.hb; rw [pl_length] at this; exact Nat.lt_of_le_of_lt m2 this
    have hprl := hT.length_le
    rw [strs_length, List.length_append, List.length_singleton] at hprl
    have hln := hf.len
    have hbl2 : bl < l.length := by have := hsp.hb; rwa [pl_length] at this
    dsimp only at hXk hXs m3
    have hr2 : f = frN al aa i := congrArg (·.2.1) m3
    have hr3 : t = toN (pl l) bl ba i := congrArg (·.2.2) m3
    dsimp only at hfit
    rw [← hr2, ← hr3, cnt_pl hil] at hfit
    have hXW := (hXk W.heap.size (Nat.le_refl _)).trans (World.alloc_heap_new W _)
    rw [World.size_alloc] at hXs
    have z0 : X.cell? ⟨W.heap.size, 0, none⟩ = some (.int .i64 (i : Int)) := cell_blk hXW 0 _ rfl
    have z1 : X.cell? ⟨W.heap.size, 1, none⟩ = some (.int .i64 (f : Int)) := cell_blk hXW 1 _ rfl
    have z2 : X.cell? ⟨W.heap.size, 2, none⟩ = some (.int .i64 (t : Int)) := cell_blk hXW 2 _ rfl
    have SX := S6.out.below hb
    have hwX := SX.b
    have hVX := V.out.below hwX
    obtain ⟨b, o, c2, e, hlc, hcm, hbl, hcs⟩ := hVX.s.lies (by omega)
    obtain ⟨rfl, _, rfl⟩ := Value.slice.inj e
    unfold maxLen at hcm
    obtain ⟨q, za, n1, zc, kk, ra, n2, rc, x0, x1, x2, x3, k0, k1, k2, k3, k4, k5⟩ := hcs.get hil
    have hxm := mem_get hil
    have hxz := hf.at hxm
    have hxw := hVX.n _ hxm
    have hpg := pl_get l i hil
    obtain ⟨x, hx⟩ : ∃ x, l[i]! = x := ⟨_, rfl⟩
    rw [hx] at k0 k1 k2 k3 k4 k5 hxm hxz hxw hfit hpg
    have cD := hdo X.drew (.slice ra n2 rc) x.ln.cs f t hwX.drew (by have := hxw.r; rw [k3] at this; exact this.below (Below.refl _ _).drew) ⟨x.ln, by unfold pl; exact List.mem_map.2 ⟨x, hxm, rfl⟩, rfl⟩ hfit.1 hfit.2
    have hd0 := SX.d
    have hg3 := SX.f
    have hiI : (i : Int) < (l.length : Int) := by omega
    have HSX := Lib.hid SX
    have hXU : w1.heap.size + 4 ≤ X.heap.size := by omega
    clear hXk hXW m1 m2 m3 hr2 hr3 hT hmem e hcs hVX hxm hxw hpg hb hx k0 k1 k2 k3 k4 k5 SX
    gi_wp2
    refine wpIn_region_mid 11 (by kernel_rfl) (by kernel_rfl) (by kernel_rfl) (by rintro ⟨_, _, hq⟩; exact hq) ?_
    simp only [List.take_succ_cons, List.take_zero, List.drop_succ_cons, List.drop_zero]
    repeat still_step
    refine wpStill_nil ?_
    change wpList _ _ _ _ _ X.drew
    go_wp2
    refine cD.mono ?_
    rintro e X1 ⟨rfl, hb1⟩
    have hb1' : Below X.heap.size X X1 := (Below.refl _ X).drew.trans hb1
    obtain ⟨t0, ts, _, _, _, _, r1, r2, e1, e2⟩ := HSX.out.below hb1'
    have HB1 := Lib.hid hb1'
    have HT := Lib.hid t0
    unfold errV
    clear hb1 hb1' z0 z1 z2 x0 x1 x2 x3 hd0 hg3 cD t0 HSX
    go_wp2
    change wpStill _ _ _ _ _ _
    repeat still_step
    refine wpStill_nil ?_
    gi_wp2
    have n1 : (⟨w.heap.size + 1 + 1 + 1 + 1, 0, none⟩ : Addr) ≠ ⟨w.heap.size + 1 + 1 + 1 + 1 + 1, 0, none⟩ := fun e => by have := congrArg Addr.block e; dsimp only at this; omega
    refine ⟨⟨fun _ => False, ?_, fun _ h => h.elim⟩, rfl, ?_, ?_, ?_⟩
    · exact ((KeptR.below HB1.out).trans (KeptR.grown (grownBy_setCell' X1 (w.heap.size + 1 + 1 + 1 + 1) _) (fun r e h => by cases e; omega))).trans (KeptR.grown (grownBy_setCell' _ (w.heap.size + 1 + 1 + 1 + 1 + 1) _) (fun r e h => by cases e; omega))
    · rw [World.cell?_setCell_other _ _ _ _ n1.symm]
      exact World.cell?_setCell_same _ _ _ r1
    · exact World.cell?_setCell_same _ _ _ ((World.cell?_setCell_other _ _ _ _ n1).trans e1)
    · exact (HT.out.setCell (p := ⟨w.heap.size + 1 + 1 + 1 + 1, 0, none⟩) (by show w.heap.size ≤ w.heap.size + 1 + 1 + 1 + 1; omega) _).setCell (p := ⟨w.heap.size + 1 + 1 + 1 + 1 + 1, 0, none⟩) (by show w.heap.size ≤ w.heap.size + 1 + 1 + 1 + 1 + 1; omega) _

end Go.Proofs.YtafincmcmgedbaaGreatDoor
