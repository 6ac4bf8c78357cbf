/-
  The document's Indent, Outdent, Format, Free, List.
-/
import Derived.Test.YtmlipcedkgfmiaaDoorTop
import Derived.Test.YtmlipcedkgfmiaaDoorDocMay
import Derived.Test.YtmlipcedkgfmiaaDoorDocLn
namespace Go.Proofs.YtmlipcedkgfmiaaDoor
open Go.RowKit Go.Lib

/-- What the document answers: a code, and a line that reads. -/
def DocPost (r : Int × Ln) (w : World) (e : Ending) (w' : World) : Prop :=
  ∃ sl sc, e = .returned (.tuple #[.agg #[.int .i64 r.2.q, sl, .int .i64 r.2.k, sc], .int .i64 r.1]) ∧ OwnLn w.heap.size w' sl sc r.2.ls r.2.cs ∧ Below w.heap.size w w'
theorem own_nil (B : Nat) (w : World) : OwnLn B w (.slice none 0 0) (.slice none 0 0) [] [] := ⟨World.ownsRow_nil _ _ _ _, World.ownsRow_nil _ _ _ _⟩
/-- A line is stored into the answer's block; a block is made beside. -/
theorem doc_one {B r : Nat} {w w2 : World} {sl sc : Value} {ls : IRow} {cs : Row} (h : OwnLn B w2 sl sc ls cs) (hr : r < B) (hb : Below w.heap.size w w2) (hr0 : w.heap.size ≤ r) (q k : Int) (s c : Value) (o : Obj) :
    OwnLn w.heap.size ((put4 w2 r q s k c).alloc o) sl sc ls cs ∧ Below w.heap.size w ((put4 w2 r q s k c).alloc o) := by
  have hp := put4_below (q := q) (k := k) (sl := s) (sc := c) hb hr0
  exact ⟨((put4_own (q := q) (k := k) (sl := s) (sc := c) h hr).below ((Below.refl _ _).alloc (Nat.le_refl _) _)).mono (by omega), hp.alloc (by rw [put4_size]; exact hb.size) _⟩
/-- A row that was made is laid into the line, the line into the answer. -/
theorem doc_two {B D r p j : Nat} {w w3 : World} {sl sc : Value} {ls : IRow} {cs : Row} (hb : Below w.heap.size w w3) (hr0 : w.heap.size ≤ r) (hp0 : w.heap.size ≤ p) (hB0 : w.heap.size ≤ B) (hD0 : w.heap.size ≤ D)
    (hz : w3.ownsRow B 3 1 sl ls.length (cellsZ ls)) (hc : w3.ownsRow D 44 3 sc cs.length (cellsR cs)) (h1 : sl.ownBlock ≠ some r) (h2 : sl.ownBlock ≠ some p) (h3 : sc.ownBlock ≠ some r) (h4 : sc.ownBlock ≠ some p) (q k : Int) (s c u : Value) :
    OwnLn w.heap.size (put4 (w3.setCell ⟨p, j, none⟩ u) r q s k c) sl sc ls cs ∧ Below w.heap.size w (put4 (w3.setCell ⟨p, j, none⟩ u) r q s k c) :=
  ⟨⟨(own_set2 (own_set2 (own_set2 (own_set2 (own_set2 hz h2) h1) h1) h1) h1).mono hB0, (own_set2 (own_set2 (own_set2 (own_set2 (own_set2 hc h4) h3) h3) h3) h3).mono hD0⟩,
    put4_below (hb.setCell (p := ⟨p, j, none⟩) hp0 _) hr0⟩
theorem box_blk {w : World} {b : Nat} {q k : Int} {sl sc : Value} (h : w.heap[b]? = some (.cells #[.int .i64 q, sl, .int .i64 k, sc] 25)) : BoxAt w b q sl k sc :=
  ⟨(Array.getElem?_eq_some_iff.1 h).1, cell_blkZ h 0 _ rfl, cell_blkZ h 1 _ rfl, cell_blkZ h 2 _ rfl, cell_blkZ h 3 _ rfl, frozen_cells h _, frozen_cells h _, frozen_cells h _, frozen_cells h _⟩
theorem own_apart {w : World} {B D n m : Nat} {v u : Value} {xs ys : List Value} (h1 : w.ownsRow B 3 1 v n xs) (h2 : w.ownsRow D 44 3 u m ys) (g : Nat) (e1 : v.ownBlock = some g) : u.ownBlock ≠ some g := by
  intro e2
  rcases h1.2 with ⟨rfl, _⟩ | ⟨g1, _, cur1, rfl, _, hg1, _⟩
  · simp [Value.ownBlock] at e1
  · rcases h2.2 with ⟨rfl, _⟩ | ⟨g2, _, cur2, rfl, _, hg2, _⟩
    · simp [Value.ownBlock] at e2
    · have k1 : g1 = g := by simpa [Value.ownBlock] using e1
      have k2 : g2 = g := by simpa [Value.ownBlock] using e2
      subst k1
      subst k2
      rw [hg1] at hg2
      have := (Obj.cells.inj (Option.some.inj hg2)).2.1
      exact absurd this (by decide)
theorem own_grown {w w' : World} {row : Option Nat} {B e size n : Nat} {v : Value} {xs : List Value} (hg : w.grownBy w' row) (h : w.ownsRow B e size v n xs) (hne : ∀ g, row = some g → v.ownBlock ≠ some g) : w'.ownsRow B e size v n xs := by
  refine ⟨h.1, ?_⟩
  rcases h.2 with h2 | ⟨g, cap, cur, hv, hb, hc, hrest⟩
  · exact .inl h2
  · subst hv
    refine .inr ⟨g, cap, cur, rfl, hb, (hg.block g (Array.getElem?_eq_some_iff.1 hc).1 ?_).trans hc, hrest⟩
    intro e
    exact hne g e.symm rfl
theorem own_ne3 {w : World} {B e size n p : Nat} {v : Value} {xs : List Value} {bx : Array Value} {t : TypeId} {fz : Nat × Nat} (h : w.ownsRow B e size v n xs) (hp : w.heap[p]? = some (.cells bx t fz)) (hne : e ≠ t) : v.ownBlock ≠ some p := by
  rcases h.2 with ⟨rfl, _⟩ | ⟨g, cap, cur, rfl, hB, hg, _⟩
  · simp [Value.ownBlock]
  · intro e
    have : g = p := by simpa [Value.ownBlock] using e
    subst this
    rw [hg] at hp
    exact hne (Obj.cells.inj (Option.some.inj hp)).2.1
theorem ints_one {w : World} {g : Nat} {x : Int} (h : w.cell? ⟨g, 0, none⟩ = some (.int .i64 x)) : IntsAt w (.slice (some ⟨g, 0, none⟩) 1 1) [x] :=
  .inr ⟨g, 0, 1, rfl, Nat.le_refl _, by decide, lt_of_cell' h, fun j hj => by match j, hj with | 0, _ => exact h⟩
theorem own_ne {w : World} {B e size n r : Nat} {v : Value} {xs : List Value} (h : w.ownsRow B e size v n xs) (hr : r < B) : v.ownBlock ≠ some r := by
  rcases h.2 with ⟨rfl, _⟩ | ⟨g, cap, cur, rfl, hB, _⟩
  · simp [Value.ownBlock]
  · intro e
    have : g = r := by simpa [Value.ownBlock] using e
    omega
theorem own_ne2 {w : World} {B e size n r : Nat} {v : Value} {xs : List Value} (h : w.ownsRow B e size v n xs) (hr : w.heap.size ≤ r) : v.ownBlock ≠ some r := by
  rcases h.2 with ⟨rfl, _⟩ | ⟨g, cap, cur, rfl, hB, hg, _⟩
  · simp [Value.ownBlock]
  · intro e
    have : g = r := by simpa [Value.ownBlock] using e
    have := (Array.getElem?_eq_some_iff.1 hg).1
    omega

set_option maxRecDepth 20000 in
set_option maxHeartbeats 16000000 in
theorem Indent_doc (q k : Int) (sl sc : Value) (ls : IRow) (cs : Row) (w : World) (h : LnAt w sl sc ls cs) (hls : ls.length ≤ 50000) (hcs : cs.length ≤ 50000) (hf : Fair cs) :
    Calls Tryd.prog 25 #[.agg #[.int .i64 q, sl, .int .i64 k, sc]] w (DocPost (opS (indentS) ⟨q, ls, k, cs⟩) w) := by
  obtain ⟨a1, c1, e1, hnc, hcm⟩ := h.z.cap
  subst e1
  unfold maxLen at hcm
  obtain ⟨a2, c2, rfl⟩ := h.r.len
  have HZ := Lib.hid h.z
  have cM : ∀ w1, Below w.heap.size w w1 → Calls Tryd.prog 13 #[.agg #[.int .i64 q, .slice a1 ls.length c1, .int .i64 k, .slice a2 cs.length c2]] w1 fun e w' => e = .returned (.bool (mayS ⟨q, ls, k, cs⟩)) ∧ Below w1.heap.size w1 w' := fun w1 h1 => rlmay_any q k _ _ ls cs w1 (h.below h1) hcs hf
  have cO : ∀ w1, Below w.heap.size w w1 → Calls Tryd.prog 11 #[.agg #[.int .i64 q, .slice a1 ls.length c1, .int .i64 k, .slice a2 cs.length c2]] w1 fun e w' => ∃ sl' sc', e = .returned (.agg #[.int .i64 q, sl', .int .i64 k, sc']) ∧ OwnLn w1.heap.size w' sl' sc' ls cs ∧ Below w1.heap.size w1 w' := fun w1 h1 => rlown_any q k _ _ ls cs w1 (h.below h1) hls hcs
  have HX := Lib.hid (box_two w q k 0 0 (.slice a1 ls.length c1) (.slice a2 cs.length c2) (.slice none 0 0) (.slice none 0 0))
  unfold opS
  have hfacts := @mayS_facts q k ls cs
  obtain ⟨n1, hn1⟩ : ∃ n, ls.length = n := ⟨_, rfl⟩
  obtain ⟨n2, hn2⟩ : ∃ n, cs.length = n := ⟨_, rfl⟩
  have N1 := Lib.hid hn1
  have N2 := Lib.hid hn2
  rw [hn1] at cM cO HX HZ hnc hfacts ⊢
  rw [hn2] at cM cO HX ⊢
  have hu : w.heap.size < w.heap.size + 1 := by omega
  obtain ⟨M, hM⟩ : ∃ M, mayS ⟨q, ls, k, cs⟩ = M := ⟨_, rfl⟩
  rw [hM] at cM hfacts ⊢
  clear h hls hcs hf hn1 hn2 hM
  cases M with
  | false =>
    rw [if_neg (by decide)]
    clear hfacts
    go_enter Tryd.func25, Tryd.ntmps25
    go_wp2_with (first
      | (go_at_call 13; ((with_reducible refine (cM _ HX.out.1).mono ?_); rintro e w1 ⟨rfl, hb⟩; obtain ⟨b2, B0, B1⟩ := HX.out; have bW := Lib.hid (b2.trans (hb.mono b2.size)); have HB0 := Lib.hid (B0.below hb); have HB1 := Lib.hid (B1.below hb); have hs1 := HB1.out.lt; obtain ⟨l0, x0, x1, x2, x3, _, _, _, _⟩ := HB0.out; obtain ⟨l1, u0, u1, u2, u3, v0, v1, v2, v3⟩ := HB1.out; clear b2 B0 B1 hb)))
    exact bodyPost_ret (v := .tuple #[.agg #[.int .i64 0, .slice none 0 0, .int .i64 0, .slice none 0 0], .int .i64 1]) (by simp [results, Tryd.results25, go_sem, *]) rfl ⟨_, _, rfl, own_nil _ _, put4_below bW.out (Nat.le_of_lt hu)⟩
  | true =>
    rw [if_pos rfl]
    obtain ⟨⟨hq1, hq2⟩, hls6⟩ := hfacts rfl
    clear hfacts
    unfold indentS
    dsimp only
    rw [N1.out]
    by_cases h6 : n1 = 6
    · subst h6
      rw [if_pos (.inl rfl)]
      go_enter Tryd.func25, Tryd.ntmps25
      go_wp2_with (first
        | (go_at_call 13; ((with_reducible refine (cM _ HX.out.1).mono ?_); rintro e w1 ⟨rfl, hb⟩; obtain ⟨b2, B0, B1⟩ := HX.out; have bW := Lib.hid (b2.trans (hb.mono b2.size)); have HB0 := Lib.hid (B0.below hb); have HB1 := Lib.hid (B1.below hb); have hs1 := HB1.out.lt; obtain ⟨l0, x0, x1, x2, x3, _, _, _, _⟩ := HB0.out; obtain ⟨l1, u0, u1, u2, u3, v0, v1, v2, v3⟩ := HB1.out; clear b2 B0 B1 hb))
        | (go_at_call 11; ((with_reducible refine (cO _ bW.out).mono ?_); rintro e w2 ⟨sl', sc', rfl, ho, hb2⟩; have hs2 := hb2.size; have bW2 := Lib.hid (bW.out.trans (hb2.mono (by omega))); have HO := Lib.hid ho; have HBB := Lib.hid hb2; obtain ⟨a3, c3, e3⟩ := own_len ho.1; obtain ⟨a4, c4, e4⟩ := own_len ho.2; rw [N1.out] at e3; rw [N2.out] at e4; subst e3 e4; have HC0 := Lib.hid (HB0.out.below hb2); have HC1 := Lib.hid (HB1.out.below hb2); obtain ⟨l0, x0, x1, x2, x3, _, _, _, _⟩ := HC0.out; obtain ⟨l1, u0, u1, u2, u3, v0, v1, v2, v3⟩ := HC1.out; have hHP := Lib.hid (box_new w2 q k (.slice a3 6 c3) (.slice a4 n2 c4)); clear ho hb2)))
      exact bodyPost_ret (v := .tuple #[.agg #[.int .i64 0, .slice none 0 0, .int .i64 0, .slice none 0 0], .int .i64 7]) (by simp [results, Tryd.results25, go_sem, *]) rfl ⟨_, _, rfl, (own_nil _ _), (put4_below bW2.out (Nat.le_of_lt hu)).alloc (by rw [put4_size]; exact bW2.out.size) _⟩
    · by_cases h0 : n1 = 0
      · subst h0
        by_cases hq6 : q = 6
        · subst hq6
          rw [if_pos (.inr ⟨rfl, rfl⟩)]
          go_enter Tryd.func25, Tryd.ntmps25
          go_wp2_with (first
            | (go_at_call 13; ((with_reducible refine (cM _ HX.out.1).mono ?_); rintro e w1 ⟨rfl, hb⟩; obtain ⟨b2, B0, B1⟩ := HX.out; have bW := Lib.hid (b2.trans (hb.mono b2.size)); have HB0 := Lib.hid (B0.below hb); have HB1 := Lib.hid (B1.below hb); have hs1 := HB1.out.lt; obtain ⟨l0, x0, x1, x2, x3, _, _, _, _⟩ := HB0.out; obtain ⟨l1, u0, u1, u2, u3, v0, v1, v2, v3⟩ := HB1.out; clear b2 B0 B1 hb))
            | (go_at_call 11; ((with_reducible refine (cO _ bW.out).mono ?_); rintro e w2 ⟨sl', sc', rfl, ho, hb2⟩; have hs2 := hb2.size; have bW2 := Lib.hid (bW.out.trans (hb2.mono (by omega))); have HO := Lib.hid ho; have HBB := Lib.hid hb2; obtain ⟨a3, c3, e3⟩ := own_len ho.1; obtain ⟨a4, c4, e4⟩ := own_len ho.2; rw [N1.out] at e3; rw [N2.out] at e4; subst e3 e4; have HC0 := Lib.hid (HB0.out.below hb2); have HC1 := Lib.hid (HB1.out.below hb2); obtain ⟨l0, x0, x1, x2, x3, _, _, _, _⟩ := HC0.out; obtain ⟨l1, u0, u1, u2, u3, v0, v1, v2, v3⟩ := HC1.out; have hHP := Lib.hid (box_new w2 6 k (.slice a3 0 c3) (.slice a4 n2 c4)); clear ho hb2)))
          exact bodyPost_ret (v := .tuple #[.agg #[.int .i64 0, .slice none 0 0, .int .i64 0, .slice none 0 0], .int .i64 7]) (by simp [results, Tryd.results25, go_sem, *]) rfl ⟨_, _, rfl, (own_nil _ _), (put4_below bW2.out (Nat.le_of_lt hu)).alloc (by rw [put4_size]; exact bW2.out.size) _⟩
        · rw [if_neg (fun h => h.elim h6 (fun h => hq6 h.2)), if_neg (by decide)]
          have hq7 : (q == 6) = false := by simpa using hq6
          have hw1 : IntKind.i64.wrap (q + 1) = q + 1 := IntWalk.i64_in _ (by omega)
          go_enter Tryd.func25, Tryd.ntmps25
          go_wp2_with (first
            | (go_at_call 13; ((with_reducible refine (cM _ HX.out.1).mono ?_); rintro e w1 ⟨rfl, hb⟩; obtain ⟨b2, B0, B1⟩ := HX.out; have bW := Lib.hid (b2.trans (hb.mono b2.size)); have HB0 := Lib.hid (B0.below hb); have HB1 := Lib.hid (B1.below hb); have hs1 := HB1.out.lt; obtain ⟨l0, x0, x1, x2, x3, _, _, _, _⟩ := HB0.out; obtain ⟨l1, u0, u1, u2, u3, v0, v1, v2, v3⟩ := HB1.out; clear b2 B0 B1 hb))
            | (go_at_call 11; ((with_reducible refine (cO _ bW.out).mono ?_); rintro e w2 ⟨sl', sc', rfl, ho, hb2⟩; have hs2 := hb2.size; have bW2 := Lib.hid (bW.out.trans (hb2.mono (by omega))); have HO := Lib.hid ho; have HBB := Lib.hid hb2; obtain ⟨a3, c3, e3⟩ := own_len ho.1; obtain ⟨a4, c4, e4⟩ := own_len ho.2; rw [N1.out] at e3; rw [N2.out] at e4; subst e3 e4; have HC0 := Lib.hid (HB0.out.below hb2); have HC1 := Lib.hid (HB1.out.below hb2); obtain ⟨l0, x0, x1, x2, x3, _, _, _, _⟩ := HC0.out; obtain ⟨l1, u0, u1, u2, u3, v0, v1, v2, v3⟩ := HC1.out; have hHP := Lib.hid (box_new w2 q k (.slice a3 0 c3) (.slice a4 n2 c4)); clear ho hb2)))
          exact bodyPost_ret (v := .tuple #[.agg #[.int .i64 (q + 1), .slice a3 0 c3, .int .i64 k, .slice a4 n2 c4], .int .i64 0]) (by simp [results, Tryd.results25, go_sem, *]) rfl ⟨_, _, rfl, (doc_one HO.out hs1 bW2.out (Nat.le_of_lt hu) _ _ _ _ _).1, (doc_one HO.out hs1 bW2.out (Nat.le_of_lt hu) _ _ _ _ _).2⟩
      · rw [if_neg (fun h => h.elim h6 (fun h => h0 h.1)), if_pos (show 0 < n1 by omega)]
        obtain ⟨g, o, c', e2, _, _, hgl, hIn⟩ := HZ.out.lies (by rw [N1.out]; omega)
        rw [N1.out] at e2
        simp only [Value.slice.injEq, true_and] at e2
        obtain ⟨rfl, rfl⟩ := e2
        obtain ⟨n, rfl⟩ : ∃ n, n1 = n + 1 := ⟨n1 - 1, by omega⟩
        have d1 := hIn n (by rw [N1.out]; omega)
        rw [Nat.add_sub_cancel]
        obtain ⟨X, hX⟩ : ∃ X, ls[n]! = X := ⟨_, rfl⟩
        rw [hX] at d1 ⊢
        have hw1 : IntKind.i64.wrap (((n + 1 : Nat) : Int) - 1) = (n : Int) := by rw [IntWalk.i64_in _ (by omega)]; omega
        have hw2 : IntKind.i64.wrap ((n : Int) + 1 - 1) = (n : Int) := by rw [IntWalk.i64_in _ (by omega)]; omega
        have hw3 : IntKind.i64.wrap (n : Int) = (n : Int) := IntWalk.i64_in _ (by omega)
        have n0 : (0 : Int) ≤ (n : Int) + 1 := by omega
        have n2' : (0 : Int) ≤ (n : Int) := by omega
        have n6 : ¬ ((n : Int) + 1 = 6) := by omega
        have nn : (n : Int) < (n : Int) + 1 := by omega
        have D1 := Lib.hid d1
        have HGL := Lib.hid hgl
        clear hX hIn h6 h0 d1
        go_enter Tryd.func25, Tryd.ntmps25
        go_wp2_with (first
          | (go_at_call 13; ((with_reducible refine (cM _ HX.out.1).mono ?_); rintro e w1 ⟨rfl, hb⟩; obtain ⟨b2, B0, B1⟩ := HX.out; have bW := Lib.hid (b2.trans (hb.mono b2.size)); have HB0 := Lib.hid (B0.below hb); have HB1 := Lib.hid (B1.below hb); have hs1 := HB1.out.lt; obtain ⟨l0, x0, x1, x2, x3, _, _, _, _⟩ := HB0.out; obtain ⟨l1, u0, u1, u2, u3, v0, v1, v2, v3⟩ := HB1.out; clear b2 B0 B1 hb))
          | (go_at_call 11; ((with_reducible refine (cO _ bW.out).mono ?_); rintro e w2 ⟨sl', sc', rfl, ho, hb2⟩; have hs2 := hb2.size; have bW2 := Lib.hid (bW.out.trans (hb2.mono (by omega))); have HO := Lib.hid ho; have HBB := Lib.hid hb2; obtain ⟨a3, c3, e3⟩ := own_len ho.1; obtain ⟨a4, c4, e4⟩ := own_len ho.2; rw [N1.out] at e3; rw [N2.out] at e4; subst e3 e4; have HC0 := Lib.hid (HB0.out.below hb2); have HC1 := Lib.hid (HB1.out.below hb2); obtain ⟨l0, x0, x1, x2, x3, _, _, _, _⟩ := HC0.out; obtain ⟨l1, u0, u1, u2, u3, v0, v1, v2, v3⟩ := HC1.out; have hHP := Lib.hid (box_new w2 q k (.slice a3 (n + 1) c3) (.slice a4 n2 c4)); have d1 := (bW2.out.cell (p := ⟨g, o + n, none⟩) HGL.out).trans D1.out; have hg2 : g < w2.heap.size := (by have := HGL.out; omega); clear ho hb2)))
        go_region_law (refine step_append_intsG (by simp [Region.wanted]) _ _ rfl w1.heap.size _ ls rfl ?own _ [X] rfl ?at_ ?hb ?hbase ?_; (case own => (have h := HO.out.1; rw [N1.out] at h ⊢; exact ownsRow_below h (show Below w2.heap.size w2 _ by (repeat (first | (with_reducible exact Below.refl _ _) | assumption | (with_reducible refine Below.drew ?_) | (with_reducible refine Below.alloc ?_ ?_ _) | omega | (simp <;> omega)))))); (case at_ => exact ints_one (by simp [go_sem])); (case hb => (have := N1.out; simp; omega)); (case hbase => first | omega | (simp <;> omega)); intro v3 w3 own3 grow3; have HW3 := Lib.hid (below_grown (B := w.heap.size) (bW2.out.trans (Below.mono (show Below w2.heap.size w2 _ by (repeat (first | (with_reducible exact Below.refl _ _) | assumption | (with_reducible refine Below.drew ?_) | (with_reducible refine Below.alloc ?_ ?_ _) | omega | (simp <;> omega)))) (by omega))) (by first | omega | (simp <;> omega)) ((ownsRow_below HO.out.1 (show Below w2.heap.size w2 _ by (repeat (first | (with_reducible exact Below.refl _ _) | assumption | (with_reducible refine Below.drew ?_) | (with_reducible refine Below.alloc ?_ ?_ _) | omega | (simp <;> omega))))).mono (show w.heap.size ≤ w1.heap.size by omega)) grow3); have HOC := Lib.hid (own_grown grow3 (ownsRow_below HO.out.2 (show Below w2.heap.size w2 _ by (repeat (first | (with_reducible exact Below.refl _ _) | assumption | (with_reducible refine Below.drew ?_) | (with_reducible refine Below.alloc ?_ ?_ _) | omega | (simp <;> omega))))) (fun g e => own_apart (ownsRow_below HO.out.1 (show Below w2.heap.size w2 _ by (repeat (first | (with_reducible exact Below.refl _ _) | assumption | (with_reducible refine Below.drew ?_) | (with_reducible refine Below.alloc ?_ ?_ _) | omega | (simp <;> omega))))) (ownsRow_below HO.out.2 (show Below w2.heap.size w2 _ by (repeat (first | (with_reducible exact Below.refl _ _) | assumption | (with_reducible refine Below.drew ?_) | (with_reducible refine Below.alloc ?_ ?_ _) | omega | (simp <;> omega))))) g e)); have HOZ := Lib.hid own3; obtain ⟨a5, c5, e5⟩ := own_len own3; rw [List.length_append, N1.out] at e5; subst e5; have HB13 := Lib.hid (below_grown (B := w1.heap.size) ((HBB.out).trans (Below.mono (show Below w2.heap.size w2 _ by (repeat (first | (with_reducible exact Below.refl _ _) | assumption | (with_reducible refine Below.drew ?_) | (with_reducible refine Below.alloc ?_ ?_ _) | omega | (simp <;> omega)))) hs2)) (by first | omega | (simp <;> omega)) (ownsRow_below HO.out.1 (show Below w2.heap.size w2 _ by (repeat (first | (with_reducible exact Below.refl _ _) | assumption | (with_reducible refine Below.drew ?_) | (with_reducible refine Below.alloc ?_ ?_ _) | omega | (simp <;> omega))))) grow3); have HPB := Lib.hid ((grow3.block w2.heap.size (by simp <;> omega) (fun e => own_ne2 HO.out.1 (Nat.le_refl _) e.symm)).trans (((show Below (w2.heap.size + 1) (w2.alloc (.cells #[.int .i64 q, .slice a3 (n + 1) c3, .int .i64 k, .slice a4 n2 c4] 25)) _ by (repeat (first | (with_reducible exact Below.refl _ _) | assumption | (with_reducible refine Below.drew ?_) | (with_reducible refine Below.alloc ?_ ?_ _) | omega | (simp <;> omega)))).block w2.heap.size (by omega)).trans (World.alloc_heap_new w2 _))); obtain ⟨_, g0, g1, g2, g3, g4, g5, g6, g7⟩ := box_blk HPB.out; obtain ⟨_, u0, u1, u2, u3, v0, v1, v2, v3⟩ := HB1.out.below HB13.out; clear own3 grow3)
        all_goals clear hw1 hw2 hw3
        all_goals go_wp2
        all_goals have hE := doc_two (w := w) (r := w.heap.size + 1) (p := w2.heap.size) (j := 1) HW3.out (by omega) (by omega) (by omega) (by omega) HOZ.out HOC.out (own_ne HOZ.out hs1) (own_ne3 HOZ.out HPB.out (by decide)) (own_ne HOC.out hs1) (own_ne2 HO.out.2 (Nat.le_refl _)) q k (.slice a5 (n + 1 + 1) c5) (.slice a4 n2 c4) (.slice a5 (n + 1 + 1) c5)
        all_goals exact bodyPost_ret (v := .tuple #[.agg #[.int .i64 q, .slice a5 (n + 1 + 1) c5, .int .i64 k, .slice a4 n2 c4], .int .i64 0]) (by simp [results, Tryd.results25, go_sem, *]) rfl ⟨_, _, rfl, hE.1, hE.2⟩

end Go.Proofs.YtmlipcedkgfmiaaDoor
