/-
  The document's List.
-/
import Derived.Test.YtmlipcedkgfmiaaDoorDocOpsB
namespace Go.Proofs.YtmlipcedkgfmiaaDoor
open Go.RowKit Go.Lib

theorem own_spot {w : World} {B e size n m c : Nat} {a : Option Addr} {xs : List Value} (h : w.ownsRow B e size (.slice a (n + 1) c) m xs) : ∃ g, a = some ⟨g, 0, none⟩ ∧ B ≤ g ∧ g < w.heap.size ∧ n + 1 ≤ c ∧ c ≤ maxLen ∧ (∀ j, w.frozen? ⟨g, j, none⟩ = false) ∧ ∀ j u, xs[j]? = some u → w.cell? ⟨g, j, none⟩ = some u := by
  have h0 := h
  rcases h.2 with ⟨e, _⟩ | ⟨g, cap, cur, e, hB, hg, hnc, hcm, _⟩
  · simp at e
  · simp only [Value.slice.injEq] at e
    obtain ⟨rfl, rfl, rfl⟩ := e
    refine ⟨g, rfl, hB, (Array.getElem?_eq_some_iff.1 hg).1, hnc, hcm, fun j => frozen_cells hg j, fun j u hu => ?_⟩
    have := h0.cells rfl j u hu
    rwa [Addr.add_lit, Nat.zero_add] at this
theorem cellsZ_set (ls : IRow) (n : Nat) (z : Int) : (cellsZ ls).set n (.int .i64 z) = cellsZ (ls.set n z) := by unfold cellsZ; rw [List.map_set]
/-- The last list becomes another one. -/
theorem list_end {B r g n m c : Nat} {w w3 : World} {sc : Value} {ls : IRow} {cs : Row} (h : OwnLn B w3 (.slice (some ⟨g, 0, none⟩) m c) sc ls cs) (hm : m = ls.length) (hr : r < B) (hb : Below w.heap.size w w3) (hr0 : w.heap.size ≤ r) (hg : w.heap.size ≤ g) (kind q k : Int) (s d : Value) (o : Obj) :
    OwnLn w.heap.size ((put4 (w3.setCell ⟨g, n, none⟩ (.int .i64 kind)) r q s k d).alloc o) (.slice (some ⟨g, 0, none⟩) m c) sc (ls.set n kind) cs ∧ Below w.heap.size w ((put4 (w3.setCell ⟨g, n, none⟩ (.int .i64 kind)) r q s k d).alloc o) := by
  subst hm
  have h1 := (h.1.stored n (.int .i64 kind)).1
  rw [cellsZ_set] at h1
  have h2 : (w3.setCell ⟨g, n, none⟩ (.int .i64 kind)).ownsRow B 44 3 sc cs.length (cellsR cs) := own_set2 h.2 (own_apart h.1 h.2 g rfl)
  have h3 : OwnLn B (w3.setCell ⟨g, n, none⟩ (.int .i64 kind)) (.slice (some ⟨g, 0, none⟩) ls.length c) sc (ls.set n kind) cs := ⟨by rw [List.length_set]; exact h1, h2⟩
  have hp := put4_below (q := q) (k := k) (sl := s) (sc := d) (hb.setCell (p := ⟨g, n, none⟩) hg (.int .i64 kind)) hr0
  exact ⟨((put4_own (q := q) (k := k) (sl := s) (sc := d) h3 hr).below ((Below.refl _ _).alloc (Nat.le_refl _) _)).mono (by omega), hp.alloc hp.size _⟩
/-- The first list is made. -/
theorem list_end0 {B r : Nat} {w w2 : World} {sl sc : Value} {cs : Row} (h : OwnLn B w2 sl sc [] cs) (hr : r < B) (hb : Below w.heap.size w w2) (hr0 : w.heap.size ≤ r) (hB : B ≤ w2.heap.size) (kind q k : Int) (s d : Value) (o : Obj) :
    OwnLn w.heap.size (((put4 w2 r q s k d).alloc o).alloc (.cells #[.int .i64 kind] 3)) (.slice (some ⟨w2.heap.size + 1, 0, none⟩) 1 1) sc [kind] cs ∧ Below w.heap.size w (((put4 w2 r q s k d).alloc o).alloc (.cells #[.int .i64 kind] 3)) := by
  have hp := put4_below (q := q) (k := k) (sl := s) (sc := d) hb hr0
  have ho := put4_own (q := q) (k := k) (sl := s) (sc := d) h hr
  obtain ⟨W, hW⟩ : ∃ W, put4 w2 r q s k d = W := ⟨_, rfl⟩
  have hs : W.heap.size = w2.heap.size := by rw [← hW, put4_size]
  rw [hW] at hp ho ⊢
  rw [← hs] at hB ⊢
  have b1 : Below W.heap.size W ((W.alloc o).alloc (.cells #[.int .i64 kind] 3)) := ((Below.refl _ W).alloc (Nat.le_refl _) _).alloc (by simp) _
  have hz : ((W.alloc o).alloc (.cells #[.int .i64 kind] 3)).ownsRow B 3 1 (.slice (some ⟨(W.alloc o).heap.size, 0, none⟩) 1 1) 1 (cellsZ [kind]) :=
    ⟨rfl, .inr ⟨(W.alloc o).heap.size, 1, #[.int .i64 kind], rfl, by simp; omega, World.alloc_heap_new _ _, Nat.le_refl _, by decide, rfl, rfl⟩⟩
  rw [show (W.alloc o).heap.size = W.heap.size + 1 by simp] at hz
  exact ⟨OwnLn.mono (B := B) ⟨hz, ownsRow_below ho.2 b1⟩ (by omega), hp.trans (b1.mono hp.size)⟩

set_option maxRecDepth 20000 in
set_option maxHeartbeats 16000000 in
theorem List_doc (q k kind : Int) (sl sc : Value) (ls : IRow) (cs : Row) (w : World) (h : LnAt w sl sc ls cs) (hls : ls.length ≤ 50000) (hcs : cs.length ≤ 50000) (hf : Fair cs) :
    Calls Tryd.prog 29 #[.agg #[.int .i64 q, sl, .int .i64 k, sc], .int .i64 kind] w (DocPost (opS (listK kind) ⟨q, ls, k, cs⟩) w) := by
  obtain ⟨a1, c1, e1, hnc, hcm⟩ := h.z.cap
  subst e1
  unfold maxLen at hcm
  obtain ⟨a2, c2, rfl⟩ := h.r.len
  have HZ := Lib.hid h.z
  have cM : ∀ w1, Below w.heap.size w w1 → Calls Tryd.prog 13 #[.agg #[.int .i64 q, .slice a1 ls.length c1, .int .i64 k, .slice a2 cs.length c2]] w1 fun e w' => e = .returned (.bool (mayS ⟨q, ls, k, cs⟩)) ∧ Below w1.heap.size w1 w' := fun w1 h1 => rlmay_any q k _ _ ls cs w1 (h.below h1) hcs hf
  have cO : ∀ w1, Below w.heap.size w w1 → Calls Tryd.prog 11 #[.agg #[.int .i64 q, .slice a1 ls.length c1, .int .i64 k, .slice a2 cs.length c2]] w1 fun e w' => ∃ sl' sc', e = .returned (.agg #[.int .i64 q, sl', .int .i64 k, sc']) ∧ OwnLn w1.heap.size w' sl' sc' ls cs ∧ Below w1.heap.size w1 w' := fun w1 h1 => rlown_any q k _ _ ls cs w1 (h.below h1) hls hcs
  have HX := Lib.hid (box_two w q k 0 0 (.slice a1 ls.length c1) (.slice a2 cs.length c2) (.slice none 0 0) (.slice none 0 0))
  unfold opS
  have hfacts := @mayS_facts q k ls cs
  obtain ⟨n1, hn1⟩ : ∃ n, ls.length = n := ⟨_, rfl⟩
  obtain ⟨n2, hn2⟩ : ∃ n, cs.length = n := ⟨_, rfl⟩
  have N1 := Lib.hid hn1
  have N2 := Lib.hid hn2
  rw [hn1] at cM cO HX HZ hnc hfacts ⊢
  rw [hn2] at cM cO HX ⊢
  obtain ⟨U, hU⟩ : ∃ U, upB kind 1 = U := ⟨_, rfl⟩
  unfold listK
  rw [hU]
  have hu : w.heap.size < w.heap.size + 1 := by omega
  cases U with
  | false =>
    rw [show (if mayS ⟨q, ls, k, cs⟩ = true then (if false = true then listS kind ⟨q, ls, k, cs⟩ else (1, ln0)) else (1, ln0)) = (1, ln0) from by simp]
    have hU2 : kind ≠ 0 ∧ kind ≠ 1 := by
      have := of_decide_eq_false hU
      omega
    obtain ⟨u0, u1⟩ := hU2
    have hb0 : (kind != 0) = true := by simpa using u0
    have hb1 : (kind != 1) = true := by simpa using u1
    clear h hls hcs hf hn1 hn2 hfacts cM cO hU
    go_enter Tryd.func29, Tryd.ntmps29
    go_wp2_with (first
      | fail)
    exact bodyPost_ret (v := .tuple #[.agg #[.int .i64 0, .slice none 0 0, .int .i64 0, .slice none 0 0], .int .i64 1]) (by simp [results, Tryd.results29, go_sem, *]) rfl ⟨_, _, rfl, own_nil _ _, by first | exact put4_below HX.out.1 (Nat.le_of_lt hu) | exact HX.out.1⟩
  | true =>
    rw [if_pos rfl]
    have hk01 : kind = 0 ∨ kind = 1 := by
      have : 0 ≤ kind ∧ kind ≤ 1 := of_decide_eq_true hU
      omega
    obtain ⟨M, hM⟩ : ∃ M, mayS ⟨q, ls, k, cs⟩ = M := ⟨_, rfl⟩
    rw [hM] at cM hfacts ⊢
    clear h hls hcs hf hn1 hn2 hM hU
    cases M with
    | false =>
      rw [if_neg (by decide)]
      clear hfacts
      rcases hk01 with rfl | rfl
      · go_enter Tryd.func29, Tryd.ntmps29
        go_wp2_with (first
          | (go_at_call 13; ((with_reducible refine (cM _ HX.out.1).mono ?_); rintro e w1 ⟨rfl, hb⟩; obtain ⟨b2, B0, B1⟩ := HX.out; have bW := Lib.hid (b2.trans (hb.mono b2.size)); have HB0 := Lib.hid (B0.below hb); have HB1 := Lib.hid (B1.below hb); have hs1 := HB1.out.lt; obtain ⟨l0, x0, x1, x2, x3, _, _, _, _⟩ := HB0.out; obtain ⟨l1, u0, u1, u2, u3, v0, v1, v2, v3⟩ := HB1.out; clear b2 B0 B1 hb)))
        exact bodyPost_ret (v := .tuple #[.agg #[.int .i64 0, .slice none 0 0, .int .i64 0, .slice none 0 0], .int .i64 1]) (by simp [results, Tryd.results29, go_sem, *]) rfl ⟨_, _, rfl, own_nil _ _, put4_below bW.out (Nat.le_of_lt hu)⟩
      · go_enter Tryd.func29, Tryd.ntmps29
        go_wp2_with (first
          | (go_at_call 13; ((with_reducible refine (cM _ HX.out.1).mono ?_); rintro e w1 ⟨rfl, hb⟩; obtain ⟨b2, B0, B1⟩ := HX.out; have bW := Lib.hid (b2.trans (hb.mono b2.size)); have HB0 := Lib.hid (B0.below hb); have HB1 := Lib.hid (B1.below hb); have hs1 := HB1.out.lt; obtain ⟨l0, x0, x1, x2, x3, _, _, _, _⟩ := HB0.out; obtain ⟨l1, u0, u1, u2, u3, v0, v1, v2, v3⟩ := HB1.out; clear b2 B0 B1 hb)))
        exact bodyPost_ret (v := .tuple #[.agg #[.int .i64 0, .slice none 0 0, .int .i64 0, .slice none 0 0], .int .i64 1]) (by simp [results, Tryd.results29, go_sem, *]) rfl ⟨_, _, rfl, own_nil _ _, put4_below bW.out (Nat.le_of_lt hu)⟩
    | true =>
      rw [if_pos rfl]
      obtain ⟨_, hls6⟩ := hfacts rfl
      clear hfacts
      unfold listS
      dsimp only
      rw [N1.out]
      by_cases h0 : n1 = 0
      · subst h0
        rw [if_pos rfl]
        obtain rfl : ls = [] := List.eq_nil_of_length_eq_zero N1.out
        rcases hk01 with rfl | rfl
        · go_enter Tryd.func29, Tryd.ntmps29
          go_wp2_with (first
            | (go_at_call 13; ((with_reducible refine (cM _ HX.out.1).mono ?_); rintro e w1 ⟨rfl, hb⟩; obtain ⟨b2, B0, B1⟩ := HX.out; have bW := Lib.hid (b2.trans (hb.mono b2.size)); have HB0 := Lib.hid (B0.below hb); have HB1 := Lib.hid (B1.below hb); have hs1 := HB1.out.lt; obtain ⟨l0, x0, x1, x2, x3, _, _, _, _⟩ := HB0.out; obtain ⟨l1, u0, u1, u2, u3, v0, v1, v2, v3⟩ := HB1.out; clear b2 B0 B1 hb))
            | (go_at_call 11; ((with_reducible refine (cO _ bW.out).mono ?_); rintro e w2 ⟨sl', sc', rfl, ho, hb2⟩; have hs2 := hb2.size; have bW2 := Lib.hid (bW.out.trans (hb2.mono (by omega))); have HO := Lib.hid ho; have HBB := Lib.hid hb2; obtain ⟨a3, c3, e3⟩ := own_len ho.1; obtain ⟨a4, c4, e4⟩ := own_len ho.2; rw [N1.out] at e3; rw [N2.out] at e4; subst e3 e4; have HC0 := Lib.hid (HB0.out.below hb2); have HC1 := Lib.hid (HB1.out.below hb2); obtain ⟨l0, x0, x1, x2, x3, _, _, _, _⟩ := HC0.out; obtain ⟨l1, u0, u1, u2, u3, v0, v1, v2, v3⟩ := HC1.out; have hHP := Lib.hid (box_new w2 q k (.slice a3 0 c3) (.slice a4 n2 c4)); have hE := Lib.hid (fun q k s d o => list_end0 HO.out hs1 bW2.out (Nat.le_of_lt hu) hs2 0 q k s d o); clear ho hb2)))
          exact bodyPost_ret (v := .tuple #[.agg #[.int .i64 q, .slice (some ⟨w2.heap.size + 1, 0, none⟩) 1 1, .int .i64 0, .slice a4 n2 c4], .int .i64 0]) (by simp [results, Tryd.results29, go_sem, *]) rfl ⟨_, _, rfl, (hE.out _ _ _ _ _).1, (hE.out _ _ _ _ _).2⟩
        · go_enter Tryd.func29, Tryd.ntmps29
          go_wp2_with (first
            | (go_at_call 13; ((with_reducible refine (cM _ HX.out.1).mono ?_); rintro e w1 ⟨rfl, hb⟩; obtain ⟨b2, B0, B1⟩ := HX.out; have bW := Lib.hid (b2.trans (hb.mono b2.size)); have HB0 := Lib.hid (B0.below hb); have HB1 := Lib.hid (B1.below hb); have hs1 := HB1.out.lt; obtain ⟨l0, x0, x1, x2, x3, _, _, _, _⟩ := HB0.out; obtain ⟨l1, u0, u1, u2, u3, v0, v1, v2, v3⟩ := HB1.out; clear b2 B0 B1 hb))
            | (go_at_call 11; ((with_reducible refine (cO _ bW.out).mono ?_); rintro e w2 ⟨sl', sc', rfl, ho, hb2⟩; have hs2 := hb2.size; have bW2 := Lib.hid (bW.out.trans (hb2.mono (by omega))); have HO := Lib.hid ho; have HBB := Lib.hid hb2; obtain ⟨a3, c3, e3⟩ := own_len ho.1; obtain ⟨a4, c4, e4⟩ := own_len ho.2; rw [N1.out] at e3; rw [N2.out] at e4; subst e3 e4; have HC0 := Lib.hid (HB0.out.below hb2); have HC1 := Lib.hid (HB1.out.below hb2); obtain ⟨l0, x0, x1, x2, x3, _, _, _, _⟩ := HC0.out; obtain ⟨l1, u0, u1, u2, u3, v0, v1, v2, v3⟩ := HC1.out; have hHP := Lib.hid (box_new w2 q k (.slice a3 0 c3) (.slice a4 n2 c4)); have hE := Lib.hid (fun q k s d o => list_end0 HO.out hs1 bW2.out (Nat.le_of_lt hu) hs2 1 q k s d o); clear ho hb2)))
          exact bodyPost_ret (v := .tuple #[.agg #[.int .i64 q, .slice (some ⟨w2.heap.size + 1, 0, none⟩) 1 1, .int .i64 0, .slice a4 n2 c4], .int .i64 0]) (by simp [results, Tryd.results29, go_sem, *]) rfl ⟨_, _, rfl, (hE.out _ _ _ _ _).1, (hE.out _ _ _ _ _).2⟩
      · rw [if_neg h0]
        obtain ⟨g, o, c', e2, _, _, hgl, hIn⟩ := HZ.out.lies (by rw [N1.out]; omega)
        rw [N1.out] at e2
        simp only [Value.slice.injEq, true_and] at e2
        obtain ⟨rfl, rfl⟩ := e2
        obtain ⟨n, rfl⟩ : ∃ n, n1 = n + 1 := ⟨n1 - 1, by omega⟩
        have d1 := hIn n (by rw [N1.out]; omega)
        rw [Nat.add_sub_cancel]
        obtain ⟨X, hX⟩ : ∃ X, ls[n]! = X := ⟨_, rfl⟩
        rw [hX] at d1 ⊢
        have hw1 : IntKind.i64.wrap (((n + 1 : Nat) : Int) - 1) = (n : Int) := by rw [IntWalk.i64_in _ (by omega)]; omega
        have hw2 : IntKind.i64.wrap ((n : Int) + 1 - 1) = (n : Int) := by rw [IntWalk.i64_in _ (by omega)]; omega
        have n0 : ¬ ((n : Int) + 1 = 0) := by omega
        have nn : (n : Int) < (n : Int) + 1 := by omega
        have hcl : n < c1 := by omega
        have HXX := Lib.hid hX
        have D1 := Lib.hid d1
        have HGL := Lib.hid hgl
        clear hX hIn h0 d1
        by_cases hxk : X = kind
        · subst hxk
          rw [if_pos rfl]
          rcases hk01 with rfl | rfl
          · go_enter Tryd.func29, Tryd.ntmps29
            go_wp2_with (first
              | (go_at_call 13; ((with_reducible refine (cM _ HX.out.1).mono ?_); rintro e w1 ⟨rfl, hb⟩; obtain ⟨b2, B0, B1⟩ := HX.out; have bW := Lib.hid (b2.trans (hb.mono b2.size)); have HB0 := Lib.hid (B0.below hb); have HB1 := Lib.hid (B1.below hb); have hs1 := HB1.out.lt; obtain ⟨l0, x0, x1, x2, x3, _, _, _, _⟩ := HB0.out; obtain ⟨l1, u0, u1, u2, u3, v0, v1, v2, v3⟩ := HB1.out; clear b2 B0 B1 hb))
              | (go_at_call 11; ((with_reducible refine (cO _ bW.out).mono ?_); rintro e w2 ⟨sl', sc', rfl, ho, hb2⟩; have hs2 := hb2.size; have bW2 := Lib.hid (bW.out.trans (hb2.mono (by omega))); have HO := Lib.hid ho; have HBB := Lib.hid hb2; obtain ⟨a3, c3, e3⟩ := own_len ho.1; obtain ⟨a4, c4, e4⟩ := own_len ho.2; rw [N1.out] at e3; rw [N2.out] at e4; subst e3 e4; have HC0 := Lib.hid (HB0.out.below hb2); have HC1 := Lib.hid (HB1.out.below hb2); obtain ⟨l0, x0, x1, x2, x3, _, _, _, _⟩ := HC0.out; obtain ⟨l1, u0, u1, u2, u3, v0, v1, v2, v3⟩ := HC1.out; have hHP := Lib.hid (box_new w2 q k (.slice a3 (n + 1) c3) (.slice a4 n2 c4)); have d1 := (bW2.out.cell (p := ⟨g, o + n, none⟩) HGL.out).trans D1.out; have hg2 : g < w2.heap.size := (by have := HGL.out; omega); clear ho hb2)))
            exact bodyPost_ret (v := .tuple #[.agg #[.int .i64 0, .slice none 0 0, .int .i64 0, .slice none 0 0], .int .i64 7]) (by simp [results, Tryd.results29, go_sem, *]) rfl ⟨_, _, rfl, own_nil _ _, (put4_below bW2.out (Nat.le_of_lt hu)).alloc (by rw [put4_size]; exact bW2.out.size) _⟩
          · go_enter Tryd.func29, Tryd.ntmps29
            go_wp2_with (first
              | (go_at_call 13; ((with_reducible refine (cM _ HX.out.1).mono ?_); rintro e w1 ⟨rfl, hb⟩; obtain ⟨b2, B0, B1⟩ := HX.out; have bW := Lib.hid (b2.trans (hb.mono b2.size)); have HB0 := Lib.hid (B0.below hb); have HB1 := Lib.hid (B1.below hb); have hs1 := HB1.out.lt; obtain ⟨l0, x0, x1, x2, x3, _, _, _, _⟩ := HB0.out; obtain ⟨l1, u0, u1, u2, u3, v0, v1, v2, v3⟩ := HB1.out; clear b2 B0 B1 hb))
              | (go_at_call 11; ((with_reducible refine (cO _ bW.out).mono ?_); rintro e w2 ⟨sl', sc', rfl, ho, hb2⟩; have hs2 := hb2.size; have bW2 := Lib.hid (bW.out.trans (hb2.mono (by omega))); have HO := Lib.hid ho; have HBB := Lib.hid hb2; obtain ⟨a3, c3, e3⟩ := own_len ho.1; obtain ⟨a4, c4, e4⟩ := own_len ho.2; rw [N1.out] at e3; rw [N2.out] at e4; subst e3 e4; have HC0 := Lib.hid (HB0.out.below hb2); have HC1 := Lib.hid (HB1.out.below hb2); obtain ⟨l0, x0, x1, x2, x3, _, _, _, _⟩ := HC0.out; obtain ⟨l1, u0, u1, u2, u3, v0, v1, v2, v3⟩ := HC1.out; have hHP := Lib.hid (box_new w2 q k (.slice a3 (n + 1) c3) (.slice a4 n2 c4)); have d1 := (bW2.out.cell (p := ⟨g, o + n, none⟩) HGL.out).trans D1.out; have hg2 : g < w2.heap.size := (by have := HGL.out; omega); clear ho hb2)))
            exact bodyPost_ret (v := .tuple #[.agg #[.int .i64 0, .slice none 0 0, .int .i64 0, .slice none 0 0], .int .i64 7]) (by simp [results, Tryd.results29, go_sem, *]) rfl ⟨_, _, rfl, own_nil _ _, (put4_below bW2.out (Nat.le_of_lt hu)).alloc (by rw [put4_size]; exact bW2.out.size) _⟩
        · rw [if_neg hxk]
          rcases hk01 with rfl | rfl
          · have hxb : (X == 0) = false := by simpa using hxk
            go_enter Tryd.func29, Tryd.ntmps29
            go_wp2_with (first
              | (go_at_call 13; ((with_reducible refine (cM _ HX.out.1).mono ?_); rintro e w1 ⟨rfl, hb⟩; obtain ⟨b2, B0, B1⟩ := HX.out; have bW := Lib.hid (b2.trans (hb.mono b2.size)); have HB0 := Lib.hid (B0.below hb); have HB1 := Lib.hid (B1.below hb); have hs1 := HB1.out.lt; obtain ⟨l0, x0, x1, x2, x3, _, _, _, _⟩ := HB0.out; obtain ⟨l1, u0, u1, u2, u3, v0, v1, v2, v3⟩ := HB1.out; clear b2 B0 B1 hb))
              | (go_at_call 11; ((with_reducible refine (cO _ bW.out).mono ?_); rintro e w2 ⟨sl', sc', rfl, ho, hb2⟩; have hs2 := hb2.size; have bW2 := Lib.hid (bW.out.trans (hb2.mono (by omega))); have HO := Lib.hid ho; have HBB := Lib.hid hb2; obtain ⟨a3, c3, e3⟩ := own_len ho.1; obtain ⟨a4, c4, e4⟩ := own_len ho.2; rw [N1.out] at e3; rw [N2.out] at e4; subst e3 e4; have HC0 := Lib.hid (HB0.out.below hb2); have HC1 := Lib.hid (HB1.out.below hb2); obtain ⟨l0, x0, x1, x2, x3, _, _, _, _⟩ := HC0.out; obtain ⟨l1, u0, u1, u2, u3, v0, v1, v2, v3⟩ := HC1.out; have hHP := Lib.hid (box_new w2 q k (.slice a3 (n + 1) c3) (.slice a4 n2 c4)); have d1 := (bW2.out.cell (p := ⟨g, o + n, none⟩) HGL.out).trans D1.out; have hg2 : g < w2.heap.size := (by have := HGL.out; omega); obtain ⟨g3, e3, hg3B, hg3, hn3, hm3, hf3, hc3⟩ := own_spot HO.out.1; subst e3; unfold maxLen at hm3; have hfn := hf3 n; have HF := Lib.hid hf3; have hgp : g3 ≠ w2.heap.size := Nat.ne_of_lt hg3; have hxc : w2.cell? ⟨g3, n, none⟩ = some (.int .i64 X) := (hc3 n _ (by rw [cellsZ_at ls n (by rw [N1.out]; omega), HXX.out])); clear ho hb2 hf3 hc3)))
            exact bodyPost_ret (v := .tuple #[.agg #[.int .i64 q, .slice (some ⟨g3, 0, none⟩) (n + 1) c3, .int .i64 k, .slice a4 n2 c4], .int .i64 0]) (by simp [results, Tryd.results29, go_sem, *]) rfl ⟨_, _, rfl, (list_end HO.out N1.out.symm hs1 bW2.out (Nat.le_of_lt hu) (by omega) _ _ _ _ _ _).1, (list_end HO.out N1.out.symm hs1 bW2.out (Nat.le_of_lt hu) (by omega) _ _ _ _ _ _).2⟩
          · have hxb : (X == 1) = false := by simpa using hxk
            go_enter Tryd.func29, Tryd.ntmps29
            go_wp2_with (first
              | (go_at_call 13; ((with_reducible refine (cM _ HX.out.1).mono ?_); rintro e w1 ⟨rfl, hb⟩; obtain ⟨b2, B0, B1⟩ := HX.out; have bW := Lib.hid (b2.trans (hb.mono b2.size)); have HB0 := Lib.hid (B0.below hb); have HB1 := Lib.hid (B1.below hb); have hs1 := HB1.out.lt; obtain ⟨l0, x0, x1, x2, x3, _, _, _, _⟩ := HB0.out; obtain ⟨l1, u0, u1, u2, u3, v0, v1, v2, v3⟩ := HB1.out; clear b2 B0 B1 hb))
              | (go_at_call 11; ((with_reducible refine (cO _ bW.out).mono ?_); rintro e w2 ⟨sl', sc', rfl, ho, hb2⟩; have hs2 := hb2.size; have bW2 := Lib.hid (bW.out.trans (hb2.mono (by omega))); have HO := Lib.hid ho; have HBB := Lib.hid hb2; obtain ⟨a3, c3, e3⟩ := own_len ho.1; obtain ⟨a4, c4, e4⟩ := own_len ho.2; rw [N1.out] at e3; rw [N2.out] at e4; subst e3 e4; have HC0 := Lib.hid (HB0.out.below hb2); have HC1 := Lib.hid (HB1.out.below hb2); obtain ⟨l0, x0, x1, x2, x3, _, _, _, _⟩ := HC0.out; obtain ⟨l1, u0, u1, u2, u3, v0, v1, v2, v3⟩ := HC1.out; have hHP := Lib.hid (box_new w2 q k (.slice a3 (n + 1) c3) (.slice a4 n2 c4)); have d1 := (bW2.out.cell (p := ⟨g, o + n, none⟩) HGL.out).trans D1.out; have hg2 : g < w2.heap.size := (by have := HGL.out; omega); obtain ⟨g3, e3, hg3B, hg3, hn3, hm3, hf3, hc3⟩ := own_spot HO.out.1; subst e3; unfold maxLen at hm3; have hfn := hf3 n; have HF := Lib.hid hf3; have hgp : g3 ≠ w2.heap.size := Nat.ne_of_lt hg3; have hxc : w2.cell? ⟨g3, n, none⟩ = some (.int .i64 X) := (hc3 n _ (by rw [cellsZ_at ls n (by rw [N1.out]; omega), HXX.out])); clear ho hb2 hf3 hc3)))
            exact bodyPost_ret (v := .tuple #[.agg #[.int .i64 q, .slice (some ⟨g3, 0, none⟩) (n + 1) c3, .int .i64 k, .slice a4 n2 c4], .int .i64 0]) (by simp [results, Tryd.results29, go_sem, *]) rfl ⟨_, _, rfl, (list_end HO.out N1.out.symm hs1 bW2.out (Nat.le_of_lt hu) (by omega) _ _ _ _ _ _).1, (list_end HO.out N1.out.symm hs1 bW2.out (Nat.le_of_lt hu) (by omega) _ _ _ _ _ _).2⟩

end Go.Proofs.YtmlipcedkgfmiaaDoor
