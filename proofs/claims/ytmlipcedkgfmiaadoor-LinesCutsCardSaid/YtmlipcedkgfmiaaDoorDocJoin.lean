/-
  The document's Join.
-/
import Derived.Test.YtmlipcedkgfmiaaDoorDocOps
import Derived.Test.YtmlipcedkgfmiaaDoorJoin
namespace Go.Proofs.YtmlipcedkgfmiaaDoor
open Go.RowKit Go.Lib

theorem own_apart2 {w : World} {B D n m : Nat} {v u : Value} {xs ys : List Value} (h1 : w.ownsRow B 3 1 v n xs) (h2 : w.ownsRow D 44 3 u m ys) (g : Nat) (e2 : u.ownBlock = some g) : v.ownBlock ≠ some g := fun e1 => own_apart h1 h2 g e1 e2

set_option maxRecDepth 20000 in
set_option maxHeartbeats 16000000 in
theorem Join_doc (q k q2 k2 : Int) (sl sc sl2 sc2 : Value) (ls ls2 : IRow) (cs cs2 : Row) (w : World) (h : LnAt w sl sc ls cs) (hls : ls.length ≤ 50000) (hcs : cs.length ≤ 50000) (hf : Fair cs) (hh : LnAt w sl2 sc2 ls2 cs2) (hcs2 : cs2.length ≤ 50000) (hf2 : Fair cs2) :
    Calls Tryd.prog 23 #[.agg #[.int .i64 q, sl, .int .i64 k, sc], .agg #[.int .i64 q2, sl2, .int .i64 k2, sc2]] w (DocPost (opS (joinS ⟨q2, ls2, k2, cs2⟩) ⟨q, ls, k, cs⟩) w) := by
  obtain ⟨a1, c1, rfl⟩ := h.z.len
  obtain ⟨a2, c2, rfl⟩ := h.r.len
  obtain ⟨a7, c7, rfl⟩ := hh.z.len
  obtain ⟨a8, c8, rfl⟩ := hh.r.len
  have cM : ∀ w1, Below w.heap.size w w1 → Calls Tryd.prog 13 #[.agg #[.int .i64 q, .slice a1 ls.length c1, .int .i64 k, .slice a2 cs.length c2]] w1 fun e w' => e = .returned (.bool (mayS ⟨q, ls, k, cs⟩)) ∧ Below w1.heap.size w1 w' := fun w1 h1 => rlmay_any q k _ _ ls cs w1 (h.below h1) hcs hf
  have cN : ∀ w1, Below w.heap.size w w1 → Calls Tryd.prog 13 #[.agg #[.int .i64 q2, .slice a7 ls2.length c7, .int .i64 k2, .slice a8 cs2.length c8]] w1 fun e w' => e = .returned (.bool (mayS ⟨q2, ls2, k2, cs2⟩)) ∧ Below w1.heap.size w1 w' := fun w1 h1 => rlmay_any q2 k2 _ _ ls2 cs2 w1 (hh.below h1) hcs2 hf2
  have cO : ∀ w1, Below w.heap.size w w1 → Calls Tryd.prog 11 #[.agg #[.int .i64 q, .slice a1 ls.length c1, .int .i64 k, .slice a2 cs.length c2]] w1 fun e w' => ∃ sl' sc', e = .returned (.agg #[.int .i64 q, sl', .int .i64 k, sc']) ∧ OwnLn w1.heap.size w' sl' sc' ls cs ∧ Below w1.heap.size w1 w' := fun w1 h1 => rlown_any q k _ _ ls cs w1 (h.below h1) hls hcs
  have HX := Lib.hid (box_threeL w q k 0 0 q2 k2 (.slice a1 ls.length c1) (.slice a2 cs.length c2) (.slice none 0 0) (.slice none 0 0) (.slice a7 ls2.length c7) (.slice a8 cs2.length c8))
  unfold opS joinS
  have HR2 := Lib.hid hh.r
  obtain ⟨n1, hn1⟩ : ∃ n, ls.length = n := ⟨_, rfl⟩
  obtain ⟨n2, hn2⟩ : ∃ n, cs.length = n := ⟨_, rfl⟩
  obtain ⟨n7, hn7⟩ : ∃ n, ls2.length = n := ⟨_, rfl⟩
  obtain ⟨n8, hn8⟩ : ∃ n, cs2.length = n := ⟨_, rfl⟩
  have N1 := Lib.hid hn1
  have N2 := Lib.hid hn2
  have N8 := Lib.hid hn8
  rw [hn1] at cM cO HX ⊢
  rw [hn2] at cM cO HX hcs ⊢
  rw [hn7] at cN HX ⊢
  rw [hn8] at cN HX HR2 hcs2 ⊢
  have hu : w.heap.size ≤ w.heap.size + 1 + 1 := by omega
  obtain ⟨M, hM⟩ : ∃ M, mayS ⟨q, ls, k, cs⟩ = M := ⟨_, rfl⟩
  obtain ⟨M2, hM2⟩ : ∃ M, mayS ⟨q2, ls2, k2, cs2⟩ = M := ⟨_, rfl⟩
  rw [hM] at cM ⊢
  rw [hM2] at cN ⊢
  have E12 : Hid ((cs ++ cs2).length = n2 + n8) := Lib.hid (by rw [List.length_append, hn2, hn8])
  clear h hh hls hf hf2 hn1 hn2 hn7 hn8 hM hM2
  cases M with
  | false =>
    rw [if_neg (by decide)]
    go_enter Tryd.func23, Tryd.ntmps23
    go_wp2_with (first
      | (go_at_call 13; ((with_reducible refine (cM _ HX.out.1).mono ?_); rintro e w1 ⟨rfl, hb⟩; obtain ⟨b2, B0, B2, B1⟩ := HX.out; have bW := Lib.hid (b2.trans (hb.mono b2.size)); have HB0 := Lib.hid (B0.below hb); have HB1 := Lib.hid (B1.below hb); have HB2 := Lib.hid (B2.below hb); have hs1 := HB2.out.lt; obtain ⟨l0, x0, x1, x2, x3, _, _, _, _⟩ := HB0.out; obtain ⟨l1, y0, y1, y2, y3, _, _, _, _⟩ := HB1.out; obtain ⟨l2, u0, u1, u2, u3, v0, v1, v2, v3⟩ := HB2.out; clear b2 B0 B1 B2 hb)))
    exact bodyPost_ret (v := .tuple #[.agg #[.int .i64 0, .slice none 0 0, .int .i64 0, .slice none 0 0], .int .i64 1]) (by simp [results, Tryd.results23, go_sem, *]) rfl ⟨_, _, rfl, own_nil _ _, put4_below bW.out hu⟩
  | true =>
    rw [if_pos rfl]
    cases M2 with
    | false =>
      rw [if_neg (by decide)]
      go_enter Tryd.func23, Tryd.ntmps23
      go_wp2_with (first
        | (go_at_call 13; ((with_reducible refine (cM _ HX.out.1).mono ?_); rintro e w1 ⟨rfl, hb⟩; obtain ⟨b2, B0, B2, B1⟩ := HX.out; have bW := Lib.hid (b2.trans (hb.mono b2.size)); have HB0 := Lib.hid (B0.below hb); have HB1 := Lib.hid (B1.below hb); have HB2 := Lib.hid (B2.below hb); have hs1 := HB2.out.lt; obtain ⟨l0, x0, x1, x2, x3, _, _, _, _⟩ := HB0.out; obtain ⟨l1, y0, y1, y2, y3, _, _, _, _⟩ := HB1.out; obtain ⟨l2, u0, u1, u2, u3, v0, v1, v2, v3⟩ := HB2.out; clear b2 B0 B1 B2 hb))
        | (go_at_call 13; ((with_reducible refine (cN _ bW.out).mono ?_); rintro e w2 ⟨rfl, hb⟩; have hs2 := hb.size; have bV := Lib.hid (bW.out.trans (hb.mono (by omega))); have HC0 := Lib.hid (HB0.out.below hb); have HC1 := Lib.hid (HB1.out.below hb); have HC2 := Lib.hid (HB2.out.below hb); obtain ⟨l0, x0, x1, x2, x3, _, _, _, _⟩ := HC0.out; obtain ⟨l1, y0, y1, y2, y3, _, _, _, _⟩ := HC1.out; obtain ⟨l2, u0, u1, u2, u3, v0, v1, v2, v3⟩ := HC2.out; have hs3 := HC2.out.lt; clear hb)))
      exact bodyPost_ret (v := .tuple #[.agg #[.int .i64 0, .slice none 0 0, .int .i64 0, .slice none 0 0], .int .i64 1]) (by simp [results, Tryd.results23, go_sem, *]) rfl ⟨_, _, rfl, own_nil _ _, put4_below bV.out hu⟩
    | true =>
      rw [if_pos rfl]
      go_enter Tryd.func23, Tryd.ntmps23
      go_wp2_with (first
        | (go_at_call 13; ((with_reducible refine (cM _ HX.out.1).mono ?_); rintro e w1 ⟨rfl, hb⟩; obtain ⟨b2, B0, B2, B1⟩ := HX.out; have bW := Lib.hid (b2.trans (hb.mono b2.size)); have HB0 := Lib.hid (B0.below hb); have HB1 := Lib.hid (B1.below hb); have HB2 := Lib.hid (B2.below hb); have hs1 := HB2.out.lt; obtain ⟨l0, x0, x1, x2, x3, _, _, _, _⟩ := HB0.out; obtain ⟨l1, y0, y1, y2, y3, _, _, _, _⟩ := HB1.out; obtain ⟨l2, u0, u1, u2, u3, v0, v1, v2, v3⟩ := HB2.out; clear b2 B0 B1 B2 hb))
        | (go_at_call 13; ((with_reducible refine (cN _ bW.out).mono ?_); rintro e w2 ⟨rfl, hb⟩; have hs2 := hb.size; have bV := Lib.hid (bW.out.trans (hb.mono (by omega))); have HC0 := Lib.hid (HB0.out.below hb); have HC1 := Lib.hid (HB1.out.below hb); have HC2 := Lib.hid (HB2.out.below hb); obtain ⟨l0, x0, x1, x2, x3, _, _, _, _⟩ := HC0.out; obtain ⟨l1, y0, y1, y2, y3, _, _, _, _⟩ := HC1.out; obtain ⟨l2, u0, u1, u2, u3, v0, v1, v2, v3⟩ := HC2.out; have hs3 := HC2.out.lt; clear hb))
        | (go_at_call 11; ((with_reducible refine (cO _ bV.out).mono ?_); rintro e w3 ⟨sl', sc', rfl, ho, hb2⟩; have hs4 := hb2.size; have bU := Lib.hid (bV.out.trans (hb2.mono (by omega))); have HO := Lib.hid ho; have HBB := Lib.hid hb2; obtain ⟨a3, c3, e3⟩ := own_len ho.1; obtain ⟨a4, c4, e4⟩ := own_len ho.2; rw [N1.out] at e3; rw [N2.out] at e4; subst e3 e4; have HD1 := Lib.hid (HC1.out.below hb2); have HD2 := Lib.hid (HC2.out.below hb2); obtain ⟨l1, y0, y1, y2, y3, _, _, _, _⟩ := HD1.out; obtain ⟨l2, u0, u1, u2, u3, v0, v1, v2, v3⟩ := HD2.out; have bA := Lib.hid ((Below.refl w3.heap.size w3).alloc (Nat.le_refl _) (.cells #[.int .i64 q, .slice a3 n1 c3, .int .i64 k, .slice a4 n2 c4] 25)); have HOB := Lib.hid (HO.out.below bA.out); have HPB0 := Lib.hid (World.alloc_heap_new w3 (.cells #[.int .i64 q, .slice a3 n1 c3, .int .i64 k, .slice a4 n2 c4] 25)); have HRB := Lib.hid (HR2.out.below (bU.out.trans (bA.out.mono (by omega)))); clear ho hb2))
        | (at_builtin; refine wpList_append_row rfl _ _ rfl w2.heap.size _ cs rfl HOB.out.2 _ cs2 rfl HRB.out (by have := N2.out; have := N8.out; omega) (by first | omega | (simp <;> omega)) ?_; intro v4 w4 own4 grow4; have hgB := (own_grown grow4 HOB.out.1 (fun g e => own_apart2 HOB.out.1 HOB.out.2 g e)); have HOZ := Lib.hid hgB; have HW4 := Lib.hid (below_grown (B := w.heap.size) (bU.out.trans (bA.out.mono (by omega))) (by first | omega | (simp <;> omega)) (HOB.out.2.mono (show w.heap.size ≤ w2.heap.size by omega)) grow4); have HPB := Lib.hid ((grow4.block w3.heap.size (by simp <;> omega) (fun e => own_ne2 HO.out.2 (Nat.le_refl _) e.symm)).trans HPB0.out); have HOC := Lib.hid own4; obtain ⟨a5, c5, e5⟩ := own_len own4; rw [E12.out] at e5; subst e5; obtain ⟨_, g0, g1, g2, g3, g4, g5, g6, g7⟩ := box_blk HPB.out; have bT := Lib.hid (below_grown (B := w2.heap.size) (HBB.out.trans (bA.out.mono (by omega))) (by first | omega | (simp <;> omega)) HOB.out.2 grow4); obtain ⟨_, u0, u1, u2, u3, v0, v1, v2, v3⟩ := HC2.out.below bT.out; clear own4 grow4 hgB))
      have hE := doc_two (w := w) (r := w.heap.size + 1 + 1) (p := w3.heap.size) (j := 3) HW4.out hu (by omega) (show w.heap.size ≤ w2.heap.size by omega) (show w.heap.size ≤ w2.heap.size by omega) HOZ.out HOC.out (own_ne HOZ.out hs3) (own_ne3 HOZ.out HPB.out (by decide)) (own_ne HOC.out hs3) (own_ne3 HOC.out HPB.out (by decide)) q k (.slice a3 n1 c3) (.slice a5 (n2 + n8) c5) (.slice a5 (n2 + n8) c5)
      exact bodyPost_ret (v := .tuple #[.agg #[.int .i64 q, .slice a3 n1 c3, .int .i64 k, .slice a5 (n2 + n8) c5], .int .i64 0]) (by simp [results, Tryd.results23, go_sem, *]) rfl ⟨_, _, rfl, hE.1, hE.2⟩

end Go.Proofs.YtmlipcedkgfmiaaDoor
