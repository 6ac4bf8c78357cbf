/-
  The program's Join.
-/
import Derived.Test.YtmlipcedkgfmiaaDoorTop
import Derived.Test.YtmlipcedkgfmiaaDoorPart
namespace Go.Proofs.YtmlipcedkgfmiaaDoor
open Go.RowKit Go.Lib

def joinS (M L : Ln) : Int × Ln := if mayS M = true then (0, { L with cs := L.cs ++ M.cs }) else (1, ln0)
theorem joinS_err (M L : Ln) : (joinS M L).1 ≠ 0 → (joinS M L).2 = ln0 := by unfold joinS; split <;> simp
/-- New cells are laid into the line's box. -/
theorem mine_newR {B C D b j : Nat} {w w' : World} {sl v sc : Value} {ls : IRow} {cs cs' : Row} (h : MineLn B C w sl sc ls cs) (hbw : Below w.heap.size w w') (ho : w'.ownsRow D 44 3 v cs'.length (cellsR cs')) (hD : w.heap.size ≤ D) (hC : C ≤ b) (hb : b < w.heap.size) (hB : B ≤ C) (u : Value) :
    MineLn B (w'.setCell ⟨b, j, none⟩ u).heap.size (w'.setCell ⟨b, j, none⟩ u) sl v ls cs' := by
  have hs := hbw.size
  have hz := (mineR_of_own ho).mono hD (Nat.le_refl _)
  refine ⟨((h.z.kept (kept_of_below hbw)).kept (kept_set w' ⟨b, j, none⟩ u (.inr hC))).mono (Nat.le_refl _) (by simp [World.setCell]; omega), (hz.kept (kept_set w' ⟨b, j, none⟩ u (.inl hb))).mono (by omega) (by simp [World.setCell]), ?_⟩
  intro h1 h2 g o n c g' o' n' c' e e' hgg
  have k1 := (hz.mine h2 _ _ _ _ e').1
  have k2 := (h.z.mine h1 _ _ _ _ e).2.1
  omega

set_option maxRecDepth 20000 in
set_option maxHeartbeats 8000000 in
theorem join_do (q k q2 k2 : Int) (sl sc sl2 sc2 : Value) (ls ls2 : IRow) (cs cs2 : Row) (B C b K : Nat) (w : World) (HB : BoxAt w b q sl k sc) (HM : MineLn B C w sl sc ls cs) (hBC : B ≤ C) (hC : C ≤ b) (hcs : cs.length ≤ 50000)
    (HK : BoxAt w K q2 sl2 k2 sc2) (h2 : LnAt w sl2 sc2 ls2 cs2) (hls2 : ls2.length ≤ 50000) (hcs2 : cs2.length ≤ 50000) (hf : Fair cs2) (hE : Tg.Env w) :
    Calls Tryd.prog 50 #[.pointer (some ⟨b, 0, none⟩), .pointer (some ⟨K, 0, none⟩)] w (DoPost B b (joinS ⟨q2, ls2, k2, cs2⟩ ⟨q, ls, k, cs⟩) w) := by
  have hbl := HB.lt
  have HB' := Lib.hid HB
  have HM' := Lib.hid HM
  obtain ⟨a2, c2, e2⟩ := HM.r.here.len
  obtain ⟨a3, c3, e3⟩ := h2.z.len
  obtain ⟨a4, c4, e4⟩ := h2.r.len
  subst e2 e3 e4
  have cM := lmay_any q2 k2 _ _ ls2 cs2 w h2 hls2 hcs2 hf hE
  have cI : ∀ w1, Below w.heap.size w w1 → Calls Tryd.prog 51 #[.slice a2 cs.length c2, .int .i64 (cs.length : Int), .slice a4 cs2.length c4] w1 (RowPost (cs ++ cs2) w1) := fun w1 h1 => by
    have := insert_on _ _ cs cs2 cs.length w1 (HM.r.here.below h1) (h2.r.below h1) hcs hcs2 (Nat.le_refl _)
    rw [List.take_length, List.drop_length, List.append_nil] at this
    exact this
  have HK' := Lib.hid HK
  unfold joinS
  obtain ⟨M, hM⟩ : ∃ M, mayS ⟨q2, ls2, k2, cs2⟩ = M := ⟨_, rfl⟩
  rw [hM] at cM ⊢
  obtain ⟨n2, hn2⟩ : ∃ n, cs.length = n := ⟨_, rfl⟩
  obtain ⟨n3, hn3⟩ : ∃ n, ls2.length = n := ⟨_, rfl⟩
  obtain ⟨n4, hn4⟩ : ∃ n, cs2.length = n := ⟨_, rfl⟩
  rw [hn2] at cI HB' HM'
  rw [hn3] at cM HK'
  rw [hn4] at cM cI HK'
  obtain ⟨_, p0, p1, p2, p3, _, _, _, _⟩ := HK'.out
  have HN : Hid ((cs ++ cs2).length = n2 + n4) := Lib.hid (by rw [List.length_append, hn2, hn4])
  clear h2 hls2 hcs2 hf hE hM hn2 hn3 hn4 HK HB HM
  cases M with
  | false =>
    rw [if_neg (by decide)]
    clear cI
    go_enter Tryd.func50, Tryd.ntmps50
    go_wp2_with (go_at_call 12; ((with_reducible refine cM.mono ?_); rintro e w1 ⟨rfl, hb⟩))
    go_ret
    exact ⟨rfl, hb.mono (by omega), fun h => absurd h (by decide)⟩
  | true =>
    rw [if_pos rfl]
    go_enter Tryd.func50, Tryd.ntmps50
    go_wp2_with (go_at_call 12; ((with_reducible refine cM.mono ?_); rintro e w1 ⟨rfl, hb⟩; have hbs := hb.size; have HW := Lib.hid hb; obtain ⟨l0, x0, x1, x2, x3, y0, y1, y2, y3⟩ := HB'.out.below hb; obtain ⟨_, z0, z1, z2, z3, _, _, _, _⟩ := HK'.out.below hb; clear cM hb p0 p1 p2 p3))
    go_region_with (go_at_call 51; ((with_reducible refine (cI _ ?hb).mono ?_); (case hb => exact HW.out.drew); rintro e w2 ⟨v, rfl, ho, hb2⟩; have hbw := Lib.hid (HW.out.trans ((show Below w1.heap.size w1 w1.drew from (Below.refl _ _).drew).trans hb2 |>.mono hbs)); rw [HN.out] at ho; obtain ⟨a7, c7, e7⟩ := own_len ho; subst e7; have HO := Lib.hid ho; have hs2 := hb2.size; obtain ⟨l1, u0, u1, u2, u3, v0, v1, v2, v3⟩ := HB'.out.below hbw.out; clear ho hb2))
    all_goals clear cI
    all_goals go_wp2
    all_goals go_ret
    all_goals exact ⟨rfl, (hbw.out.mono (by omega)).trans (below_box hBC hC _), fun _ => ⟨_, _, (HB'.out.below hbw.out).set3 _, mine_newR HM'.out hbw.out (by rw [HN.out]; exact HO.out) hbs hC hbl hBC _⟩⟩

theorem box_threeL (w : World) (q k q' k' q2 k2 : Int) (sl sc sl' sc' sl2 sc2 : Value) :
    Below w.heap.size w (((w.alloc (.cells #[.int .i64 q, sl, .int .i64 k, sc] 25)).alloc (.cells #[.int .i64 q2, sl2, .int .i64 k2, sc2] 25)).alloc (.cells #[.int .i64 q', sl', .int .i64 k', sc'] 25)) ∧
    BoxAt (((w.alloc (.cells #[.int .i64 q, sl, .int .i64 k, sc] 25)).alloc (.cells #[.int .i64 q2, sl2, .int .i64 k2, sc2] 25)).alloc (.cells #[.int .i64 q', sl', .int .i64 k', sc'] 25)) w.heap.size q sl k sc ∧
    BoxAt (((w.alloc (.cells #[.int .i64 q, sl, .int .i64 k, sc] 25)).alloc (.cells #[.int .i64 q2, sl2, .int .i64 k2, sc2] 25)).alloc (.cells #[.int .i64 q', sl', .int .i64 k', sc'] 25)) (w.heap.size + 1 + 1) q' sl' k' sc' ∧
    BoxAt (((w.alloc (.cells #[.int .i64 q, sl, .int .i64 k, sc] 25)).alloc (.cells #[.int .i64 q2, sl2, .int .i64 k2, sc2] 25)).alloc (.cells #[.int .i64 q', sl', .int .i64 k', sc'] 25)) (w.heap.size + 1) q2 sl2 k2 sc2 := by
  obtain ⟨h1, h2, h3⟩ := box_two w q k q2 k2 sl sc sl2 sc2
  have hs : ((w.alloc (.cells #[.int .i64 q, sl, .int .i64 k, sc] 25)).alloc (.cells #[.int .i64 q2, sl2, .int .i64 k2, sc2] 25)).heap.size = w.heap.size + 1 + 1 := by simp
  have h := box_new ((w.alloc (.cells #[.int .i64 q, sl, .int .i64 k, sc] 25)).alloc (.cells #[.int .i64 q2, sl2, .int .i64 k2, sc2] 25)) q' k' sl' sc'
  rw [hs] at h
  exact ⟨h1.alloc (by omega) _, h2.below ((Below.refl _ _).alloc (Nat.le_refl _) _), h, h3.below ((Below.refl _ _).alloc (Nat.le_refl _) _)⟩

set_option maxRecDepth 20000 in
set_option maxHeartbeats 8000000 in
theorem Join_any (q k q2 k2 : Int) (sl sc sl2 sc2 : Value) (ls ls2 : IRow) (cs cs2 : Row) (w : World) (h : LnAt w sl sc ls cs) (hls : ls.length ≤ 50000) (hcs : cs.length ≤ 50000) (hf : Fair cs) (hE : Tg.Env w)
    (hh : LnAt w sl2 sc2 ls2 cs2) (hls2 : ls2.length ≤ 50000) (hcs2 : cs2.length ≤ 50000) (hf2 : Fair cs2) :
    Calls Tryd.prog 22 #[.agg #[.int .i64 q, sl, .int .i64 k, sc], .agg #[.int .i64 q2, sl2, .int .i64 k2, sc2]] w (AskPost (opS (joinS ⟨q2, ls2, k2, cs2⟩) ⟨q, ls, k, cs⟩) w) := by
  obtain ⟨a1, c1, rfl⟩ := h.z.len
  obtain ⟨a2, c2, rfl⟩ := h.r.len
  obtain ⟨a3, c3, rfl⟩ := hh.z.len
  obtain ⟨a4, c4, rfl⟩ := hh.r.len
  have HX := Lib.hid (box_threeL w q k 0 0 q2 k2 (.slice a1 ls.length c1) (.slice a2 cs.length c2) (.slice none 0 0) (.slice none 0 0) (.slice a3 ls2.length c3) (.slice a4 cs2.length c4))
  have cK : ∀ (w1 : World) (D : Nat), Below w.heap.size w w1 → w1.cell? ⟨D, 0, none⟩ = some (.func (.func 50) #[] #[.pointer (some ⟨w.heap.size + 1, 0, none⟩)]) → BoxAt w1 (w.heap.size + 1) q2 (.slice a3 ls2.length c3) k2 (.slice a4 cs2.length c4) → Calls Tryd.prog 66 #[.agg #[.int .i64 q, .slice a1 ls.length c1, .int .i64 k, .slice a2 cs.length c2], .pointer (some ⟨D, 0, none⟩)] w1 (AskPost (opS (joinS ⟨q2, ls2, k2, cs2⟩) ⟨q, ls, k, cs⟩) w1) :=
    fun w1 D h1 h2 hK => ask_join q k _ _ ls cs D (w.heap.size + 1) w1 (h.below h1) hls hcs hf (hE.below h1) h2 (joinS ⟨q2, ls2, k2, cs2⟩ ⟨q, ls, k, cs⟩) (joinS_err ⟨q2, ls2, k2, cs2⟩ ⟨q, ls, k, cs⟩) (fun hM w2 b B C sl' sc' h3 h4 h5 h6 h7 h8 => join_do q k q2 k2 sl' sc' _ _ ls ls2 cs cs2 B C b (w.heap.size + 1) w2 h4 h5 h6 h7 hcs (hK.below h3) (hh.below (h1.trans (h3.mono h1.size))) hls2 hcs2 hf2 (hE.below (h1.trans (h3.mono h1.size))))
  obtain ⟨R, hR⟩ : ∃ R, opS (joinS ⟨q2, ls2, k2, cs2⟩) ⟨q, ls, k, cs⟩ = R := ⟨_, rfl⟩
  rw [hR] at cK ⊢
  obtain ⟨n1, hn1⟩ : ∃ n, ls.length = n := ⟨_, rfl⟩
  obtain ⟨n2, hn2⟩ : ∃ n, cs.length = n := ⟨_, rfl⟩
  obtain ⟨n3, hn3⟩ : ∃ n, ls2.length = n := ⟨_, rfl⟩
  obtain ⟨n4, hn4⟩ : ∃ n, cs2.length = n := ⟨_, rfl⟩
  rw [hn1] at cK HX ⊢
  rw [hn2] at cK HX ⊢
  rw [hn3] at cK HX ⊢
  rw [hn4] at cK HX ⊢
  clear h hls hcs hf hE hn1 hn2 hn3 hn4 hh hls2 hcs2 hf2 hR
  have cA := asking_any
  obtain ⟨code, q', ls', k', cs'⟩ := R
  go_enter Tryd.func22, Tryd.ntmps22
  go_wp2
  obtain ⟨W, hW⟩ : ∃ W, (((w.alloc (.cells #[.int .i64 q, .slice a1 n1 c1, .int .i64 k, .slice a2 n2 c2] 25)).alloc (.cells #[.int .i64 q2, .slice a3 n3 c3, .int .i64 k2, .slice a4 n4 c4] 25)).alloc (.cells #[.int .i64 0, .slice none 0 0, .int .i64 0, .slice none 0 0] 25)) = W := ⟨_, rfl⟩
  rw [hW] at HX ⊢
  obtain ⟨bW, B0, B1, BK⟩ := HX.out
  have HB0 := Lib.hid B0
  have HB1 := Lib.hid B1
  have HBK := Lib.hid BK
  have hr0 := B1.lt
  obtain ⟨l0, x0, x1, x2, x3, _, _, _, _⟩ := B0
  have bWs := bW.size
  have HbW := Lib.hid bW
  clear B1 BK hW HX bW
  go_region_with (first
    | (go_at_call 47; ((with_reducible refine (cA _ _ _).mono ?_); rintro e w1 ⟨rfl, rfl⟩))
    | (go_at_call 66; ((with_reducible refine (cK _ _ ?hb ?hd ?hk).mono ?_); (case hb => exact HbW.out.trans (Below.mono (show Below W.heap.size W _ by (repeat (first | (with_reducible exact Below.refl _ _) | assumption | (with_reducible refine Below.drew ?_) | (with_reducible refine Below.alloc ?_ ?_ _) | omega | (simp <;> omega)))) bWs)); (case hd => simp [go_sem]); (case hk => exact HBK.out.below (show Below W.heap.size W _ by (repeat (first | (with_reducible exact Below.refl _ _) | assumption | (with_reducible refine Below.drew ?_) | (with_reducible refine Below.alloc ?_ ?_ _) | omega | (simp <;> omega))))); rintro e w2 ⟨sl3, sc3, rfl, hm, hb2⟩; dsimp only at hm; obtain ⟨a5, c5, e5⟩ := hm.z.here.len; obtain ⟨a6, c6, e6⟩ := hm.r.here.len; subst e5 e6; have hbw := Lib.hid ((show Below W.heap.size W _ by (repeat (first | (with_reducible exact Below.refl _ _) | assumption | (with_reducible refine Below.drew ?_) | (with_reducible refine Below.alloc ?_ ?_ _) | omega | (simp <;> omega)))).trans (hb2.mono (by first | omega | (simp <;> omega)))); have HM := Lib.hid (hm.mono (show W.heap.size ≤ _ by first | omega | (simp <;> omega)) (Nat.le_refl _)); obtain ⟨l1, u0, u1, u2, u3, v0, v1, v2, v3⟩ := HB1.out.below hbw.out; clear hm hb2)))
  all_goals clear cK cA
  all_goals go_wp2
  all_goals exact bodyPost_ret (v := .tuple #[.agg #[.int .i64 q', .slice a5 ls'.length c5, .int .i64 k', .slice a6 cs'.length c6], .int .i64 code]) (by simp [results, Tryd.results22, go_sem, *]) rfl ⟨_, _, rfl, mine_put4 HM.out (Nat.le_refl _) bWs hr0, put4_below (HbW.out.trans (hbw.out.mono bWs)) (by omega)⟩

end Go.Proofs.YtmlipcedkgfmiaaDoor
