/-
  The program's Own, Frame.
-/
import Derived.Test.YtafincmcmgedbaaGreatDoorCAppG

namespace Go.Proofs.YtafincmcmgedbaaGreatDoor
open Go.RowKit Go.Lib

set_option maxRecDepth 20000 in
set_option maxHeartbeats 8000000 in
theorem lown_any (q k : Int) (sl sc : Value) (ls : IRow) (cs : Row) (w : World) (hz : IntsAt w sl ls) (hr : RowAt w sc cs) (hls : ls.length ≤ 50000) (hcs : cs.length ≤ 50000) :
    Calls Tryz.prog 68 #[.agg #[.int .i64 q, sl, .int .i64 k, sc]] w fun e w' => ∃ sl' sc', e = .returned (.agg #[.int .i64 q, sl', .int .i64 k, sc']) ∧ OwnLn w.heap.size w' sl' sc' ls cs ∧ Below w.heap.size w w' := by
  obtain ⟨a1, c1, rfl⟩ := hz.len
  obtain ⟨a2, c2, rfl⟩ := hr.len
  obtain ⟨hbW, hB0, hB1⟩ := box_two w q k 0 0 (.slice a1 ls.length c1) (.slice a2 cs.length c2) (.slice none 0 0) (.slice none 0 0)
  have hHX := fun W (h : ((w.alloc (.cells #[.int .i64 q, .slice a1 ls.length c1, .int .i64 k, .slice a2 cs.length c2] 46)).alloc (.cells #[.int .i64 0, .slice none 0 0, .int .i64 0, .slice none 0 0] 46)) = W) => (h ▸ ⟨hbW, hB0, hB1⟩ : Below w.heap.size w W ∧ BoxAt W w.heap.size q (.slice a1 ls.length c1) k (.slice a2 cs.length c2) ∧ BoxAt W (w.heap.size + 1) 0 (.slice none 0 0) 0 (.slice none 0 0))
  have hZ := Lib.hid hz
  have hR := Lib.hid hr
  obtain ⟨n1, hn1⟩ : ∃ n, ls.length = n := ⟨_, rfl⟩
  obtain ⟨n2, hn2⟩ : ∃ n, cs.length = n := ⟨_, rfl⟩
  have N1 := Lib.hid hn1
  have N2 := Lib.hid hn2
  rw [hn1] at hHX hls hZ ⊢
  rw [hn2] at hHX hcs hR ⊢
  clear hz hr hbW hB0 hB1 hn1 hn2
  go_enter Tryz.func68, Tryz.ntmps68
  go_wp2
  obtain ⟨W, hW⟩ : ∃ W, ((w.alloc (.cells #[.int .i64 q, .slice a1 n1 c1, .int .i64 k, .slice a2 n2 c2] 46)).alloc (.cells #[.int .i64 0, .slice none 0 0, .int .i64 0, .slice none 0 0] 46)) = W := ⟨_, rfl⟩
  obtain ⟨bW, B0, B1⟩ := hHX W hW
  rw [hW]
  clear hW hHX
  have cZ : ∀ (g : Nat) (w1 : World), w1.cell? ⟨g, 0, none⟩ = some (.slice a1 n1 c1) → Below W.heap.size W w1 → Calls Tryz.prog 106 #[.slice (some ⟨g, 0, none⟩) 1 1] w1 (OwnPostZ ls w1) := fun g w1 h1 h2 => concatZ g _ ls w1 h1 (hZ.out.below (bW.trans (h2.mono bW.size))) (by rw [N1.out]; omega)
  have cR : ∀ (g : Nat) (w1 : World), w1.cell? ⟨g, 0, none⟩ = some (.slice a2 n2 c2) → Below W.heap.size W w1 → Calls Tryz.prog 77 #[.slice (some ⟨g, 0, none⟩) 1 1] w1 (OwnPost cs w1) := fun g w1 h1 h2 => concat1 g _ cs w1 h1 (hR.out.below (bW.trans (h2.mono bW.size))) (by rw [N2.out]; omega)
  have hb : Below W.heap.size W W := Below.refl _ _
  have HB0 := Lib.hid B0
  have HB1 := Lib.hid B1
  obtain ⟨l0, x0, x1, x2, x3, y0, y1, y2, y3⟩ := B0
  have bWs := bW.size
  have l1 := B1.lt
  clear B1
  go_region_with (first
    | (go_at_call 106; ((with_reducible refine (cZ _ _ ?hc ?hb).mono ?_); (case hc => first | (simp [go_sem]; done) | exact (hb1.cell (by simp [go_sem])).trans (by simp [go_sem])); (case hb => (repeat (first | (with_reducible exact Below.refl _ _) | assumption | (with_reducible refine Below.drew ?_) | (with_reducible refine Below.alloc ?_ ?_ _) | omega | (simp <;> omega)))); rintro e w1 ⟨v1, rfl, own1, hb1⟩; rw [N1.out] at own1; obtain ⟨a3, c3, rfl⟩ := own_len own1; have O1 := Lib.hid own1; clear own1; replace hb := (show Below W.heap.size W _ by (repeat (first | (with_reducible exact Below.refl _ _) | assumption | (with_reducible refine Below.drew ?_) | (with_reducible refine Below.alloc ?_ ?_ _) | omega | (simp <;> omega)))).trans (hb1.mono (by first | omega | (simp <;> omega))); have hs1 := hb.size; replace x1 := (HB0.out.below hb).c1; replace x3 := (HB0.out.below hb).c3))
    | (go_at_call 77; ((with_reducible refine (cR _ _ ?hc ?hb).mono ?_); (case hc => first | (simp [go_sem]; done) | exact (hb1.cell (by simp [go_sem])).trans (by simp [go_sem])); (case hb => (repeat (first | (with_reducible exact Below.refl _ _) | assumption | (with_reducible refine Below.drew ?_) | (with_reducible refine Below.alloc ?_ ?_ _) | omega | (simp <;> omega)))); rintro e w2 ⟨v2, rfl, own2, hb2⟩; rw [N2.out] at own2; obtain ⟨a4, c4, rfl⟩ := own_len own2; have O2 := Lib.hid own2; clear own2; replace hb := (show Below W.heap.size W _ by (repeat (first | (with_reducible exact Below.refl _ _) | assumption | (with_reducible refine Below.drew ?_) | (with_reducible refine Below.alloc ?_ ?_ _) | omega | (simp <;> omega)))).trans (hb2.mono (by first | omega | (simp <;> omega))); have hs2 := hb.size; replace x1 := (HB0.out.below hb).c1; replace x3 := (HB0.out.below hb).c3; replace y1 := (HB0.out.below hb).f1; replace y3 := (HB0.out.below hb).f3; replace x0 := (HB0.out.below hb).c0; replace x2 := (HB0.out.below hb).c2; obtain ⟨m0, r0, r1, r2, r3, s0, s1, s2, s3⟩ := HB1.out.below hb; have P1 := Lib.hid ((ownsRow_below O1.out ((show Below w1.heap.size w1 _ by (repeat (first | (with_reducible exact Below.refl _ _) | assumption | (with_reducible refine Below.drew ?_) | (with_reducible refine Below.alloc ?_ ?_ _) | omega | (simp <;> omega)))).trans (hb2.mono (by first | omega | (simp <;> omega))))).mono (show W.heap.size ≤ _ by first | omega | (simp <;> omega))); have P2 := Lib.hid (O2.out.mono (show W.heap.size ≤ _ by first | omega | (simp <;> omega))); clear O1 O2 hb1 hb2)))
  all_goals clear cZ cR
  all_goals go_wp2
  all_goals refine bodyPost_ret (v := .agg #[.int .i64 q, .slice a3 n1 c3, .int .i64 k, .slice a4 n2 c4]) (by simp [results, Tryz.results68, go_sem, *]) rfl ?_
  all_goals exact ⟨_, _, rfl, six_stores (bW.trans (hb.mono bWs)) l1 (by rw [N1.out]; exact P1.out) (by rw [N2.out]; exact P2.out) _ _ _ _ _ _⟩

end Go.Proofs.YtafincmcmgedbaaGreatDoor
