/-
  The program's Split: its closure; what asking's closure does for it.
-/
import Derived.Test.YtafincmcmgedbaaGreatDoorCJoin

namespace Go.Proofs.YtafincmcmgedbaaGreatDoor
open Go.RowKit Go.Lib

/-- Below B nothing has turned but block V. -/
structure But (B V : Nat) (w w' : World) : Prop where
  os : w'.os = w.os
  tape : w'.tape = w.tape
  output : w'.output = w.output
  size : w.heap.size ≤ w'.heap.size
  block : ∀ k, k < B → k ≠ V → w'.heap[k]? = w.heap[k]?
theorem But.of_below {B V : Nat} {w w' : World} (h : Below B w w') : But B V w w' := ⟨h.os, h.tape, h.output, h.size, fun k hk _ => h.block k hk⟩
theorem But.trans {B V : Nat} {a b c : World} (h : But B V a b) (k : But B V b c) : But B V a c := ⟨k.os.trans h.os, k.tape.trans h.tape, k.output.trans h.output, Nat.le_trans h.size k.size, fun i h1 h2 => (k.block i h1 h2).trans (h.block i h1 h2)⟩
theorem But.mono {B B' V : Nat} {w w' : World} (h : But B V w w') (hB : B' ≤ B) : But B' V w w' := ⟨h.os, h.tape, h.output, h.size, fun k h1 h2 => h.block k (by omega) h2⟩
theorem But.below {B B' V : Nat} {w w' : World} (h : But B V w w') (hB : B' ≤ B) (hV : B' ≤ V) : Below B' w w' := ⟨h.os, h.tape, h.output, h.size, fun k h1 => h.block k (by omega) (by omega)⟩
theorem But.put4 {B V r : Nat} {w w1 : World} {q k : Int} {sl sc : Value} (h : But B V w w1) (hr : r = V ∨ B ≤ r) : But B V w (put4 w1 r q sl k sc) :=
  ⟨h.os, h.tape, h.output, by rw [put4_size]; exact h.size, fun i h1 h2 => (put4_block _ _ _ _ _ _ i (by omega)).trans (h.block i h1 h2)⟩
theorem But.box {B V b : Nat} {w w' : World} {q k : Int} {sl sc : Value} (h : But B V w w') (hx : BoxAt w b q sl k sc) (h1 : b < B) (h2 : b ≠ V) : BoxAt w' b q sl k sc := by
  have e := h.block b h1 h2
  obtain ⟨lt, c0, c1, c2, c3, f0, f1, f2, f3⟩ := hx
  exact ⟨Nat.lt_of_lt_of_le lt h.size, (World.cell?_of_block (w := w) (a := ⟨b, 0, none⟩) e).trans c0, (World.cell?_of_block (w := w) (a := ⟨b, 1, none⟩) e).trans c1, (World.cell?_of_block (w := w) (a := ⟨b, 2, none⟩) e).trans c2, (World.cell?_of_block (w := w) (a := ⟨b, 3, none⟩) e).trans c3,
    (World.frozen?_of_block (w := w) (a := ⟨b, 0, none⟩) e).trans f0, (World.frozen?_of_block (w := w) (a := ⟨b, 1, none⟩) e).trans f1, (World.frozen?_of_block (w := w) (a := ⟨b, 2, none⟩) e).trans f2, (World.frozen?_of_block (w := w) (a := ⟨b, 3, none⟩) e).trans f3⟩
theorem BoxAt.low {B b : Nat} {w w' : World} {q k : Int} {sl sc : Value} (hx : BoxAt w b q sl k sc) (h : Below B w w') (h1 : b < B) : BoxAt w' b q sl k sc :=
  (But.of_below (V := b + 1) h).box hx h1 (by omega)

def splitO (z : Int) (L : Ln) : Int × Ln × Ln := if fitB L.cs.length 0 z = true then (0, { L with cs := L.cs.take z.toNat }, { L with k := if z.toNat = L.cs.length then 0 else L.k, cs := L.cs.drop z.toNat }) else (1, ln0, ln0)
theorem splitO_err (z : Int) (L : Ln) : (splitO z L).1 ≠ 0 → (splitO z L).2 = (ln0, ln0) := by unfold splitO; split <;> simp
def DoSplit (B b V : Nat) (r : Int × Ln × Ln) (w : World) (e : Ending) (w' : World) : Prop :=
  e = .returned (.int .i64 r.1) ∧ But B V w w' ∧ (r.1 = 0 → ∃ D sl sc sl2 sc2, BoxAt w' b r.2.1.q sl r.2.1.k sc ∧ BoxAt w' V r.2.2.q sl2 r.2.2.k sc2 ∧ MineLn B D w' sl sc r.2.1.ls r.2.1.cs ∧ MineLn D w'.heap.size w' sl2 sc2 r.2.2.ls r.2.2.cs ∧ B ≤ D ∧ D ≤ w'.heap.size) ∧ (r.1 ≠ 0 → BoxAt w' V 0 (.slice none 0 0) 0 (.slice none 0 0))

set_option maxRecDepth 20000 in
set_option maxHeartbeats 8000000 in
theorem split_do (q k : Int) (sl sc : Value) (ls : IRow) (cs : Row) (B C b K V : Nat) (z : Int) (w : World) (HB : BoxAt w b q sl k sc) (HM : MineLn B C w sl sc ls cs) (hBC : B ≤ C) (hC : C ≤ b) (hls : ls.length ≤ 50000) (hcs : cs.length ≤ 50000)
    (hK : w.cell? ⟨K, 0, none⟩ = some (.int .i64 z)) (HV : BoxAt w V 0 (.slice none 0 0) 0 (.slice none 0 0)) (hV : V < B) :
    Calls Tryz.prog 114 #[.pointer (some ⟨b, 0, none⟩), .pointer (some ⟨K, 0, none⟩), .pointer (some ⟨V, 0, none⟩)] w (DoSplit B b V (splitO z ⟨q, ls, k, cs⟩) w) := by
  have hbl := HB.lt
  have HB' := Lib.hid HB
  have HV' := Lib.hid HV
  unfold splitO
  dsimp only
  cases hF : fitB cs.length 0 z with
  | false =>
    rw [if_neg (by decide)]
    have cC := cutL_off q k sl sc cs b z w HB HM.r.here hF
    unfold zeroV at cC
    clear HB HM hF HV
    go_enter Tryz.func114, Tryz.ntmps114
    go_wp2_with (go_at_call 115; ((with_reducible refine cC.mono ?_); rintro e w1 ⟨rfl, hb⟩; obtain ⟨l0, x0, x1, x2, x3, y0, y1, y2, y3⟩ := HV'.out.below hb; have W1 := Lib.hid hb; clear hb))
    go_ret
    exact ⟨rfl, (But.of_below (W1.out.mono (by omega))).put4 (.inl rfl), (fun h => absurd h (by decide)), fun _ => put4_box (HV'.out.below W1.out)⟩
  | true =>
    have hf := of_decide_eq_true hF
    obtain ⟨n, rfl⟩ := Int.eq_ofNat_of_zero_le hf.2.1
    rw [if_pos rfl, Int.toNat_natCast]
    have cC := cutL_on q k sl sc ls cs B C b n w HB HM hBC hC hls hcs (by omega)
    unfold CutPost at cC
    dsimp only at cC
    obtain ⟨kk, hkk⟩ : ∃ kk, (if n = cs.length then 0 else k) = kk := ⟨_, rfl⟩
    rw [hkk] at cC ⊢
    clear HB HM hF HV hf hkk hls hcs
    go_enter Tryz.func114, Tryz.ntmps114
    go_wp2_with (go_at_call 115; ((with_reducible refine cC.mono ?_); rintro e w1 ⟨D, sc1, sl2, sc2, rfl, hx, m1, m2, hb, hD, hD2⟩; obtain ⟨a5, c5, e5⟩ := m2.z.here.len; obtain ⟨a6, c6, e6⟩ := m2.r.here.len; rw [List.length_drop] at e6; subst e5 e6; have HVV := Lib.hid (HV'.out.low hb hV); obtain ⟨l0, x0, x1, x2, x3, y0, y1, y2, y3⟩ := HVV.out; have W1 := Lib.hid hb; have M1 := Lib.hid m1; have M2 := Lib.hid m2; have HX := Lib.hid hx; have hbs := hb.size; clear hb m1 m2 hx cC))
    go_ret
    exact ⟨rfl, (But.of_below W1.out).put4 (.inl rfl), (fun _ => ⟨D, _, _, _, _, put4_far HX.out (by omega), put4_box HVV.out, M1.out.kept (put4_kept (B := B) (r := V) (.inl hV)), (M2.out.kept (put4_kept (B := D) (r := V) (.inl (by omega)))).mono (Nat.le_refl _) (Nat.le_of_eq (put4_size _ _ _ _ _ _).symm), by omega, by rw [put4_size]; exact hD2⟩), fun h => absurd rfl h⟩

def AskSplit (V : Nat) (r : Int × Ln × Ln) (w : World) (e : Ending) (w' : World) : Prop :=
  ∃ D sl sc sl2 sc2, e = .returned (.tuple #[.agg #[.int .i64 r.2.1.q, sl, .int .i64 r.2.1.k, sc], .int .i64 r.1]) ∧ MineLn w.heap.size D w' sl sc r.2.1.ls r.2.1.cs ∧ BoxAt w' V r.2.2.q sl2 r.2.2.k sc2 ∧ MineLn D w'.heap.size w' sl2 sc2 r.2.2.ls r.2.2.cs ∧ But w.heap.size V w w' ∧ w.heap.size ≤ D ∧ D ≤ w'.heap.size

set_option maxRecDepth 20000 in
set_option maxHeartbeats 8000000 in
theorem ask_split (q k : Int) (sl sc : Value) (ls : IRow) (cs : Row) (D K V : Nat) (w : World) (h : LnAt w sl sc ls cs) (hls : ls.length ≤ 50000) (hcs : cs.length ≤ 50000) (hf : Fair cs) (hE : Tg.Env w)
    (hD : w.cell? ⟨D, 0, none⟩ = some (.func (.func 114) #[] #[.pointer (some ⟨K, 0, none⟩), .pointer (some ⟨V, 0, none⟩)])) (R : Int × Ln × Ln) (hR : R.1 ≠ 0 → R.2 = (ln0, ln0)) (HV : BoxAt w V 0 (.slice none 0 0) 0 (.slice none 0 0))
    (cD : mayS ⟨q, ls, k, cs⟩ = true → ∀ (w1 : World) (b B C : Nat) (sl' sc' : Value), Below w.heap.size w w1 → BoxAt w1 b q sl' k sc' → MineLn B C w1 sl' sc' ls cs → B ≤ C → C ≤ b → w.heap.size ≤ B → BoxAt w1 V 0 (.slice none 0 0) 0 (.slice none 0 0) → Calls Tryz.prog 114 #[.pointer (some ⟨b, 0, none⟩), .pointer (some ⟨K, 0, none⟩), .pointer (some ⟨V, 0, none⟩)] w1 (DoSplit B b V R w1)) :
    Calls Tryz.prog 133 #[.agg #[.int .i64 q, sl, .int .i64 k, sc], .pointer (some ⟨D, 0, none⟩)] w (AskSplit V (if mayS ⟨q, ls, k, cs⟩ = true then R else (1, ln0, ln0)) w) := by
  obtain ⟨a1, c1, rfl⟩ := h.z.len
  obtain ⟨a2, c2, rfl⟩ := h.r.len
  have hDl : D < w.heap.size := lt_of_cell' hD
  have hVl := HV.lt
  have HVo := Lib.hid HV
  clear HV
  have cM : ∀ w1, Below w.heap.size w w1 → Calls Tryz.prog 61 #[.agg #[.int .i64 q, .slice a1 ls.length c1, .int .i64 k, .slice a2 cs.length c2]] w1 fun e w' => e = .returned (.bool (mayS ⟨q, ls, k, cs⟩)) ∧ Below w1.heap.size w1 w' := fun w1 h1 => lmay_any q k _ _ ls cs w1 (h.below h1) hls hcs hf (hE.below h1)
  have cO : ∀ w1, Below w.heap.size w w1 → Calls Tryz.prog 68 #[.agg #[.int .i64 q, .slice a1 ls.length c1, .int .i64 k, .slice a2 cs.length c2]] w1 fun e w' => ∃ sl' sc', e = .returned (.agg #[.int .i64 q, sl', .int .i64 k, sc']) ∧ OwnLn w1.heap.size w' sl' sc' ls cs ∧ Below w1.heap.size w1 w' := fun w1 h1 => lown_any q k _ _ ls cs w1 (h.z.below h1) (h.r.below h1) hls hcs
  have HX := Lib.hid (box_two w q k 0 0 (.slice a1 ls.length c1) (.slice a2 cs.length c2) (.slice none 0 0) (.slice none 0 0))
  obtain ⟨n1, hn1⟩ : ∃ n, ls.length = n := ⟨_, rfl⟩
  obtain ⟨n2, hn2⟩ : ∃ n, cs.length = n := ⟨_, rfl⟩
  rw [hn1] at cM cO HX ⊢
  rw [hn2] at cM cO HX ⊢
  have N1 := Lib.hid hn1
  have N2 := Lib.hid hn2
  have HD := Lib.hid hD
  obtain ⟨M, hM⟩ : ∃ M, mayS ⟨q, ls, k, cs⟩ = M := ⟨_, rfl⟩
  rw [hM] at cM cD ⊢
  clear h hls hcs hf hE hn1 hn2 hM hD
  have hu : w.heap.size < w.heap.size + 1 := by omega
  cases M with
  | false =>
    rw [if_neg (by decide)]
    clear cD cO
    go_enter Tryz.func133, Tryz.ntmps133
    go_wp2_with (go_at_call 61; ((with_reducible refine (cM _ HX.out.1).mono ?_); rintro e w1 ⟨rfl, hb⟩; obtain ⟨b2, B0, B1⟩ := HX.out; have bW := Lib.hid (b2.trans (hb.mono b2.size)); obtain ⟨l0, x0, x1, x2, x3, y0, y1, y2, y3⟩ := B1.below hb; clear b2 B0 B1 hb))
    exact bodyPost_ret (v := .tuple #[.agg #[.int .i64 0, .slice none 0 0, .int .i64 0, .slice none 0 0], .int .i64 1]) (by simp [results, Tryz.results133, go_sem, *]) rfl ⟨w.heap.size, _, _, _, _, rfl, mine_nil _ _ _, put4_far (HVo.out.below bW.out) (by omega), mine_nil _ _ _, (But.of_below bW.out).put4 (.inr (Nat.le_of_lt hu)), Nat.le_refl _, by rw [put4_size]; exact bW.out.size⟩
  | true =>
    rw [if_pos rfl]
    replace cD := cD rfl
    obtain ⟨code, L', M'⟩ := R
    by_cases hc : code = 0
    · subst hc
      clear hR
      obtain ⟨q', ls', k', cs'⟩ := L'
      obtain ⟨q8, ls8, k8, cs8⟩ := M'
      go_enter Tryz.func133, Tryz.ntmps133
      go_wp2_with (first
        | (go_at_call 61; ((with_reducible refine (cM _ HX.out.1).mono ?_); rintro e w1 ⟨rfl, hb⟩; obtain ⟨b2, B0, B1⟩ := HX.out; have bW := Lib.hid (b2.trans (hb.mono b2.size)); have HB1 := Lib.hid (B1.below hb); have hs1 : w.heap.size + 1 < w1.heap.size := HB1.out.lt; obtain ⟨l0, x0, x1, x2, x3, y0, y1, y2, y3⟩ := B0.below hb; clear b2 B0 B1 hb))
        | (go_at_call 68; ((with_reducible refine (cO _ bW.out).mono ?_); rintro e w2 ⟨sl', sc', rfl, ho, hb2⟩; have hb12 := Lib.hid hb2; have hs2 := hb2.size; have bW2 := Lib.hid (bW.out.trans (hb2.mono (by omega))); have HO := Lib.hid (mine_of_own ho); obtain ⟨a3, c3, e3⟩ := own_len ho.1; obtain ⟨a4, c4, e4⟩ := own_len ho.2; rw [N1.out] at e3; rw [N2.out] at e4; subst e3 e4; have hD2 : w2.cell? ⟨D, 0, none⟩ = _ := (bW2.out.cell (p := ⟨D, 0, none⟩) hDl).trans HD.out; have hD3 : D < w2.heap.size := (by omega); clear ho hb2))
        | (go_at_call 114; ((with_reducible refine (cD _ w2.heap.size w1.heap.size w2.heap.size (.slice a3 n1 c3) (.slice a4 n2 c4) ?hb ?hx ?hm ?h1 ?h2 ?h3 ?hv).mono ?_); (case hb => exact bW2.out.alloc (by omega) _); (case hx => exact box_new w2 q k _ _); (case hm => exact HO.out.below ((Below.refl _ w2).alloc (Nat.le_refl _) _)); (case h1 => omega); (case h2 => omega); (case h3 => omega); (case hv => exact HVo.out.below (bW2.out.alloc (by omega) _)); rintro e w3 ⟨rfl, hbd, hr, _⟩; obtain ⟨E, sl3, sc3, sl8, sc8, hbx, hvx, hm3, hm8, hE1, hE2⟩ := hr rfl; dsimp only at hbx hvx hm3 hm8; obtain ⟨a5, c5, e5⟩ := hm3.z.here.len; obtain ⟨a6, c6, e6⟩ := hm3.r.here.len; subst e5 e6; have HM3 := Lib.hid hm3; have HM8 := Lib.hid hm8; have HVX := Lib.hid hvx; obtain ⟨m0, z0, z1, z2, z3, _, _, _, _⟩ := hbx; have hbw3 := Lib.hid ((But.of_below (V := V) (hb12.out.alloc (by omega) _)).trans hbd); obtain ⟨l1, u0, u1, u2, u3, v0, v1, v2, v3⟩ := hbw3.out.box HB1.out hs1 (by omega); clear hm3 hm8 hvx hbd hr)))
      exact bodyPost_ret (v := .tuple #[.agg #[.int .i64 q', .slice a5 ls'.length c5, .int .i64 k', .slice a6 cs'.length c6], .int .i64 0]) (by simp [results, Tryz.results133, go_sem, *]) rfl ⟨E, _, _, _, _, rfl, (HM3.out.kept (put4_kept (B := w1.heap.size) (r := w.heap.size + 1) (.inl hs1))).mono (by omega) (Nat.le_refl _), put4_far HVX.out (by omega), (HM8.out.kept (put4_kept (B := E) (r := w.heap.size + 1) (.inl (by omega)))).mono (Nat.le_refl _) (Nat.le_of_eq (put4_size _ _ _ _ _ _).symm), ((But.of_below bW.out).trans (hbw3.out.mono (by omega))).put4 (.inr (Nat.le_of_lt hu)), by omega, by rw [put4_size]; exact hE2⟩
    · have hc2 : (code != 0) = true := by simpa using hc
      obtain ⟨rfl, rfl⟩ : L' = ln0 ∧ M' = ln0 := by have := hR hc; simpa using this
      have hcode : (code == 0) = false := by simpa using hc
      clear hR
      go_enter Tryz.func133, Tryz.ntmps133
      go_wp2_with (first
        | (go_at_call 61; ((with_reducible refine (cM _ HX.out.1).mono ?_); rintro e w1 ⟨rfl, hb⟩; obtain ⟨b2, B0, B1⟩ := HX.out; have bW := Lib.hid (b2.trans (hb.mono b2.size)); have HB1 := Lib.hid (B1.below hb); have hs1 : w.heap.size + 1 < w1.heap.size := HB1.out.lt; obtain ⟨l0, x0, x1, x2, x3, y0, y1, y2, y3⟩ := B0.below hb; clear b2 B0 B1 hb))
        | (go_at_call 68; ((with_reducible refine (cO _ bW.out).mono ?_); rintro e w2 ⟨sl', sc', rfl, ho, hb2⟩; have hb12 := Lib.hid hb2; have hs2 := hb2.size; have bW2 := Lib.hid (bW.out.trans (hb2.mono (by omega))); have HO := Lib.hid (mine_of_own ho); obtain ⟨a3, c3, e3⟩ := own_len ho.1; obtain ⟨a4, c4, e4⟩ := own_len ho.2; rw [N1.out] at e3; rw [N2.out] at e4; subst e3 e4; have hD2 : w2.cell? ⟨D, 0, none⟩ = _ := (bW2.out.cell (p := ⟨D, 0, none⟩) hDl).trans HD.out; have hD3 : D < w2.heap.size := (by omega); clear ho hb2))
        | (go_at_call 114; ((with_reducible refine (cD _ w2.heap.size w1.heap.size w2.heap.size (.slice a3 n1 c3) (.slice a4 n2 c4) ?hb ?hx ?hm ?h1 ?h2 ?h3 ?hv).mono ?_); (case hb => exact bW2.out.alloc (by omega) _); (case hx => exact box_new w2 q k _ _); (case hm => exact HO.out.below ((Below.refl _ w2).alloc (Nat.le_refl _) _)); (case h1 => omega); (case h2 => omega); (case h3 => omega); (case hv => exact HVo.out.below (bW2.out.alloc (by omega) _)); rintro e w3 ⟨rfl, hbd, _, hr⟩; have hvx := Lib.hid (hr hc); have hbw3 := Lib.hid ((But.of_below (V := V) (hb12.out.alloc (by omega) _)).trans hbd); obtain ⟨l1, u0, u1, u2, u3, v0, v1, v2, v3⟩ := hbw3.out.box HB1.out hs1 (by omega); clear hbd hr)))
      exact bodyPost_ret (v := .tuple #[.agg #[.int .i64 0, .slice none 0 0, .int .i64 0, .slice none 0 0], .int .i64 code]) (by simp [results, Tryz.results133, go_sem, *]) rfl ⟨w.heap.size, _, _, _, _, rfl, mine_nil _ _ _, put4_far hvx.out (by omega), mine_nil _ _ _, ((But.of_below bW.out).trans (hbw3.out.mono (by omega))).put4 (.inr (Nat.le_of_lt hu)), Nat.le_refl _, by rw [put4_size]; exact Nat.le_trans bW.out.size hbw3.out.size⟩

end Go.Proofs.YtafincmcmgedbaaGreatDoor
