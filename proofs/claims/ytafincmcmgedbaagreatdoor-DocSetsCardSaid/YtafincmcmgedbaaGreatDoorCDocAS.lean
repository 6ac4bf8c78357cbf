/-
  The program's All, Some of a document.
-/
import Derived.Test.YtafincmcmgedbaaGreatDoorCDocOne
import Derived.Test.YtafincmcmgedbaaGreatDoorCAllSome

namespace Go.Proofs.YtafincmcmgedbaaGreatDoor
open Go.RowKit Go.Lib

def lacksU (q : Int) (r : Row) (f t : Nat) : Bool := decide (f < t) && !allO r f t q
def hasU (q : Int) (r : Row) (f t : Nat) : Bool := someO r f t q
def allD (d : Doc) (a b : Ps) (q : Int) : Bool := decide (0 < countA d a b) && !anyS d (lacksU q) a.1.toNat a.2.toNat b.1.toNat b.2.toNat
def someD (d : Doc) (a b : Ps) (q : Int) : Bool := askedD d a b && anyS d (hasU q) a.1.toNat a.2.toNat b.1.toNat b.2.toNat

set_option maxHeartbeats 2000000 in
theorem dallFn_any (v : Value) (cs : Row) (f t B : Nat) (q : Int) (w : World) (hv : RowAt w v cs) (hl : cs.length ≤ 50000) (h1 : w.cell? ⟨B, 0, none⟩ = some (.int .i64 q)) :
    Calls Tryz.prog 92 #[v, .int .i64 (f : Int), .int .i64 (t : Int), .pointer (some ⟨B, 0, none⟩)] w fun e w' => e = .returned (.bool (lacksU q cs f t)) ∧ Below w.heap.size w w' := by
  have hc := call_any v cs (f : Int) (t : Int) q w hv (by omega)
  obtain ⟨a, c, rfl⟩ := hv.len
  unfold lacksU
  obtain ⟨n, hn⟩ : ∃ n, cs.length = n := ⟨_, rfl⟩
  obtain ⟨M, hM⟩ : ∃ M, allO cs (f : Int) (t : Int) q = M := ⟨_, rfl⟩
  rw [hM] at hc ⊢
  rw [hn] at hc ⊢
  clear hv hn hM hl
  by_cases hft : f < t
  · have hI : (f : Int) < (t : Int) := by omega
    rw [decide_eq_true hft, Bool.true_and]
    clear hft
    go_enter Tryz.func92, Tryz.ntmps92
    go_wp2_with (go_at_call 93; ((with_reducible refine hc.mono ?_); rintro e w2 ⟨rfl, hb⟩))
    go_ret
    exact ⟨rfl, hb⟩
  · have hI : ¬ (f : Int) < (t : Int) := by omega
    rw [decide_eq_false hft, Bool.false_and]
    clear hft hc
    go_enter Tryz.func92, Tryz.ntmps92
    go_wp2
    go_ret
    exact ⟨rfl, Below.refl _ _⟩
set_option maxHeartbeats 2000000 in
theorem dsomeFn_any (v : Value) (cs : Row) (f t B : Nat) (q : Int) (w : World) (hv : RowAt w v cs) (hl : cs.length ≤ 50000) (h1 : w.cell? ⟨B, 0, none⟩ = some (.int .i64 q)) :
    Calls Tryz.prog 96 #[v, .int .i64 (f : Int), .int .i64 (t : Int), .pointer (some ⟨B, 0, none⟩)] w fun e w' => e = .returned (.bool (hasU q cs f t)) ∧ Below w.heap.size w w' := by
  have hc := csome_any v cs (f : Int) (t : Int) q w hv (by omega)
  obtain ⟨a, c, rfl⟩ := hv.len
  unfold hasU
  obtain ⟨n, hn⟩ : ∃ n, cs.length = n := ⟨_, rfl⟩
  obtain ⟨M, hM⟩ : ∃ M, someO cs (f : Int) (t : Int) q = M := ⟨_, rfl⟩
  rw [hM] at hc ⊢
  rw [hn] at hc ⊢
  clear hv hn hM hl
  go_enter Tryz.func96, Tryz.ntmps96
  go_wp2_with (go_at_call 97; ((with_reducible refine hc.mono ?_); rintro e w2 ⟨rfl, hb⟩))
  go_ret
  exact ⟨rfl, hb⟩

structure ThreeI (w W : World) (p1 p2 q1 q2 q : Int) : Prop where
  b : Below w.heap.size w W
  p : PsAt W w.heap.size p1 p2
  r : PsAt W (w.heap.size + 1) q1 q2
  k : W.cell? ⟨w.heap.size + 1 + 1, 0, none⟩ = some (.int .i64 q)
theorem ThreeI.below {w W W' : World} {p1 p2 q1 q2 q : Int} (h : ThreeI w W p1 p2 q1 q2 q) (hb : Below W.heap.size W W') : ThreeI w W' p1 p2 q1 q2 q :=
  ⟨h.b.trans (hb.mono h.b.size), h.p.below hb, h.r.below hb, (hb.cell (lt_of_cell' h.k)).trans h.k⟩
theorem threeI_new (w : World) (p1 p2 q1 q2 q : Int) : ThreeI w (((w.alloc (.cells #[.int .i64 p1, .int .i64 p2] 24)).alloc (.cells #[.int .i64 q1, .int .i64 q2] 24)).alloc (.cells #[.int .i64 q] 3)) p1 p2 q1 q2 q := by
  have hX := two_allocs w (.cells #[.int .i64 p1, .int .i64 p2] 24) (.cells #[.int .i64 q1, .int .i64 q2] 24)
  have hs : ((w.alloc (.cells #[.int .i64 p1, .int .i64 p2] 24)).alloc (.cells #[.int .i64 q1, .int .i64 q2] 24)).heap.size = w.heap.size + 1 + 1 := by simp
  have A0 := (ps_new w p1 p2).below (below_alloc1 _ (.cells #[.int .i64 q1, .int .i64 q2] 24))
  have A1 := ps_new (w.alloc (.cells #[.int .i64 p1, .int .i64 p2] 24)) q1 q2
  rw [show (w.alloc (.cells #[.int .i64 p1, .int .i64 p2] 24)).heap.size = w.heap.size + 1 by simp] at A1
  obtain ⟨W, hW⟩ : ∃ W, (w.alloc (.cells #[.int .i64 p1, .int .i64 p2] 24)).alloc (.cells #[.int .i64 q1, .int .i64 q2] 24) = W := ⟨_, rfl⟩
  rw [hW] at hX hs A0 A1 ⊢
  have k1 := (blk_new W #[.int .i64 q] 3 _ 0 _ hs rfl).1
  have b1 := below_alloc1 W (.cells #[.int .i64 q] 3)
  exact ⟨hX.trans (b1.mono hX.size), A0.below b1, A1.below b1, k1⟩

set_option maxRecDepth 20000 in
set_option maxHeartbeats 8000000 in
theorem dall_any (v : Value) (l : List Lw) (p1 p2 q1 q2 q : Int) (w : World) (h : DocAt w v l) (hf : Fine (pl l)) (hE : Tg.Env w) :
    Calls Tryz.prog 50 #[v, psV (p1, p2), psV (q1, q2), .int .i64 q] w fun e w' => e = .returned (.bool (allD (pl l) (p1, p2) (q1, q2) q)) ∧ Below w.heap.size w w' := by
  have T3 := Lib.hid (threeI_new w p1 p2 q1 q2 q)
  have cA : ∀ w1, Below w.heap.size w w1 → _ := fun w1 h1 => dcount_any v l p1 p2 q1 q2 w1 (h.below h1) hf (hE.below h1)
  have hgf := enters_of Tryz.func92 (by kernel_rfl) rfl
  unfold allD
  obtain ⟨C, hCo⟩ : ∃ C, countA (pl l) (p1, p2) (q1, q2) = C := ⟨_, rfl⟩
  rw [hCo] at cA ⊢
  obtain ⟨a, c, rfl⟩ := h.s.len
  by_cases hC : 0 < C
  · have hA : askedD (pl l) (p1, p2) (q1, q2) = true := by
      unfold countA at hCo
      cases hA : askedD (pl l) (p1, p2) (q1, q2) with
      | true => rfl
      | false => rw [hA] at hCo; simp at hCo; omega
    obtain ⟨al, aa, bl, ba, hp, hq, hsp, hmay⟩ := askedD_span hA
    simp only [Prod.mk.injEq] at hp hq
    obtain ⟨rfl, rfl⟩ := hp
    obtain ⟨rfl, rfl⟩ := hq
    have cO : ∀ w1, ThreeI w w1 (al : Int) (aa : Int) (bl : Int) (ba : Int) q → Calls Tryz.prog 94 #[.slice a l.length c, psV ((al : Int), (aa : Int)), psV ((bl : Int), (ba : Int)), .func (.func 92) #[] #[.pointer (some ⟨w.heap.size + 1 + 1, 0, none⟩)]] w1 fun e w' => e = .returned (.bool (anyS (pl l) (lacksU q) al aa bl ba)) ∧ Below w1.heap.size w1 w' := fun w1 h1 =>
      done_any _ l al aa bl ba _ _ (lacksU q) w1 (h.below h1.b) hf hsp (fun V vv cs f t h2 h3 h4 _ _ => by
        obtain ⟨x, hx, rfl⟩ := h4
        exact dallFn_any vv x.cs f t _ q V h3 (hf.z x hx).2.1 ((h2.cell (lt_of_cell' h1.k)).trans h1.k)) hgf
    simp only [Int.toNat_natCast]
    obtain ⟨M, hM⟩ : ∃ M, anyS (pl l) (lacksU q) al aa bl ba = M := ⟨_, rfl⟩
    rw [hM] at cO ⊢
    rw [decide_eq_true hC, Bool.true_and]
    have hCI : (0 : Int) < (C : Int) := by omega
    clear hCo
    obtain ⟨n, hn⟩ : ∃ n, l.length = n := ⟨_, rfl⟩
    unfold psV at *
    dsimp only at *
    rw [hn] at cO cA ⊢
    clear h hf hE hgf hM hn hA hsp hmay
    obtain ⟨_, ⟨_, y0, y1, _, _⟩, ⟨_, z0, z1, _, _⟩, k0⟩ := T3.out
    go_enter Tryz.func50, Tryz.ntmps50
    go_wp2_with (first
      | (go_at_call 54; ((with_reducible refine (cA _ T3.out.b).mono ?_); rintro e w2 ⟨rfl, hk⟩; have T4 := Lib.hid (T3.out.below hk); clear y0 y1 z0 z1 k0; obtain ⟨_, ⟨_, y0, y1, _, _⟩, ⟨_, z0, z1, _, _⟩, k0⟩ := T4.out; clear hk))
      | (go_at_call 94; ((with_reducible refine (cO _ T4.out).mono ?_); rintro e w3 ⟨rfl, hk⟩; have hbb := Lib.hid (T4.out.b.trans (hk.mono T4.out.b.size)); clear hk)))
    go_ret
    exact ⟨ret_bool (by simp), hbb.out⟩
  · rw [decide_eq_false hC, Bool.false_and]
    have hC0 : C = 0 := by omega
    subst hC0
    clear hCo hC
    obtain ⟨n, hn⟩ : ∃ n, l.length = n := ⟨_, rfl⟩
    unfold psV at *
    dsimp only at *
    rw [hn] at cA ⊢
    clear h hf hE hgf hn
    obtain ⟨_, ⟨_, y0, y1, _, _⟩, ⟨_, z0, z1, _, _⟩, k0⟩ := T3.out
    go_enter Tryz.func50, Tryz.ntmps50
    go_wp2_with (go_at_call 54; ((with_reducible refine (cA _ T3.out.b).mono ?_); rintro e w2 ⟨rfl, hk⟩; have hbb := Lib.hid (T3.out.b.trans (hk.mono T3.out.b.size)); clear hk))
    go_ret
    exact ⟨rfl, hbb.out⟩

set_option maxRecDepth 20000 in
set_option maxHeartbeats 8000000 in
theorem dsome_any (v : Value) (l : List Lw) (p1 p2 q1 q2 q : Int) (w : World) (h : DocAt w v l) (hf : Fine (pl l)) (hE : Tg.Env w) :
    Calls Tryz.prog 52 #[v, psV (p1, p2), psV (q1, q2), .int .i64 q] w fun e w' => e = .returned (.bool (someD (pl l) (p1, p2) (q1, q2) q)) ∧ Below w.heap.size w w' := by
  have T3 := Lib.hid (threeI_new w p1 p2 q1 q2 q)
  have cA : ∀ w1, Below w.heap.size w w1 → _ := fun w1 h1 => dasked_any v l p1 p2 q1 q2 w1 (h.below h1) hf (hE.below h1)
  have hgf := enters_of Tryz.func96 (by kernel_rfl) rfl
  unfold someD
  obtain ⟨a, c, rfl⟩ := h.s.len
  by_cases hC : askedD (pl l) (p1, p2) (q1, q2) = true
  · have hA : askedD (pl l) (p1, p2) (q1, q2) = true := hC
    obtain ⟨al, aa, bl, ba, hp, hq, hsp, hmay⟩ := askedD_span hA
    simp only [Prod.mk.injEq] at hp hq
    obtain ⟨rfl, rfl⟩ := hp
    obtain ⟨rfl, rfl⟩ := hq
    have cO : ∀ w1, ThreeI w w1 (al : Int) (aa : Int) (bl : Int) (ba : Int) q → Calls Tryz.prog 94 #[.slice a l.length c, psV ((al : Int), (aa : Int)), psV ((bl : Int), (ba : Int)), .func (.func 96) #[] #[.pointer (some ⟨w.heap.size + 1 + 1, 0, none⟩)]] w1 fun e w' => e = .returned (.bool (anyS (pl l) (hasU q) al aa bl ba)) ∧ Below w1.heap.size w1 w' := fun w1 h1 =>
      done_any _ l al aa bl ba _ _ (hasU q) w1 (h.below h1.b) hf hsp (fun V vv cs f t h2 h3 h4 _ _ => by
        obtain ⟨x, hx, rfl⟩ := h4
        exact dsomeFn_any vv x.cs f t _ q V h3 (hf.z x hx).2.1 ((h2.cell (lt_of_cell' h1.k)).trans h1.k)) hgf
    simp only [Int.toNat_natCast]
    obtain ⟨M, hM⟩ : ∃ M, anyS (pl l) (hasU q) al aa bl ba = M := ⟨_, rfl⟩
    rw [hM] at cO ⊢
    rw [hC, Bool.true_and]
    rw [hC] at cA
    clear hC
    obtain ⟨n, hn⟩ : ∃ n, l.length = n := ⟨_, rfl⟩
    unfold psV at *
    dsimp only at *
    rw [hn] at cO cA ⊢
    clear h hf hE hgf hM hn hA hsp hmay
    obtain ⟨_, ⟨_, y0, y1, _, _⟩, ⟨_, z0, z1, _, _⟩, k0⟩ := T3.out
    go_enter Tryz.func52, Tryz.ntmps52
    go_wp2_with (first
      | (go_at_call 75; ((with_reducible refine (cA _ T3.out.b).mono ?_); rintro e w2 ⟨rfl, hk⟩; have T4 := Lib.hid (T3.out.below hk); clear y0 y1 z0 z1 k0; obtain ⟨_, ⟨_, y0, y1, _, _⟩, ⟨_, z0, z1, _, _⟩, k0⟩ := T4.out; clear hk))
      | (go_at_call 94; ((with_reducible refine (cO _ T4.out).mono ?_); rintro e w3 ⟨rfl, hk⟩; have hbb := Lib.hid (T4.out.b.trans (hk.mono T4.out.b.size)); clear hk)))
    go_ret
    exact ⟨ret_bool (by simp), hbb.out⟩
  · have hC2 : askedD (pl l) (p1, p2) (q1, q2) = false := by simpa using hC
    rw [hC2, Bool.false_and]
    rw [hC2] at cA
    clear hC hC2
    obtain ⟨n, hn⟩ : ∃ n, l.length = n := ⟨_, rfl⟩
    unfold psV at *
    dsimp only at *
    rw [hn] at cA ⊢
    clear h hf hE hgf hn
    obtain ⟨_, ⟨_, y0, y1, _, _⟩, ⟨_, z0, z1, _, _⟩, k0⟩ := T3.out
    go_enter Tryz.func52, Tryz.ntmps52
    go_wp2_with (go_at_call 75; ((with_reducible refine (cA _ T3.out.b).mono ?_); rintro e w2 ⟨rfl, hk⟩; have hbb := Lib.hid (T3.out.b.trans (hk.mono T3.out.b.size)); clear hk))
    go_ret
    exact ⟨rfl, hbb.out⟩

end Go.Proofs.YtafincmcmgedbaaGreatDoor
