/-
  The program's Split of a document.
-/
import Derived.Test.YtafincmcmgedbaaGreatDoorCDocK
import Derived.Test.YtafincmcmgedbaaGreatDoorCSplitTop
import Derived.Deep.RegionHeld3
import Derived.Deep.DeepCutAuto

namespace Go.Proofs.YtafincmcmgedbaaGreatDoor
open Go.RowKit Go.Lib

def splA (x : Ln) (k : Nat) : Ln := lnWith x (x.cs.take k)
def splB (x : Ln) (k : Nat) : Ln := ⟨x.q, x.ls, if k = x.cs.length then 0 else x.k, x.cs.drop k⟩
def splitD (d : Doc) (i k : Nat) : Doc := replaceD d i i [splA d[i]! k, splB d[i]! k]
def splitP (d : Doc) (p : Ps) : Doc × Ps × Int := if askedD d p p then (if d.length = 200 then ([], (0, 0), 10) else (splitD d p.1.toNat p.2.toNat, (p.1 + 1, 0), 0)) else ([], (0, 0), 1)
theorem splitS_in {x : Ln} {k : Nat} (hm : mayS x = true) (hk : k ≤ x.cs.length) : splitS (k : Int) x = (0, splA x k, splB x k) := by
  unfold splitS splitO
  rw [if_pos hm, if_pos (by unfold fitB; simp; omega), Int.toNat_natCast]
  rfl
theorem lsplitA (x : Lw) (k : Nat) (w : World) (h : LwAt w x) (hz : x.ln.ls.length ≤ 50000 ∧ x.ln.cs.length ≤ 50000 ∧ Fair x.ln.cs) (hE : Tg.Env w) (hm : mayS x.ln = true) (hk : k ≤ x.ln.cs.length) :
    Calls Tryz.prog 81 #[aggL x, .int .i64 (k : Int)] w fun e w' => ∃ y1 y2 : Lw, e = .returned (.tuple #[aggL y1, aggL y2, .int .i64 0]) ∧ y1.ln = splA x.ln k ∧ y2.ln = splB x.ln k ∧ MineLw w.heap.size w' y1 ∧ MineLw w.heap.size w' y2 ∧ Below w.heap.size w w' := by
  have hc := Split_any x.ln.q x.ln.k (k : Int) x.sl x.sc x.ln.ls x.ln.cs w h hz.1 hz.2.1 hz.2.2 hE
  refine hc.mono ?_
  rintro e w' ⟨D, sl, sc, sl2, sc2, he, m1, m2, hb, hD1, hD2⟩
  have hs : splitS (k : Int) ⟨x.ln.q, x.ln.ls, x.ln.k, x.ln.cs⟩ = (0, splA x.ln k, splB x.ln k) := splitS_in hm hk
  rw [hs] at he m1 m2
  obtain ⟨y1, a1, a2, a3, a4⟩ := lw_of_mine (q := x.ln.q) (k := x.ln.k) m1 hD2
  obtain ⟨y2, b1, b2, b3, b4⟩ := lw_of_mine (q := x.ln.q) (k := if k = x.ln.cs.length then 0 else x.ln.k) m2 (Nat.le_refl _)
  refine ⟨y1, y2, ?_, a3, b3, a4, b4.mono hD1, hb⟩
  rw [he]
  unfold aggL
  rw [a1, a2, a3, b1, b2, b3]
  rfl
/-- What a call answers that makes a document, and tells a place, beside an error. -/
def DocPE (d : Doc) (p : Ps) (er : Int) (w : World) (e : Ending) (w' : World) : Prop := ∃ v r, e = .returned (.tuple #[v, psV p, .int .i64 er]) ∧ OwnD w.heap.size w' v r ∧ pl r = d ∧ Below w.heap.size w w'
theorem docPE_err {w : World} {e : Ending} {w' : World} {er : Int} (h : e = .returned (.tuple #[.slice none 0 0, psV (0, 0), .int .i64 er]) ∧ Below w.heap.size w w') : DocPE [] (0, 0) er w e w' := ⟨_, [], h.1, ownD_nil _ _, rfl, h.2⟩
theorem MineLw.put4 {B p : Nat} {w : World} {y : Lw} (h : MineLw B w y) (hp : p < B) (q k : Int) (s c : Value) : MineLw B (put4 w p q s k c) y := by
  have h1 := h.set (p := ⟨p, 0, none⟩) (offB_lo h hp) (.int .i64 q)
  have h2 := h1.set (p := ⟨p, 1, none⟩) (offB_lo h1 hp) s
  have h3 := h2.set (p := ⟨p, 2, none⟩) (offB_lo h2 hp) (.int .i64 k)
  exact h3.set (p := ⟨p, 3, none⟩) (offB_lo h3 hp) c
/-- The two lines, the two variables. -/
def SplR (B : Nat) (W : World) (A C : Ln) (s7 s8 : Value) (wx : World) : Prop :=
  ∃ p7 p8 y1 y2, s7 = .pointer (some ⟨p7, 0, none⟩) ∧ s8 = .pointer (some ⟨p8, 0, none⟩) ∧ BoxAt wx p7 y1.ln.q (.slice y1.za y1.ln.ls.length y1.zc) y1.ln.k (.slice y1.ra y1.ln.cs.length y1.rc) ∧ BoxAt wx p8 y2.ln.q (.slice y2.za y2.ln.ls.length y2.zc) y2.ln.k (.slice y2.ra y2.ln.cs.length y2.rc) ∧ MineLw B wx y1 ∧ MineLw B wx y2 ∧ y1.ln = A ∧ y2.ln = C ∧ Below B W wx ∧ B ≤ p7 ∧ B ≤ p8
section
variable {B B4 p7 p8 : Nat} {W w4 : World} {A C : Ln} {y1 y2 : Lw} {q5 k5 q6 k6 : Int} {s5 c5 s6 c6 : Value}
theorem spl_put (hb : Below B W w4) (m1 : MineLw B4 w4 y1) (m2 : MineLw B4 w4 y2) (e1 : y1.ln = A) (e2 : y2.ln = C) (hB : B ≤ B4) (h7 : BoxAt w4 p7 q5 s5 k5 c5) (h8 : BoxAt w4 p8 q6 s6 k6 c6) (hne : p7 ≠ p8) (h7B : B ≤ p7) (h8B : B ≤ p8) (l7 : p7 < B4) (l8 : p8 < B4) :
    SplR B W A C (.pointer (some ⟨p7, 0, none⟩)) (.pointer (some ⟨p8, 0, none⟩)) (put4 (put4 w4 p7 y1.ln.q (.slice y1.za y1.ln.ls.length y1.zc) y1.ln.k (.slice y1.ra y1.ln.cs.length y1.rc)) p8 y2.ln.q (.slice y2.za y2.ln.ls.length y2.zc) y2.ln.k (.slice y2.ra y2.ln.cs.length y2.rc)) :=
  ⟨p7, p8, y1, y2, rfl, rfl, put4_far (put4_box h7) hne, put4_box (put4_far h8 (Ne.symm hne)), ((m1.put4 l7 _ _ _ _).put4 l8 _ _ _ _).mono hB, ((m2.put4 l7 _ _ _ _).put4 l8 _ _ _ _).mono hB, e1, e2, put4_below (put4_below hb h7B) h8B, h7B, h8B⟩
theorem spl_mix7 (hb : Below B W w4) (m1 : MineLw B4 w4 y1) (m2 : MineLw B4 w4 y2) (e1 : y1.ln = A) (e2 : y2.ln = C) (hB : B ≤ B4) (h7 : BoxAt w4 p7 q5 s5 k5 c5) (h7B : B ≤ p7) (l7 : p7 < B4) (h8B : B ≤ w4.heap.size) :
    SplR B W A C (.pointer (some ⟨p7, 0, none⟩)) (.pointer (some ⟨w4.heap.size, 0, none⟩)) ((put4 w4 p7 y1.ln.q (.slice y1.za y1.ln.ls.length y1.zc) y1.ln.k (.slice y1.ra y1.ln.cs.length y1.rc)).alloc (.cells #[.int .i64 y2.ln.q, .slice y2.za y2.ln.ls.length y2.zc, .int .i64 y2.ln.k, .slice y2.ra y2.ln.cs.length y2.rc] 46)) := by
  have hs := put4_size w4 p7 y1.ln.q y1.ln.k (.slice y1.za y1.ln.ls.length y1.zc) (.slice y1.ra y1.ln.cs.length y1.rc)
  have hx := box_new (put4 w4 p7 y1.ln.q (.slice y1.za y1.ln.ls.length y1.zc) y1.ln.k (.slice y1.ra y1.ln.cs.length y1.rc)) y2.ln.q y2.ln.k (.slice y2.za y2.ln.ls.length y2.zc) (.slice y2.ra y2.ln.cs.length y2.rc)
  have A9 := below_alloc1 (put4 w4 p7 y1.ln.q (.slice y1.za y1.ln.ls.length y1.zc) y1.ln.k (.slice y1.ra y1.ln.cs.length y1.rc)) (.cells #[.int .i64 y2.ln.q, .slice y2.za y2.ln.ls.length y2.zc, .int .i64 y2.ln.k, .slice y2.ra y2.ln.cs.length y2.rc] 46)
  rw [hs] at hx
  exact ⟨p7, _, y1, y2, rfl, rfl, (put4_box h7).below A9, hx, ((m1.put4 l7 _ _ _ _).below A9).mono hB, ((m2.put4 l7 _ _ _ _).below A9).mono hB, e1, e2, (put4_below hb h7B).trans (A9.mono (by rw [hs]; exact h8B)), h7B, h8B⟩
theorem spl_mix8 (hb : Below B W w4) (m1 : MineLw B4 w4 y1) (m2 : MineLw B4 w4 y2) (e1 : y1.ln = A) (e2 : y2.ln = C) (hB : B ≤ B4) (h8 : BoxAt w4 p8 q5 s5 k5 c5) (h8B : B ≤ p8) (l8 : p8 < B4) (h7B : B ≤ w4.heap.size) :
    SplR B W A C (.pointer (some ⟨w4.heap.size, 0, none⟩)) (.pointer (some ⟨p8, 0, none⟩)) ((put4 w4 p8 y2.ln.q (.slice y2.za y2.ln.ls.length y2.zc) y2.ln.k (.slice y2.ra y2.ln.cs.length y2.rc)).alloc (.cells #[.int .i64 y1.ln.q, .slice y1.za y1.ln.ls.length y1.zc, .int .i64 y1.ln.k, .slice y1.ra y1.ln.cs.length y1.rc] 46)) := by
  have hs := put4_size w4 p8 y2.ln.q y2.ln.k (.slice y2.za y2.ln.ls.length y2.zc) (.slice y2.ra y2.ln.cs.length y2.rc)
  have hx := box_new (put4 w4 p8 y2.ln.q (.slice y2.za y2.ln.ls.length y2.zc) y2.ln.k (.slice y2.ra y2.ln.cs.length y2.rc)) y1.ln.q y1.ln.k (.slice y1.za y1.ln.ls.length y1.zc) (.slice y1.ra y1.ln.cs.length y1.rc)
  have A9 := below_alloc1 (put4 w4 p8 y2.ln.q (.slice y2.za y2.ln.ls.length y2.zc) y2.ln.k (.slice y2.ra y2.ln.cs.length y2.rc)) (.cells #[.int .i64 y1.ln.q, .slice y1.za y1.ln.ls.length y1.zc, .int .i64 y1.ln.k, .slice y1.ra y1.ln.cs.length y1.rc] 46)
  rw [hs] at hx
  exact ⟨_, p8, y1, y2, rfl, rfl, hx, (put4_box h8).below A9, ((m1.put4 l8 _ _ _ _).below A9).mono hB, ((m2.put4 l8 _ _ _ _).below A9).mono hB, e1, e2, (put4_below hb h8B).trans (A9.mono (by rw [hs]; exact h7B)), h7B, h8B⟩
theorem spl_new78 (hb : Below B W w4) (m1 : MineLw B4 w4 y1) (m2 : MineLw B4 w4 y2) (e1 : y1.ln = A) (e2 : y2.ln = C) (hB : B ≤ B4) (hw : B ≤ w4.heap.size) :
    SplR B W A C (.pointer (some ⟨w4.heap.size, 0, none⟩)) (.pointer (some ⟨w4.heap.size + 1, 0, none⟩)) ((w4.alloc (.cells #[.int .i64 y1.ln.q, .slice y1.za y1.ln.ls.length y1.zc, .int .i64 y1.ln.k, .slice y1.ra y1.ln.cs.length y1.rc] 46)).alloc (.cells #[.int .i64 y2.ln.q, .slice y2.za y2.ln.ls.length y2.zc, .int .i64 y2.ln.k, .slice y2.ra y2.ln.cs.length y2.rc] 46)) := by
  obtain ⟨g1, g2, g3⟩ := box_two w4 y1.ln.q y1.ln.k y2.ln.q y2.ln.k (.slice y1.za y1.ln.ls.length y1.zc) (.slice y1.ra y1.ln.cs.length y1.rc) (.slice y2.za y2.ln.ls.length y2.zc) (.slice y2.ra y2.ln.cs.length y2.rc)
  exact ⟨_, _, y1, y2, rfl, rfl, g2, g3, (m1.below g1).mono hB, (m2.below g1).mono hB, e1, e2, hb.trans (g1.mono hw), hw, Nat.le_succ_of_le hw⟩
theorem spl_new87 (hb : Below B W w4) (m1 : MineLw B4 w4 y1) (m2 : MineLw B4 w4 y2) (e1 : y1.ln = A) (e2 : y2.ln = C) (hB : B ≤ B4) (hw : B ≤ w4.heap.size) :
    SplR B W A C (.pointer (some ⟨w4.heap.size + 1, 0, none⟩)) (.pointer (some ⟨w4.heap.size, 0, none⟩)) ((w4.alloc (.cells #[.int .i64 y2.ln.q, .slice y2.za y2.ln.ls.length y2.zc, .int .i64 y2.ln.k, .slice y2.ra y2.ln.cs.length y2.rc] 46)).alloc (.cells #[.int .i64 y1.ln.q, .slice y1.za y1.ln.ls.length y1.zc, .int .i64 y1.ln.k, .slice y1.ra y1.ln.cs.length y1.rc] 46)) := by
  obtain ⟨g1, g2, g3⟩ := box_two w4 y2.ln.q y2.ln.k y1.ln.q y1.ln.k (.slice y2.za y2.ln.ls.length y2.zc) (.slice y2.ra y2.ln.cs.length y2.rc) (.slice y1.za y1.ln.ls.length y1.zc) (.slice y1.ra y1.ln.cs.length y1.rc)
  exact ⟨_, _, y1, y2, rfl, rfl, g3, g2, (m1.below g1).mono hB, (m2.below g1).mono hB, e1, e2, hb.trans (g1.mono hw), Nat.le_succ_of_le hw, hw⟩
end
theorem two_line (w : World) (y1 y2 : Lw) : SliceAt (w.alloc (.cells #[.int .i64 y1.ln.q, .slice y1.za y1.ln.ls.length y1.zc, .int .i64 y1.ln.k, .slice y1.ra y1.ln.cs.length y1.rc, .int .i64 y2.ln.q, .slice y2.za y2.ln.ls.length y2.zc, .int .i64 y2.ln.k, .slice y2.ra y2.ln.cs.length y2.rc] 46)) (.slice (some ⟨w.heap.size, 0, none⟩) 2 2) [y1, y2] := by
  refine .inr ⟨w.heap.size, 0, 2, rfl, Nat.le_refl _, by decide, by simp, LinesIn.of_flat (fun j u hu => ?_)⟩
  have h0 := World.alloc_heap_new w (.cells #[.int .i64 y1.ln.q, .slice y1.za y1.ln.ls.length y1.zc, .int .i64 y1.ln.k, .slice y1.ra y1.ln.cs.length y1.rc, .int .i64 y2.ln.q, .slice y2.za y2.ln.ls.length y2.zc, .int .i64 y2.ln.k, .slice y2.ra y2.ln.cs.length y2.rc] 46)
  rw [Nat.zero_add, cell_of_row _ _ j _ _ (0, 0) h0, ← Array.getElem?_toList]
  exact hu
theorem bcell3 {W w1 : World} (hb : Below W.heap.size W w1) : (∀ b o, b < W.heap.size → w1.cell? ⟨b, o, none⟩ = W.cell? ⟨b, o, none⟩) ∧ (∀ b o, b < W.heap.size → w1.frozen? ⟨b, o, none⟩ = W.frozen? ⟨b, o, none⟩) :=
  ⟨fun b o h => hb.cell (p := ⟨b, o, none⟩) h, fun b o h => hb.frozen (p := ⟨b, o, none⟩) h⟩

set_option maxRecDepth 20000 in
set_option maxHeartbeats 8000000 in
theorem dsplit_err (v : Value) (l : List Lw) (p1 p2 : Int) (w : World) (h : DocAt w v l) (hf : Fine (pl l)) (hE : Tg.Env w) (hA : askedD (pl l) (p1, p2) (p1, p2) = false ∨ l.length = 200) :
    Calls Tryz.prog 42 #[v, psV (p1, p2)] w (DocPE [] (0, 0) (if askedD (pl l) (p1, p2) (p1, p2) then 10 else 1) w) := by
  refine Calls.mono ?_ (fun e w' h => docPE_err h)
  obtain ⟨a, c, rfl⟩ := h.s.len
  have cA : ∀ w1, Below w.heap.size w w1 → _ := fun w1 h1 => dasked_any _ l p1 p2 p1 p2 w1 (h.below h1) hf (hE.below h1)
  have P0 := Lib.hid ((ps_new w p1 p2).below (below_alloc1 _ (.cells #[.int .i64 0, .int .i64 0] 24)))
  have P1 := Lib.hid (ps_new (w.alloc (.cells #[.int .i64 p1, .int .i64 p2] 24)) 0 0)
  rw [show (w.alloc (.cells #[.int .i64 p1, .int .i64 p2] 24)).heap.size = w.heap.size + 1 by simp] at P1
  have hX := Lib.hid (two_allocs w (.cells #[.int .i64 p1, .int .i64 p2] 24) (.cells #[.int .i64 0, .int .i64 0] 24))
  obtain ⟨n, hn⟩ : ∃ n, l.length = n := ⟨_, rfl⟩
  unfold psV at *
  dsimp only at *
  cases hB : askedD (pl l) (p1, p2) (p1, p2) with
  | false =>
    rw [hB] at cA
    rw [hn] at cA ⊢
    rw [if_neg (by decide)]
    clear h hf hE hA hn hB
    go_enter Tryz.func42, Tryz.ntmps42
    go_wp2_with (go_at_call 75; ((with_reducible refine (cA _ hX.out).mono ?_); rintro e w2 ⟨rfl, hk⟩; have hb := hX.out.trans (hk.mono hX.out.size); obtain ⟨_, y0, y1, f0, f1⟩ := P1.out.below hk))
    exact bodyPost_ret (v := .tuple #[.slice none 0 0, .agg #[.int .i64 0, .int .i64 0], .int .i64 1]) (by simp [results, Tryz.results42, go_sem, *]) rfl ⟨rfl, (hb.setCell (p := ⟨w.heap.size + 1, 0, none⟩) (Nat.le_succ _) _).setCell (p := ⟨w.heap.size + 1, 1, none⟩) (Nat.le_succ _) _⟩
  | true =>
    have h200 : n = 200 := by
      rcases hA with h1 | h1
      · rw [hB] at h1; cases h1
      · exact hn.symm.trans h1
    rw [hB] at cA
    rw [hn] at cA ⊢
    subst h200
    rw [if_pos rfl]
    clear h hf hE hA hn hB
    go_enter Tryz.func42, Tryz.ntmps42
    go_wp2_with (go_at_call 75; ((with_reducible refine (cA _ hX.out).mono ?_); rintro e w2 ⟨rfl, hk⟩; have hb := hX.out.trans (hk.mono hX.out.size); obtain ⟨_, y0, y1, f0, f1⟩ := P1.out.below hk))
    exact bodyPost_ret (v := .tuple #[.slice none 0 0, .agg #[.int .i64 0, .int .i64 0], .int .i64 10]) (by simp [results, Tryz.results42, go_sem, *]) rfl ⟨rfl, (hb.setCell (p := ⟨w.heap.size + 1, 0, none⟩) (Nat.le_succ _) _).setCell (p := ⟨w.heap.size + 1, 1, none⟩) (Nat.le_succ _) _⟩

set_option maxRecDepth 40000 in
set_option maxHeartbeats 32000000 in
theorem dsplit_ok (v : Value) (l : List Lw) (i k : Nat) (w : World) (h : DocAt w v l) (hf : Fine (pl l)) (hE : Tg.Env w) (hi : i < l.length) (hk : k ≤ cnt (pl l) i) (hmay : mayD (pl l) = true) (h200 : l.length ≠ 200) :
    Calls Tryz.prog 42 #[v, psV ((i : Int), (k : Int))] w (DocPE (splitD (pl l) i k) ((i : Int) + 1, 0) 0 w) := by
  obtain ⟨a, c, rfl⟩ := h.s.len
  have hX := two_allocs w (.cells #[.int .i64 (i : Int), .int .i64 (k : Int)] 24) (.cells #[.int .i64 0, .int .i64 0] 24)
  have cA : ∀ w1, Below w.heap.size w w1 → _ := fun w1 h1 => dasked_any (.slice a l.length c) l (i : Int) (k : Int) (i : Int) (k : Int) w1 (h.below h1) hf (hE.below h1)
  rw [askedD_mk (bl := i) (ba := k) ⟨by rw [pl_length]; exact hi, Nat.le_refl _, hk, hk, fun _ => Nat.le_refl _⟩ hmay] at cA
  rw [cnt_pl hi] at hk
  obtain ⟨b, o, q, za, n1, zc, kk, ra, n2, rc, rfl, _, hlc, hcm, hbs, x0, x1, x2, x3, hag, hlw, hr, hz1, hz2, hz3, hpg⟩ := lines_at h hf hi
  unfold maxLen at hcm
  have hms : mayS (l[i]!).ln = true := mayD_mem hmay (by unfold pl; exact List.mem_map.2 ⟨_, mem_get hi, rfl⟩)
  obtain ⟨x, hx⟩ : ∃ x, l[i]! = x := ⟨_, rfl⟩
  rw [hx] at hag hlw hr hz1 hz2 hz3 hpg hk hms
  have cS : ∀ w1, Below w.heap.size w w1 → _ := fun w1 h1 => lsplitA x k w1 (hlw.below h1) ⟨hz1, hz2, hz3⟩ (hE.below h1) hms hk
  rw [hag] at cS
  have cR : ∀ (B : Nat) (w1 : World) (v2 : Value) (y1 y2 : Lw), Below w.heap.size w w1 → SliceAt w1 v2 [y1, y2] → MineLw B w1 y1 → MineLw B w1 y2 → B ≤ w1.heap.size → _ := fun B w1 v2 y1 y2 h1 h2 h3 h4 h5 => dreplace_any (.slice (some ⟨b, o, none⟩) l.length c) v2 l [y1, y2] i k i k B w1 (h.below h1) hf hi (Nat.le_refl _) h2 (fun z hz => by
    rcases List.mem_cons.1 hz with rfl | hz
    · exact h3
    · obtain rfl := List.mem_singleton.1 hz; exact h4) (by simp) h5
  obtain ⟨A, hA⟩ : ∃ A, splA x.ln k = A := ⟨_, rfl⟩
  obtain ⟨C, hC⟩ : ∃ C, splB x.ln k = C := ⟨_, rfl⟩
  rw [hA, hC] at cS
  have hspl : ∀ y1 y2 : Lw, y1.ln = A → y2.ln = C → replaceD (pl l) i i (pl [y1, y2]) = splitD (pl l) i k := fun y1 y2 h1 h2 => by
    unfold splitD
    rw [hpg, hA, hC]
    unfold pl
    rw [List.map_cons, List.map_cons, List.map_nil, h1, h2]
  have hK : ∀ V', Below w.heap.size w V' → V'.cell? ⟨b, o + i * 4, none⟩ = some (.int .i64 q) ∧ V'.cell? ⟨b, o + i * 4 + 1, none⟩ = some (.slice za n1 zc) ∧ V'.cell? ⟨b, o + i * 4 + 2, none⟩ = some (.int .i64 kk) ∧ V'.cell? ⟨b, o + i * 4 + 3, none⟩ = some (.slice ra n2 rc) := fun V' hV' =>
    ⟨(hV'.cell (lt_of_cell' x0)).trans x0, (hV'.cell (lt_of_cell' x1)).trans x1, (hV'.cell (lt_of_cell' x2)).trans x2, (hV'.cell (lt_of_cell' x3)).trans x3⟩
  have HK := Lib.hid hK
  have HD := Lib.hid hspl
  have A0 := Lib.hid ((ps_new w (i : Int) (k : Int)).below (below_alloc1 _ (.cells #[.int .i64 0, .int .i64 0] 24)))
  have A1 := Lib.hid (ps_new (w.alloc (.cells #[.int .i64 (i : Int), .int .i64 (k : Int)] 24)) 0 0)
  rw [show (w.alloc (.cells #[.int .i64 (i : Int), .int .i64 (k : Int)] 24)).heap.size = w.heap.size + 1 by simp] at A1
  have HX := Lib.hid hX
  have hln := hf.len
  unfold psV at *
  dsimp only at *
  obtain ⟨n, hn⟩ : ∃ n, l.length = n := ⟨_, rfl⟩
  rw [hn] at cA cR hlc hi h200 hln ⊢
  have h200I : ¬ (n : Int) = 200 := by omega
  have h200b : ((n : Int) == 200) = false := by simpa using h200I
  have hiI : (i : Int) < (n : Int) := by omega
  clear h hf hE hmay hX hx hag hlw hr hz1 hz2 hz3 hpg hK hspl x0 x1 x2 x3 hn hA hC hk hms h200
  go_enter Tryz.func42, Tryz.ntmps42
  go_upto_region 5 with (first
    | (go_at_call 75; ((with_reducible refine (cA _ HX.out).mono ?_); rintro e w2 ⟨rfl, hk⟩; have KW := Lib.hid hk; have hb := Lib.hid (HX.out.trans (hk.mono HX.out.size)); obtain ⟨x0, x1, x2, x3⟩ := HK.out _ hb.out; obtain ⟨_, y0, y1, _, _⟩ := A0.out.below hk; have hw2 : w.heap.size + 1 < w2.heap.size := Nat.lt_of_lt_of_le (by simp) hk.size; clear hk)))
  have hbs2 : b < w2.heap.size := Nat.lt_of_lt_of_le hbs hb.out.size
  go_cut [7, 8, 9] (fun s7 s8 s9 wx => SplR w2.heap.size w2 A C s7 s8 wx ∧ s9 = .int .i64 0)
  case first =>
    have hS : (w2.cell? ⟨b, o + i * 4, none⟩ = some (.int .i64 q) ∧ w2.cell? ⟨b, o + i * 4 + 1, none⟩ = some (.slice za n1 zc) ∧ w2.cell? ⟨b, o + i * 4 + 2, none⟩ = some (.int .i64 kk) ∧ w2.cell? ⟨b, o + i * 4 + 3, none⟩ = some (.slice ra n2 rc) ∧ w2.cell? ⟨w.heap.size, 0, none⟩ = some (.int .i64 (i : Int)) ∧ w2.cell? ⟨w.heap.size, 1, none⟩ = some (.int .i64 (k : Int))) := ⟨x0, x1, x2, x3, y0, y1⟩
    have KS : Hid (∀ w', Below w2.heap.size w2 w' → (w'.cell? ⟨b, o + i * 4, none⟩ = some (.int .i64 q) ∧ w'.cell? ⟨b, o + i * 4 + 1, none⟩ = some (.slice za n1 zc) ∧ w'.cell? ⟨b, o + i * 4 + 2, none⟩ = some (.int .i64 kk) ∧ w'.cell? ⟨b, o + i * 4 + 3, none⟩ = some (.slice ra n2 rc) ∧ w'.cell? ⟨w.heap.size, 0, none⟩ = some (.int .i64 (i : Int)) ∧ w'.cell? ⟨w.heap.size, 1, none⟩ = some (.int .i64 (k : Int)))) := Lib.hid (fun w' h => ⟨(h.cell (lt_of_cell' x0)).trans x0, (h.cell (lt_of_cell' x1)).trans x1, (h.cell (lt_of_cell' x2)).trans x2, (h.cell (lt_of_cell' x3)).trans x3, (h.cell (lt_of_cell' y0)).trans y0, (h.cell (lt_of_cell' y1)).trans y1⟩)
    have bV : Hid (∀ w', Below w2.heap.size w2 w' → Below w.heap.size w w') := Lib.hid (fun w' h => hb.out.trans (h.mono hb.out.size))
    clear hb x0 x1 x2 x3 y0 y1 cA cR
    have hb : Hid (Below w2.heap.size w2 w2) := Lib.hid (Below.refl _ _)
    go_region_held3 (fun w' => (w'.cell? ⟨b, o + i * 4, none⟩ = some (.int .i64 q) ∧ w'.cell? ⟨b, o + i * 4 + 1, none⟩ = some (.slice za n1 zc) ∧ w'.cell? ⟨b, o + i * 4 + 2, none⟩ = some (.int .i64 kk) ∧ w'.cell? ⟨b, o + i * 4 + 3, none⟩ = some (.slice ra n2 rc) ∧ w'.cell? ⟨w.heap.size, 0, none⟩ = some (.int .i64 (i : Int)) ∧ w'.cell? ⟨w.heap.size, 1, none⟩ = some (.int .i64 (k : Int)))) (first | (with_reducible exact hS) | exact KS.out _ (by (repeat (first | (with_reducible exact hb.out) | (with_reducible exact Below.refl _ _) | (with_reducible refine Below.drew ?_) | (with_reducible refine Below.alloc ?_ ?_ _) | (with_reducible refine Below.setCell ?_ ?_ _) | omega | (simp <;> omega))))) (first
      | (go_at_call 81; ((with_reducible refine (cS _ (bV.out _ ?hb)).mono ?_); (case hb => (repeat (first | (with_reducible exact hb.out) | (with_reducible exact Below.refl _ _) | (with_reducible refine Below.drew ?_) | (with_reducible refine Below.alloc ?_ ?_ _) | (with_reducible refine Below.setCell ?_ ?_ _) | omega | (simp <;> omega)))); rintro e w4 ⟨y1, y2, rfl, e1, e2, m1, m2, hb2⟩; have hd := Lib.hid ((show Below w2.heap.size w2 _ by (repeat (first | (with_reducible exact hb.out) | (with_reducible exact Below.refl _ _) | (with_reducible refine Below.drew ?_) | (with_reducible refine Below.alloc ?_ ?_ _) | (with_reducible refine Below.setCell ?_ ?_ _) | omega | (simp <;> omega)))).trans (hb2.mono (by (first | omega | (simp; done) | (simp; omega))))); obtain ⟨hc4, hf4⟩ := bcell3 hb2; have hz4 := hb2.size; (try simp at hz4); have HM := Lib.hid (And.intro m1 (And.intro m2 (And.intro e1 e2))); have hs4 : w2.heap.size ≤ w4.heap.size := hd.out.size; (try have hy4 : w2.heap.size < w4.heap.size := by omega); (try have hp4 : w2.heap.size + 1 < w4.heap.size := by omega); (try have hq4 : w4.heap.size ≠ w2.heap.size := by omega); (try have hr4 : w2.heap.size ≠ w4.heap.size := by omega); unfold aggL Lw.sl Lw.sc; clear hb; have hb := hd; replace hS := KS.out _ hb.out; clear hd hb2 m1 m2 e1 e2)))
    all_goals go_wp2_with fail
    all_goals go_meet
    all_goals refine ⟨?_, rfl⟩
    all_goals first
      | (with_reducible refine spl_put (q5 := 0) (s5 := .slice none 0 0) (k5 := 0) (c5 := .slice none 0 0) (q6 := 0) (s6 := .slice none 0 0) (k6 := 0) (c6 := .slice none 0 0) hb.out HM.out.1 HM.out.2.1 HM.out.2.2.1 HM.out.2.2.2 ?_ ?_ ?_ ?_ ?_ ?_ ?_ ?_ <;> (first | (first | omega | (simp; done) | (simp; omega)) | (constructor <;> (first | (first | omega | (simp; done) | (simp; omega)) | (simp [go_sem, *]; done)))))
      | (with_reducible refine spl_mix7 (q5 := 0) (s5 := .slice none 0 0) (k5 := 0) (c5 := .slice none 0 0) hb.out HM.out.1 HM.out.2.1 HM.out.2.2.1 HM.out.2.2.2 ?_ ?_ ?_ ?_ ?_ <;> (first | (first | omega | (simp; done) | (simp; omega)) | (constructor <;> (first | (first | omega | (simp; done) | (simp; omega)) | (simp [go_sem, *]; done)))))
      | (with_reducible refine spl_mix8 (q5 := 0) (s5 := .slice none 0 0) (k5 := 0) (c5 := .slice none 0 0) hb.out HM.out.1 HM.out.2.1 HM.out.2.2.1 HM.out.2.2.2 ?_ ?_ ?_ ?_ ?_ <;> (first | (first | omega | (simp; done) | (simp; omega)) | (constructor <;> (first | (first | omega | (simp; done) | (simp; omega)) | (simp [go_sem, *]; done)))))
      | (with_reducible refine spl_new78 hb.out HM.out.1 HM.out.2.1 HM.out.2.2.1 HM.out.2.2.2 ?_ ?_ <;> (first | (first | omega | (simp; done) | (simp; omega)) | (constructor <;> (first | (first | omega | (simp; done) | (simp; omega)) | (simp [go_sem, *]; done)))))
      | (with_reducible refine spl_new87 hb.out HM.out.1 HM.out.2.1 HM.out.2.2.1 HM.out.2.2.2 ?_ ?_ <;> (first | (first | omega | (simp; done) | (simp; omega)) | (constructor <;> (first | (first | omega | (simp; done) | (simp; omega)) | (simp [go_sem, *]; done)))))
  case rest =>
    clear cA cS x0 x1 x2 x3 y0 y1
    obtain ⟨p7, p8, y1, y2, rfl, rfl, hB7, hB8, m1, m2, e1, e2, hBe, b7, b8⟩ := hcut.1
    obtain rfl := hcut.2
    have g7 := hB7.lt
    have g8 := hB8.lt
    have hsc := hBe.size
    have hsw := hb.out.size
    have i7 : p7 ≠ w.heap.size + 1 := by omega
    have i8 : p8 ≠ w.heap.size + 1 := by omega
    have j7 : w.heap.size + 1 ≠ p7 := by omega
    have j8 : w.heap.size + 1 ≠ p8 := by omega
    have hwk : IntKind.i64.wrap ((i : Int) + 1) = (i : Int) + 1 := IntWalk.i64_in _ (by omega)
    have HM := Lib.hid (And.intro m1 (And.intro m2 (And.intro e1 e2)))
    have hbW := Lib.hid (hb.out.trans (hBe.mono hsw))
    have KB := Lib.hid (KW.out.trans (hBe.mono KW.out.size))
    have KS : Hid (∀ w', Below wc.heap.size wc w' → (w'.cell? ⟨p7, 0, none⟩ = some (.int .i64 y1.ln.q) ∧ w'.cell? ⟨p7, 1, none⟩ = some (.slice y1.za y1.ln.ls.length y1.zc) ∧ w'.cell? ⟨p7, 2, none⟩ = some (.int .i64 y1.ln.k) ∧ w'.cell? ⟨p7, 3, none⟩ = some (.slice y1.ra y1.ln.cs.length y1.rc) ∧ w'.cell? ⟨p8, 0, none⟩ = some (.int .i64 y2.ln.q) ∧ w'.cell? ⟨p8, 1, none⟩ = some (.slice y2.za y2.ln.ls.length y2.zc) ∧ w'.cell? ⟨p8, 2, none⟩ = some (.int .i64 y2.ln.k) ∧ w'.cell? ⟨p8, 3, none⟩ = some (.slice y2.ra y2.ln.cs.length y2.rc) ∧ w'.cell? ⟨w.heap.size, 0, none⟩ = some (.int .i64 (i : Int)) ∧ w'.cell? ⟨w.heap.size, 1, none⟩ = some (.int .i64 (k : Int)) ∧ w'.frozen? ⟨w.heap.size + 1, 0, none⟩ = false ∧ w'.frozen? ⟨w.heap.size + 1, 1, none⟩ = false)) := Lib.hid (fun w' h => by
      obtain ⟨_, a0, a1, a2, a3, _⟩ := hB7.below h
      obtain ⟨_, b0, b1, b2, b3, _⟩ := hB8.below h
      obtain ⟨_, c0, c1, _, _⟩ := (A0.out.below KB.out).below h
      obtain ⟨_, _, _, d2, d3⟩ := (A1.out.below KB.out).below h
      exact ⟨a0, a1, a2, a3, b0, b1, b2, b3, c0, c1, d2, d3⟩)
    have hS : (wc.cell? ⟨p7, 0, none⟩ = some (.int .i64 y1.ln.q) ∧ wc.cell? ⟨p7, 1, none⟩ = some (.slice y1.za y1.ln.ls.length y1.zc) ∧ wc.cell? ⟨p7, 2, none⟩ = some (.int .i64 y1.ln.k) ∧ wc.cell? ⟨p7, 3, none⟩ = some (.slice y1.ra y1.ln.cs.length y1.rc) ∧ wc.cell? ⟨p8, 0, none⟩ = some (.int .i64 y2.ln.q) ∧ wc.cell? ⟨p8, 1, none⟩ = some (.slice y2.za y2.ln.ls.length y2.zc) ∧ wc.cell? ⟨p8, 2, none⟩ = some (.int .i64 y2.ln.k) ∧ wc.cell? ⟨p8, 3, none⟩ = some (.slice y2.ra y2.ln.cs.length y2.rc) ∧ wc.cell? ⟨w.heap.size, 0, none⟩ = some (.int .i64 (i : Int)) ∧ wc.cell? ⟨w.heap.size, 1, none⟩ = some (.int .i64 (k : Int)) ∧ wc.frozen? ⟨w.heap.size + 1, 0, none⟩ = false ∧ wc.frozen? ⟨w.heap.size + 1, 1, none⟩ = false) := KS.out wc (Below.refl _ _)
    clear m1 m2 e1 e2 hB7 hB8 hBe hb
    have hb : Hid (Below wc.heap.size wc wc) := Lib.hid (Below.refl _ _)
    go_upto_region 8 with fail
    go_region_held3 (fun w' => (w'.cell? ⟨p7, 0, none⟩ = some (.int .i64 y1.ln.q) ∧ w'.cell? ⟨p7, 1, none⟩ = some (.slice y1.za y1.ln.ls.length y1.zc) ∧ w'.cell? ⟨p7, 2, none⟩ = some (.int .i64 y1.ln.k) ∧ w'.cell? ⟨p7, 3, none⟩ = some (.slice y1.ra y1.ln.cs.length y1.rc) ∧ w'.cell? ⟨p8, 0, none⟩ = some (.int .i64 y2.ln.q) ∧ w'.cell? ⟨p8, 1, none⟩ = some (.slice y2.za y2.ln.ls.length y2.zc) ∧ w'.cell? ⟨p8, 2, none⟩ = some (.int .i64 y2.ln.k) ∧ w'.cell? ⟨p8, 3, none⟩ = some (.slice y2.ra y2.ln.cs.length y2.rc) ∧ w'.cell? ⟨w.heap.size, 0, none⟩ = some (.int .i64 (i : Int)) ∧ w'.cell? ⟨w.heap.size, 1, none⟩ = some (.int .i64 (k : Int)) ∧ w'.frozen? ⟨w.heap.size + 1, 0, none⟩ = false ∧ w'.frozen? ⟨w.heap.size + 1, 1, none⟩ = false)) (first | (with_reducible exact hS) | (refine KS.out _ ?_; (repeat (first | (with_reducible exact hb.out) | (with_reducible exact Below.refl _ _) | (with_reducible refine Below.drew ?_) | (with_reducible refine Below.alloc ?_ ?_ _) | (with_reducible refine Below.setCell ?_ ?_ _) | omega | (simp <;> omega))); done) | (refine ⟨?_, ?_, ?_, ?_, ?_, ?_, ?_, ?_, ?_, ?_, ?_, ?_⟩ <;> (first | (simp [go_sem, *]; done) | (obtain ⟨_, _, _, _, _, _, _, _, _, _, _, _⟩ := hS; simp [go_sem, *]; done)))) (first
      | (go_at_call 78; ((with_reducible refine (cR w2.heap.size _ _ y1 y2 (hbW.out.trans ((show Below wc.heap.size wc _ by (repeat (first | (with_reducible exact hb.out) | (with_reducible exact Below.refl _ _) | (with_reducible refine Below.drew ?_) | (with_reducible refine Below.alloc ?_ ?_ _) | (with_reducible refine Below.setCell ?_ ?_ _) | omega | (simp <;> omega)))).mono (by omega))) (by first | exact two_line _ y1 y2 | exact (two_line _ y1 y2).below (Below.drew (Below.refl _ _))) (HM.out.1.below (by (repeat (first | (with_reducible exact hb.out) | (with_reducible exact Below.refl _ _) | (with_reducible refine Below.drew ?_) | (with_reducible refine Below.alloc ?_ ?_ _) | (with_reducible refine Below.setCell ?_ ?_ _) | omega | (simp <;> omega))))) (HM.out.2.1.below (by (repeat (first | (with_reducible exact hb.out) | (with_reducible exact Below.refl _ _) | (with_reducible refine Below.drew ?_) | (with_reducible refine Below.alloc ?_ ?_ _) | (with_reducible refine Below.setCell ?_ ?_ _) | omega | (simp <;> omega))))) (by (try simp); omega)).mono ?_); rintro e w7 ⟨v7, r7, rfl, o7, p7', h7⟩; have hd := Lib.hid ((show Below wc.heap.size wc _ by (repeat (first | (with_reducible exact hb.out) | (with_reducible exact Below.refl _ _) | (with_reducible refine Below.drew ?_) | (with_reducible refine Below.alloc ?_ ?_ _) | (with_reducible refine Below.setCell ?_ ?_ _) | omega | (simp <;> omega)))).trans (h7.mono (by (first | omega | (simp; done) | (simp; omega))))); have O7 := Lib.hid (And.intro o7 p7'); clear hb o7 p7' h7; have hb := hd; replace hS := KS.out _ hb.out; obtain ⟨_, d0, d1, _, _⟩ := (A1.out.below KB.out).below hb.out; clear hd)))
    all_goals go_wp2_with fail
    all_goals exact bodyPost_ret (v := .tuple #[v7, .agg #[.int .i64 ((i : Int) + 1), .int .i64 0], .int .i64 0]) (by simp [results, Tryz.results42, go_sem, *]) rfl ⟨v7, r7, rfl, (((O7.out.1.set (p := ⟨w.heap.size + 1, 0, none⟩) hw2 _).set (p := ⟨w.heap.size + 1, 1, none⟩) hw2 _).mono hsw), O7.out.2.trans (HD.out y1 y2 HM.out.2.2.1 HM.out.2.2.2), ((hbW.out.trans (hb.out.mono (by omega))).setCell (p := ⟨w.heap.size + 1, 0, none⟩) (Nat.le_succ _) _).setCell (p := ⟨w.heap.size + 1, 1, none⟩) (Nat.le_succ _) _⟩
theorem dsplit_any (v : Value) (l : List Lw) (p1 p2 : Int) (w : World) (h : DocAt w v l) (hf : Fine (pl l)) (hE : Tg.Env w) :
    Calls Tryz.prog 42 #[v, psV (p1, p2)] w (DocPE (splitP (pl l) (p1, p2)).1 (splitP (pl l) (p1, p2)).2.1 (splitP (pl l) (p1, p2)).2.2 w) := by
  unfold splitP
  cases hA : askedD (pl l) (p1, p2) (p1, p2) with
  | false =>
    have := dsplit_err v l p1 p2 w h hf hE (.inl hA)
    rw [hA] at this
    exact this
  | true =>
    by_cases h200 : l.length = 200
    · have := dsplit_err v l p1 p2 w h hf hE (.inr h200)
      rw [hA] at this
      rw [if_pos rfl, if_pos (by rw [pl_length]; exact h200)]
      exact this
    · obtain ⟨al, aa, bl, ba, hp, _, hsp, hmay⟩ := askedD_span hA
      simp only [Prod.mk.injEq] at hp
      obtain ⟨rfl, rfl⟩ := hp
      rw [if_pos rfl, if_neg (by rw [pl_length]; exact h200)]
      have hal : al < l.length := by have := hsp.hb; have := hsp.hab; rw [pl_length] at *; omega
      exact dsplit_ok v l al aa w h hf hE hal hsp.hka hmay h200

end Go.Proofs.YtafincmcmgedbaaGreatDoor
