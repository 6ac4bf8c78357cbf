/-
  The program's Split of a document.
  The program's Insert, Part of a document.
  What is put in, split, deleted, and taken back: plain.
  The document's Insert.
-/
import Derived.Test.YtafincmcmgedbaaGreatDoorCDocK
import Derived.Test.YtafincmcmgedbaaGreatDoorCSplitTop
import Derived.Deep.RegionHeld3
import Derived.Deep.DeepCutAuto
import Derived.Test.YtafincmcmgedbaaGreatDoorCDocY
import Derived.Test.YtafincmcmgedbaaGreatDoorCFit
import Derived.Test.YtafincmcmgedbaaGreatDoorCRfCuts

namespace Go.Proofs.YtafincmcmgedbaaGreatDoor
open Go.RowKit Go.Lib

def splA (x : Ln) (k : Nat) : Ln := lnWith x (x.cs.take k)
def splB (x : Ln) (k : Nat) : Ln := ⟨x.q, x.ls, if k = x.cs.length then 0 else x.k, x.cs.drop k⟩
def splitD (d : Doc) (i k : Nat) : Doc := replaceD d i i [splA d[i]! k, splB d[i]! k]
def splitP (d : Doc) (p : Ps) : Doc × Ps × Int := if askedD d p p then (if d.length = 200 then ([], (0, 0), 10) else (splitD d p.1.toNat p.2.toNat, (p.1 + 1, 0), 0)) else ([], (0, 0), 1)
theorem splitS_in {x : Ln} {k : Nat} (hm : mayS x = true) (hk : k ≤ x.cs.length) : splitS (k : Int) x = (0, splA x k, splB x k) := by
  unfold splitS splitO
  rw [if_pos hm, if_pos (by unfold fitB; simp; omega), Int.toNat_natCast]
  rfl
theorem lsplitA (x : Lw) (k : Nat) (w : World) (h : LwAt w x) (hz : x.ln.ls.length ≤ 50000 ∧ x.ln.cs.length ≤ 50000 ∧ Fair x.ln.cs) (hE : Tg.Env w) (hm : mayS x.ln = true) (hk : k ≤ x.ln.cs.length) :
    Calls Tryz.prog 81 #[aggL x, .int .i64 (k : Int)] w fun e w' => ∃ y1 y2 : Lw, e = .returned (.tuple #[aggL y1, aggL y2, .int .i64 0]) ∧ y1.ln = splA x.ln k ∧ y2.ln = splB x.ln k ∧ MineLw w.heap.size w' y1 ∧ MineLw w.heap.size w' y2 ∧ Below w.heap.size w w' := by
  have hc := Split_any x.ln.q x.ln.k (k : Int) x.sl x.sc x.ln.ls x.ln.cs w h hz.1 hz.2.1 hz.2.2 hE
  refine hc.mono ?_
  rintro e w' ⟨D, sl, sc, sl2, sc2, he, m1, m2, hb, hD1, hD2⟩
  have hs : splitS (k : Int) ⟨x.ln.q, x.ln.ls, x.ln.k, x.ln.cs⟩ = (0, splA x.ln k, splB x.ln k) := splitS_in hm hk
  rw [hs] at he m1 m2
  obtain ⟨y1, a1, a2, a3, a4⟩ := lw_of_mine (q := x.ln.q) (k := x.ln.k) m1 hD2
  obtain ⟨y2, b1, b2, b3, b4⟩ := lw_of_mine (q := x.ln.q) (k := if k = x.ln.cs.length then 0 else x.ln.k) m2 (Nat.le_refl _)
  refine ⟨y1, y2, ?_, a3, b3, a4, b4.mono hD1, hb⟩
  rw [he]
  unfold aggL
  rw [a1, a2, a3, b1, b2, b3]
  rfl
/-- What a call answers that makes a document, and tells a place, beside an error. -/
def DocPE (d : Doc) (p : Ps) (er : Int) (w : World) (e : Ending) (w' : World) : Prop := ∃ v r, e = .returned (.tuple #[v, psV p, .int .i64 er]) ∧ OwnD w.heap.size w' v r ∧ pl r = d ∧ Below w.heap.size w w'
theorem docPE_err {w : World} {e : Ending} {w' : World} {er : Int} (h : e = .returned (.tuple #[.slice none 0 0, psV (0, 0), .int .i64 er]) ∧ Below w.heap.size w w') : DocPE [] (0, 0) er w e w' := ⟨_, [], h.1, ownD_nil _ _, rfl, h.2⟩
theorem MineLw.put4 {B p : Nat} {w : World} {y : Lw} (h : MineLw B w y) (hp : p < B) (q k : Int) (s c : Value) : MineLw B (put4 w p q s k c) y := by
  have h1 := h.set (p := ⟨p, 0, none⟩) (offB_lo h hp) (.int .i64 q)
  have h2 := h1.set (p := ⟨p, 1, none⟩) (offB_lo h1 hp) s
  have h3 := h2.set (p := ⟨p, 2, none⟩) (offB_lo h2 hp) (.int .i64 k)
  exact h3.set (p := ⟨p, 3, none⟩) (offB_lo h3 hp) c
/-- The two lines, the two variables. -/
def SplR (B : Nat) (W : World) (A C : Ln) (s7 s8 : Value) (wx : World) : Prop :=
  ∃ p7 p8 y1 y2, s7 = .pointer (some ⟨p7, 0, none⟩) ∧ s8 = .pointer (some ⟨p8, 0, none⟩) ∧ BoxAt wx p7 y1.ln.q (.slice y1.za y1.ln.ls.length y1.zc) y1.ln.k (.slice y1.ra y1.ln.cs.length y1.rc) ∧ BoxAt wx p8 y2.ln.q (.slice y2.za y2.ln.ls.length y2.zc) y2.ln.k (.slice y2.ra y2.ln.cs.length y2.rc) ∧ MineLw B wx y1 ∧ MineLw B wx y2 ∧ y1.ln = A ∧ y2.ln = C ∧ Below B W wx ∧ B ≤ p7 ∧ B ≤ p8
section
variable {B B4 p7 p8 : Nat} {W w4 : World} {A C : Ln} {y1 y2 : Lw} {q5 k5 q6 k6 : Int} {s5 c5 s6 c6 : Value}
theorem spl_put (hb : Below B W w4) (m1 : MineLw B4 w4 y1) (m2 : MineLw B4 w4 y2) (e1 : y1.ln = A) (e2 : y2.ln = C) (hB : B ≤ B4) (h7 : BoxAt w4 p7 q5 s5 k5 c5) (h8 : BoxAt w4 p8 q6 s6 k6 c6) (hne : p7 ≠ p8) (h7B : B ≤ p7) (h8B : B ≤ p8) (l7 : p7 < B4) (l8 : p8 < B4) :
    SplR B W A C (.pointer (some ⟨p7, 0, none⟩)) (.pointer (some ⟨p8, 0, none⟩)) (put4 (put4 w4 p7 y1.ln.q (.slice y1.za y1.ln.ls.length y1.zc) y1.ln.k (.slice y1.ra y1.ln.cs.length y1.rc)) p8 y2.ln.q (.slice y2.za y2.ln.ls.length y2.zc) y2.ln.k (.slice y2.ra y2.ln.cs.length y2.rc)) :=
  ⟨p7, p8, y1, y2, rfl, rfl, put4_far (put4_box h7) hne, put4_box (put4_far h8 (Ne.symm hne)), ((m1.put4 l7 _ _ _ _).put4 l8 _ _ _ _).mono hB, ((m2.put4 l7 _ _ _ _).put4 l8 _ _ _ _).mono hB, e1, e2, put4_below (put4_below hb h7B) h8B, h7B, h8B⟩
theorem spl_mix7 (hb : Below B W w4) (m1 : MineLw B4 w4 y1) (m2 : MineLw B4 w4 y2) (e1 : y1.ln = A) (e2 : y2.ln = C) (hB : B ≤ B4) (h7 : BoxAt w4 p7 q5 s5 k5 c5) (h7B : B ≤ p7) (l7 : p7 < B4) (h8B : B ≤ w4.heap.size) :
    SplR B W A C (.pointer (some ⟨p7, 0, none⟩)) (.pointer (some ⟨w4.heap.size, 0, none⟩)) ((put4 w4 p7 y1.ln.q (.slice y1.za y1.ln.ls.length y1.zc) y1.ln.k (.slice y1.ra y1.ln.cs.length y1.rc)).alloc (.cells #[.int .i64 y2.ln.q, .slice y2.za y2.ln.ls.length y2.zc, .int .i64 y2.ln.k, .slice y2.ra y2.ln.cs.length y2.rc] 46)) := by
  have hs := put4_size w4 p7 y1.ln.q y1.ln.k (.slice y1.za y1.ln.ls.length y1.zc) (.slice y1.ra y1.ln.cs.length y1.rc)
  have hx := box_new (put4 w4 p7 y1.ln.q (.slice y1.za y1.ln.ls.length y1.zc) y1.ln.k (.slice y1.ra y1.ln.cs.length y1.rc)) y2.ln.q y2.ln.k (.slice y2.za y2.ln.ls.length y2.zc) (.slice y2.ra y2.ln.cs.length y2.rc)
  have A9 := below_alloc1 (put4 w4 p7 y1.ln.q (.slice y1.za y1.ln.ls.length y1.zc) y1.ln.k (.slice y1.ra y1.ln.cs.length y1.rc)) (.cells #[.int .i64 y2.ln.q, .slice y2.za y2.ln.ls.length y2.zc, .int .i64 y2.ln.k, .slice y2.ra y2.ln.cs.length y2.rc] 46)
  rw [hs] at hx
  exact ⟨p7, _, y1, y2, rfl, rfl, (put4_box h7).below A9, hx, ((m1.put4 l7 _ _ _ _).below A9).mono hB, ((m2.put4 l7 _ _ _ _).below A9).mono hB, e1, e2, (put4_below hb h7B).trans (A9.mono (by rw [hs]; exact h8B)), h7B, h8B⟩
theorem spl_mix8 (hb : Below B W w4) (m1 : MineLw B4 w4 y1) (m2 : MineLw B4 w4 y2) (e1 : y1.ln = A) (e2 : y2.ln = C) (hB : B ≤ B4) (h8 : BoxAt w4 p8 q5 s5 k5 c5) (h8B : B ≤ p8) (l8 : p8 < B4) (h7B : B ≤ w4.heap.size) :
    SplR B W A C (.pointer (some ⟨w4.heap.size, 0, none⟩)) (.pointer (some ⟨p8, 0, none⟩)) ((put4 w4 p8 y2.ln.q (.slice y2.za y2.ln.ls.length y2.zc) y2.ln.k (.slice y2.ra y2.ln.cs.length y2.rc)).alloc (.cells #[.int .i64 y1.ln.q, .slice y1.za y1.ln.ls.length y1.zc, .int .i64 y1.ln.k, .slice y1.ra y1.ln.cs.length y1.rc] 46)) := by
  have hs := put4_size w4 p8 y2.ln.q y2.ln.k (.slice y2.za y2.ln.ls.length y2.zc) (.slice y2.ra y2.ln.cs.length y2.rc)
  have hx := box_new (put4 w4 p8 y2.ln.q (.slice y2.za y2.ln.ls.length y2.zc) y2.ln.k (.slice y2.ra y2.ln.cs.length y2.rc)) y1.ln.q y1.ln.k (.slice y1.za y1.ln.ls.length y1.zc) (.slice y1.ra y1.ln.cs.length y1.rc)
  have A9 := below_alloc1 (put4 w4 p8 y2.ln.q (.slice y2.za y2.ln.ls.length y2.zc) y2.ln.k (.slice y2.ra y2.ln.cs.length y2.rc)) (.cells #[.int .i64 y1.ln.q, .slice y1.za y1.ln.ls.length y1.zc, .int .i64 y1.ln.k, .slice y1.ra y1.ln.cs.length y1.rc] 46)
  rw [hs] at hx
  exact ⟨_, p8, y1, y2, rfl, rfl, hx, (put4_box h8).below A9, ((m1.put4 l8 _ _ _ _).below A9).mono hB, ((m2.put4 l8 _ _ _ _).below A9).mono hB, e1, e2, (put4_below hb h8B).trans (A9.mono (by rw [hs]; exact h7B)), h7B, h8B⟩
theorem spl_new78 (hb : Below B W w4) (m1 : MineLw B4 w4 y1) (m2 : MineLw B4 w4 y2) (e1 : y1.ln = A) (e2 : y2.ln = C) (hB : B ≤ B4) (hw : B ≤ w4.heap.size) :
    SplR B W A C (.pointer (some ⟨w4.heap.size, 0, none⟩)) (.pointer (some ⟨w4.heap.size + 1, 0, none⟩)) ((w4.alloc (.cells #[.int .i64 y1.ln.q, .slice y1.za y1.ln.ls.length y1.zc, .int .i64 y1.ln.k, .slice y1.ra y1.ln.cs.length y1.rc] 46)).alloc (.cells #[.int .i64 y2.ln.q, .slice y2.za y2.ln.ls.length y2.zc, .int .i64 y2.ln.k, .slice y2.ra y2.ln.cs.length y2.rc] 46)) := by
  obtain ⟨g1, g2, g3⟩ := box_two w4 y1.ln.q y1.ln.k y2.ln.q y2.ln.k (.slice y1.za y1.ln.ls.length y1.zc) (.slice y1.ra y1.ln.cs.length y1.rc) (.slice y2.za y2.ln.ls.length y2.zc) (.slice y2.ra y2.ln.cs.length y2.rc)
  exact ⟨_, _, y1, y2, rfl, rfl, g2, g3, (m1.below g1).mono hB, (m2.below g1).mono hB, e1, e2, hb.trans (g1.mono hw), hw, Nat.le_succ_of_le hw⟩
theorem spl_new87 (hb : Below B W w4) (m1 : MineLw B4 w4 y1) (m2 : MineLw B4 w4 y2) (e1 : y1.ln = A) (e2 : y2.ln = C) (hB : B ≤ B4) (hw : B ≤ w4.heap.size) :
    SplR B W A C (.pointer (some ⟨w4.heap.size + 1, 0, none⟩)) (.pointer (some ⟨w4.heap.size, 0, none⟩)) ((w4.alloc (.cells #[.int .i64 y2.ln.q, .slice y2.za y2.ln.ls.length y2.zc, .int .i64 y2.ln.k, .slice y2.ra y2.ln.cs.length y2.rc] 46)).alloc (.cells #[.int .i64 y1.ln.q, .slice y1.za y1.ln.ls.length y1.zc, .int .i64 y1.ln.k, .slice y1.ra y1.ln.cs.length y1.rc] 46)) := by
  obtain ⟨g1, g2, g3⟩ := box_two w4 y2.ln.q y2.ln.k y1.ln.q y1.ln.k (.slice y2.za y2.ln.ls.length y2.zc) (.slice y2.ra y2.ln.cs.length y2.rc) (.slice y1.za y1.ln.ls.length y1.zc) (.slice y1.ra y1.ln.cs.length y1.rc)
  exact ⟨_, _, y1, y2, rfl, rfl, g3, g2, (m1.below g1).mono hB, (m2.below g1).mono hB, e1, e2, hb.trans (g1.mono hw), Nat.le_succ_of_le hw, hw⟩
end
theorem two_line (w : World) (y1 y2 : Lw) : SliceAt (w.alloc (.cells #[.int .i64 y1.ln.q, .slice y1.za y1.ln.ls.length y1.zc, .int .i64 y1.ln.k, .slice y1.ra y1.ln.cs.length y1.rc, .int .i64 y2.ln.q, .slice y2.za y2.ln.ls.length y2.zc, .int .i64 y2.ln.k, .slice y2.ra y2.ln.cs.length y2.rc] 46)) (.slice (some ⟨w.heap.size, 0, none⟩) 2 2) [y1, y2] := by
  refine .inr ⟨w.heap.size, 0, 2, rfl, Nat.le_refl _, by decide, by simp, LinesIn.of_flat (fun j u hu => ?_)⟩
  have h0 := World.alloc_heap_new w (.cells #[.int .i64 y1.ln.q, .slice y1.za y1.ln.ls.length y1.zc, .int .i64 y1.ln.k, .slice y1.ra y1.ln.cs.length y1.rc, .int .i64 y2.ln.q, .slice y2.za y2.ln.ls.length y2.zc, .int .i64 y2.ln.k, .slice y2.ra y2.ln.cs.length y2.rc] 46)
  rw [Nat.zero_add, cell_of_row _ _ j _ _ (0, 0) h0, ← Array.getElem?_toList]
  exact hu
theorem bcell3 {W w1 : World} (hb : Below W.heap.size W w1) : (∀ b o, b < W.heap.size → w1.cell? ⟨b, o, none⟩ = W.cell? ⟨b, o, none⟩) ∧ (∀ b o, b < W.heap.size → w1.frozen? ⟨b, o, none⟩ = W.frozen? ⟨b, o, none⟩) :=
  ⟨fun b o h => hb.cell (p := ⟨b, o, none⟩) h, fun b o h => hb.frozen (p := ⟨b, o, none⟩) h⟩

set_option maxRecDepth 20000 in
set_option maxHeartbeats 8000000 in
theorem dsplit_err (v : Value) (l : List Lw) (p1 p2 : Int) (w : World) (h : DocAt w v l) (hf : Fine (pl l)) (hE : Tg.Env w) (hA : askedD (pl l) (p1, p2) (p1, p2) = false ∨ l.length = 200) :
    Calls Tryz.prog 42 #[v, psV (p1, p2)] w (DocPE [] (0, 0) (if askedD (pl l) (p1, p2) (p1, p2) then 10 else 1) w) := by
  refine Calls.mono ?_ (fun e w' h => docPE_err h)
  obtain ⟨a, c, rfl⟩ := h.s.len
  have cA : ∀ w1, Below w.heap.size w w1 → _ := fun w1 h1 => dasked_any _ l p1 p2 p1 p2 w1 (h.below h1) hf (hE.below h1)
  have P0 := Lib.hid ((ps_new w p1 p2).below (below_alloc1 _ (.cells #[.int .i64 0, .int .i64 0] 24)))
  have P1 := Lib.hid (ps_new (w.alloc (.cells #[.int .i64 p1, .int .i64 p2] 24)) 0 0)
  rw [show (w.alloc (.cells #[.int .i64 p1, .int .i64 p2] 24)).heap.size = w.heap.size + 1 by simp] at P1
  have hX := Lib.hid (two_allocs w (.cells #[.int .i64 p1, .int .i64 p2] 24) (.cells #[.int .i64 0, .int .i64 0] 24))
  obtain ⟨n, hn⟩ : ∃ n, l.length = n := ⟨_, rfl⟩
  unfold psV at *
  dsimp only at *
  cases hB : askedD (pl l) (p1, p2) (p1, p2) with
  | false =>
    rw [hB] at cA
    rw [hn] at cA ⊢
    rw [if_neg (by decide)]
    clear h hf hE hA hn hB
    go_enter Tryz.func42, Tryz.ntmps42
    go_wp2_with (go_at_call 75; ((with_reducible refine (cA _ hX.out).mono ?_); rintro e w2 ⟨rfl, hk⟩; have hb := hX.out.trans (hk.mono hX.out.size); obtain ⟨_, y0, y1, f0, f1⟩ := P1.out.below hk))
    exact bodyPost_ret (v := .tuple #[.slice none 0 0, .agg #[.int .i64 0, .int .i64 0], .int .i64 1]) (by simp [results, Tryz.results42, go_sem, *]) rfl ⟨rfl, (hb.setCell (p := ⟨w.heap.size + 1, 0, none⟩) (Nat.le_succ _) _).setCell (p := ⟨w.heap.size + 1, 1, none⟩) (Nat.le_succ _) _⟩
  | true =>
    have h200 : n = 200 := by
      rcases hA with h1 | h1
      · rw [hB] at h1; cases h1
      · exact hn.symm.trans h1
    rw [hB] at cA
    rw [hn] at cA ⊢
    subst h200
    rw [if_pos rfl]
    clear h hf hE hA hn hB
    go_enter Tryz.func42, Tryz.ntmps42
    go_wp2_with (go_at_call 75; ((with_reducible refine (cA _ hX.out).mono ?_); rintro e w2 ⟨rfl, hk⟩; have hb := hX.out.trans (hk.mono hX.out.size); obtain ⟨_, y0, y1, f0, f1⟩ := P1.out.below hk))
    exact bodyPost_ret (v := .tuple #[.slice none 0 0, .agg #[.int .i64 0, .int .i64 0], .int .i64 10]) (by simp [results, Tryz.results42, go_sem, *]) rfl ⟨rfl, (hb.setCell (p := ⟨w.heap.size + 1, 0, none⟩) (Nat.le_succ _) _).setCell (p := ⟨w.heap.size + 1, 1, none⟩) (Nat.le_succ _) _⟩

set_option maxRecDepth 40000 in
set_option maxHeartbeats 32000000 in
theorem dsplit_ok (v : Value) (l : List Lw) (i k : Nat) (w : World) (h : DocAt w v l) (hf : Fine (pl l)) (hE : Tg.Env w) (hi : i < l.length) (hk : k ≤ cnt (pl l) i) (hmay : mayD (pl l) = true) (h200 : l.length ≠ 200) :
    Calls Tryz.prog 42 #[v, psV ((i : Int), (k : Int))] w (DocPE (splitD (pl l) i k) ((i : Int) + 1, 0) 0 w) := by
  obtain ⟨a, c, rfl⟩ := h.s.len
  have hX := two_allocs w (.cells #[.int .i64 (i : Int), .int .i64 (k : Int)] 24) (.cells #[.int .i64 0, .int .i64 0] 24)
  have cA : ∀ w1, Below w.heap.size w w1 → _ := fun w1 h1 => dasked_any (.slice a l.length c) l (i : Int) (k : Int) (i : Int) (k : Int) w1 (h.below h1) hf (hE.below h1)
  rw [askedD_mk (bl := i) (ba := k) ⟨by rw [pl_length]; exact hi, Nat.le_refl _, hk, hk, fun _ => Nat.le_refl _⟩ hmay] at cA
  rw [cnt_pl hi] at hk
  obtain ⟨b, o, q, za, n1, zc, kk, ra, n2, rc, rfl, _, hlc, hcm, hbs, x0, x1, x2, x3, hag, hlw, hr, hz1, hz2, hz3, hpg⟩ := lines_at h hf hi
  unfold maxLen at hcm
  have hms : mayS (l[i]!).ln = true := mayD_mem hmay (by unfold pl; exact List.mem_map.2 ⟨_, mem_get hi, rfl⟩)
  obtain ⟨x, hx⟩ : ∃ x, l[i]! = x := ⟨_, rfl⟩
  rw [hx] at hag hlw hr hz1 hz2 hz3 hpg hk hms
  have cS : ∀ w1, Below w.heap.size w w1 → _ := fun w1 h1 => lsplitA x k w1 (hlw.below h1) ⟨hz1, hz2, hz3⟩ (hE.below h1) hms hk
  rw [hag] at cS
  have cR : ∀ (B : Nat) (w1 : World) (v2 : Value) (y1 y2 : Lw), Below w.heap.size w w1 → SliceAt w1 v2 [y1, y2] → MineLw B w1 y1 → MineLw B w1 y2 → B ≤ w1.heap.size → _ := fun B w1 v2 y1 y2 h1 h2 h3 h4 h5 => dreplace_any (.slice (some ⟨b, o, none⟩) l.length c) v2 l [y1, y2] i k i k B w1 (h.below h1) hf hi (Nat.le_refl _) h2 (fun z hz => by
    rcases List.mem_cons.1 hz with rfl | hz
    · exact h3
    · obtain rfl := List.mem_singleton.1 hz; exact h4) (by simp) h5
  obtain ⟨A, hA⟩ : ∃ A, splA x.ln k = A := ⟨_, rfl⟩
  obtain ⟨C, hC⟩ : ∃ C, splB x.ln k = C := ⟨_, rfl⟩
  rw [hA, hC] at cS
  have hspl : ∀ y1 y2 : Lw, y1.ln = A → y2.ln = C → replaceD (pl l) i i (pl [y1, y2]) = splitD (pl l) i k := fun y1 y2 h1 h2 => by
    unfold splitD
    rw [hpg, hA, hC]
    unfold pl
    rw [List.map_cons, List.map_cons, List.map_nil, h1, h2]
  have hK : ∀ V', Below w.heap.size w V' → V'.cell? ⟨b, o + i * 4, none⟩ = some (.int .i64 q) ∧ V'.cell? ⟨b, o + i * 4 + 1, none⟩ = some (.slice za n1 zc) ∧ V'.cell? ⟨b, o + i * 4 + 2, none⟩ = some (.int .i64 kk) ∧ V'.cell? ⟨b, o + i * 4 + 3, none⟩ = some (.slice ra n2 rc) := fun V' hV' =>
    ⟨(hV'.cell (lt_of_cell' x0)).trans x0, (hV'.cell (lt_of_cell' x1)).trans x1, (hV'.cell (lt_of_cell' x2)).trans x2, (hV'.cell (lt_of_cell' x3)).trans x3⟩
  have HK := Lib.hid hK
  have HD := Lib.hid hspl
  have A0 := Lib.hid ((ps_new w (i : Int) (k : Int)).below (below_alloc1 _ (.cells #[.int .i64 0, .int .i64 0] 24)))
  have A1 := Lib.hid (ps_new (w.alloc (.cells #[.int .i64 (i : Int), .int .i64 (k : Int)] 24)) 0 0)
  rw [show (w.alloc (.cells #[.int .i64 (i : Int), .int .i64 (k : Int)] 24)).heap.size = w.heap.size + 1 by simp] at A1
  have HX := Lib.hid hX
  have hln := hf.len
  unfold psV at *
  dsimp only at *
  obtain ⟨n, hn⟩ : ∃ n, l.length = n := ⟨_, rfl⟩
  rw [hn] at cA cR hlc hi h200 hln ⊢
  have h200I : ¬ (n : Int) = 200 := by omega
  have h200b : ((n : Int) == 200) = false := by simpa using h200I
  have hiI : (i : Int) < (n : Int) := by omega
  clear h hf hE hmay hX hx hag hlw hr hz1 hz2 hz3 hpg hK hspl x0 x1 x2 x3 hn hA hC hk hms h200
  go_enter Tryz.func42, Tryz.ntmps42
  go_upto_region 5 with (first
    | (go_at_call 75; ((with_reducible refine (cA _ HX.out).mono ?_); rintro e w2 ⟨rfl, hk⟩; have KW := Lib.hid hk; have hb := Lib.hid (HX.out.trans (hk.mono HX.out.size)); obtain ⟨x0, x1, x2, x3⟩ := HK.out _ hb.out; obtain ⟨_, y0, y1, _, _⟩ := A0.out.below hk; have hw2 : w.heap.size + 1 < w2.heap.size := Nat.lt_of_lt_of_le (by simp) hk.size; clear hk)))
  have hbs2 : b < w2.heap.size := Nat.lt_of_lt_of_le hbs hb.out.size
  go_cut [7, 8, 9] (fun s7 s8 s9 wx => SplR w2.heap.size w2 A C s7 s8 wx ∧ s9 = .int .i64 0)
  case first =>
    have hS : (w2.cell? ⟨b, o + i * 4, none⟩ = some (.int .i64 q) ∧ w2.cell? ⟨b, o + i * 4 + 1, none⟩ = some (.slice za n1 zc) ∧ w2.cell? ⟨b, o + i * 4 + 2, none⟩ = some (.int .i64 kk) ∧ w2.cell? ⟨b, o + i * 4 + 3, none⟩ = some (.slice ra n2 rc) ∧ w2.cell? ⟨w.heap.size, 0, none⟩ = some (.int .i64 (i : Int)) ∧ w2.cell? ⟨w.heap.size, 1, none⟩ = some (.int .i64 (k : Int))) := ⟨x0, x1, x2, x3, y0, y1⟩
    have KS : Hid (∀ w', Below w2.heap.size w2 w' → (w'.cell? ⟨b, o + i * 4, none⟩ = some (.int .i64 q) ∧ w'.cell? ⟨b, o + i * 4 + 1, none⟩ = some (.slice za n1 zc) ∧ w'.cell? ⟨b, o + i * 4 + 2, none⟩ = some (.int .i64 kk) ∧ w'.cell? ⟨b, o + i * 4 + 3, none⟩ = some (.slice ra n2 rc) ∧ w'.cell? ⟨w.heap.size, 0, none⟩ = some (.int .i64 (i : Int)) ∧ w'.cell? ⟨w.heap.size, 1, none⟩ = some (.int .i64 (k : Int)))) := Lib.hid (fun w' h => ⟨(h.cell (lt_of_cell' x0)).trans x0, (h.cell (lt_of_cell' x1)).trans x1, (h.cell (lt_of_cell' x2)).trans x2, (h.cell (lt_of_cell' x3)).trans x3, (h.cell (lt_of_cell' y0)).trans y0, (h.cell (lt_of_cell' y1)).trans y1⟩)
    have bV : Hid (∀ w', Below w2.heap.size w2 w' → Below w.heap.size w w') := Lib.hid (fun w' h => hb.out.trans (h.mono hb.out.size))
    clear hb x0 x1 x2 x3 y0 y1 cA cR
    have hb : Hid (Below w2.heap.size w2 w2) := Lib.hid (Below.refl _ _)
    go_region_held3 (fun w' => (w'.cell? ⟨b, o + i * 4, none⟩ = some (.int .i64 q) ∧ w'.cell? ⟨b, o + i * 4 + 1, none⟩ = some (.slice za n1 zc) ∧ w'.cell? ⟨b, o + i * 4 + 2, none⟩ = some (.int .i64 kk) ∧ w'.cell? ⟨b, o + i * 4 + 3, none⟩ = some (.slice ra n2 rc) ∧ w'.cell? ⟨w.heap.size, 0, none⟩ = some (.int .i64 (i : Int)) ∧ w'.cell? ⟨w.heap.size, 1, none⟩ = some (.int .i64 (k : Int)))) (first | (with_reducible exact hS) | exact KS.out _ (by (repeat (first | (with_reducible exact hb.out) | (with_reducible exact Below.refl _ _) | (with_reducible refine Below.drew ?_) | (with_reducible refine Below.alloc ?_ ?_ _) | (with_reducible refine Below.setCell ?_ ?_ _) | omega | (simp <;> omega))))) (first
      | (go_at_call 81; ((with_reducible refine (cS _ (bV.out _ ?hb)).mono ?_); (case hb => (repeat (first | (with_reducible exact hb.out) | (with_reducible exact Below.refl _ _) | (with_reducible refine Below.drew ?_) | (with_reducible refine Below.alloc ?_ ?_ _) | (with_reducible refine Below.setCell ?_ ?_ _) | omega | (simp <;> omega)))); rintro e w4 ⟨y1, y2, rfl, e1, e2, m1, m2, hb2⟩; have hd := Lib.hid ((show Below w2.heap.size w2 _ by (repeat (first | (with_reducible exact hb.out) | (with_reducible exact Below.refl _ _) | (with_reducible refine Below.drew ?_) | (with_reducible refine Below.alloc ?_ ?_ _) | (with_reducible refine Below.setCell ?_ ?_ _) | omega | (simp <;> omega)))).trans (hb2.mono (by (first | omega | (simp; done) | (simp; omega))))); obtain ⟨hc4, hf4⟩ := bcell3 hb2; have hz4 := hb2.size; (try simp at hz4); have HM := Lib.hid (And.intro m1 (And.intro m2 (And.intro e1 e2))); have hs4 : w2.heap.size ≤ w4.heap.size := hd.out.size; (try have hy4 : w2.heap.size < w4.heap.size := by omega); (try have hp4 : w2.heap.size + 1 < w4.heap.size := by omega); (try have hq4 : w4.heap.size ≠ w2.heap.size := by omega); (try have hr4 : w2.heap.size ≠ w4.heap.size := by omega); unfold aggL Lw.sl Lw.sc; clear hb; have hb := hd; replace hS := KS.out _ hb.out; clear hd hb2 m1 m2 e1 e2)))
    all_goals go_wp2_with fail
    all_goals go_meet
    all_goals refine ⟨?_, rfl⟩
    all_goals first
      | (with_reducible refine spl_put (q5 := 0) (s5 := .slice none 0 0) (k5 := 0) (c5 := .slice none 0 0) (q6 := 0) (s6 := .slice none 0 0) (k6 := 0) (c6 := .slice none 0 0) hb.out HM.out.1 HM.out.2.1 HM.out.2.2.1 HM.out.2.2.2 ?_ ?_ ?_ ?_ ?_ ?_ ?_ ?_ <;> (first | (first | omega | (simp; done) | (simp; omega)) | (constructor <;> (first | (first | omega | (simp; done) | (simp; omega)) | (simp [go_sem, *]; done)))))
      | (with_reducible refine spl_mix7 (q5 := 0) (s5 := .slice none 0 0) (k5 := 0) (c5 := .slice none 0 0) hb.out HM.out.1 HM.out.2.1 HM.out.2.2.1 HM.out.2.2.2 ?_ ?_ ?_ ?_ ?_ <;> (first | (first | omega | (simp; done) | (simp; omega)) | (constructor <;> (first | (first | omega | (simp; done) | (simp; omega)) | (simp [go_sem, *]; done)))))
      | (with_reducible refine spl_mix8 (q5 := 0) (s5 := .slice none 0 0) (k5 := 0) (c5 := .slice none 0 0) hb.out HM.out.1 HM.out.2.1 HM.out.2.2.1 HM.out.2.2.2 ?_ ?_ ?_ ?_ ?_ <;> (first | (first | omega | (simp; done) | (simp; omega)) | (constructor <;> (first | (first | omega | (simp; done) | (simp; omega)) | (simp [go_sem, *]; done)))))
      | (with_reducible refine spl_new78 hb.out HM.out.1 HM.out.2.1 HM.out.2.2.1 HM.out.2.2.2 ?_ ?_ <;> (first | (first | omega | (simp; done) | (simp; omega)) | (constructor <;> (first | (first | omega | (simp; done) | (simp; omega)) | (simp [go_sem, *]; done)))))
      | (with_reducible refine spl_new87 hb.out HM.out.1 HM.out.2.1 HM.out.2.2.1 HM.out.2.2.2 ?_ ?_ <;> (first | (first | omega | (simp; done) | (simp; omega)) | (constructor <;> (first | (first | omega | (simp; done) | (simp; omega)) | (simp [go_sem, *]; done)))))
  case rest =>
    clear cA cS x0 x1 x2 x3 y0 y1
    obtain ⟨p7, p8, y1, y2, rfl, rfl, hB7, hB8, m1, m2, e1, e2, hBe, b7, b8⟩ := hcut.1
    obtain rfl := hcut.2
    have g7 := hB7.lt
    have g8 := hB8.lt
    have hsc := hBe.size
    have hsw := hb.out.size
    have i7 : p7 ≠ w.heap.size + 1 := by omega
    have i8 : p8 ≠ w.heap.size + 1 := by omega
    have j7 : w.heap.size + 1 ≠ p7 := by omega
    have j8 : w.heap.size + 1 ≠ p8 := by omega
    have hwk : IntKind.i64.wrap ((i : Int) + 1) = (i : Int) + 1 := IntWalk.i64_in _ (by omega)
    have HM := Lib.hid (And.intro m1 (And.intro m2 (And.intro e1 e2)))
    have hbW := Lib.hid (hb.out.trans (hBe.mono hsw))
    have KB := Lib.hid (KW.out.trans (hBe.mono KW.out.size))
    have KS : Hid (∀ w', Below wc.heap.size wc w' → (w'.cell? ⟨p7, 0, none⟩ = some (.int .i64 y1.ln.q) ∧ w'.cell? ⟨p7, 1, none⟩ = some (.slice y1.za y1.ln.ls.length y1.zc) ∧ w'.cell? ⟨p7, 2, none⟩ = some (.int .i64 y1.ln.k) ∧ w'.cell? ⟨p7, 3, none⟩ = some (.slice y1.ra y1.ln.cs.length y1.rc) ∧ w'.cell? ⟨p8, 0, none⟩ = some (.int .i64 y2.ln.q) ∧ w'.cell? ⟨p8, 1, none⟩ = some (.slice y2.za y2.ln.ls.length y2.zc) ∧ w'.cell? ⟨p8, 2, none⟩ = some (.int .i64 y2.ln.k) ∧ w'.cell? ⟨p8, 3, none⟩ = some (.slice y2.ra y2.ln.cs.length y2.rc) ∧ w'.cell? ⟨w.heap.size, 0, none⟩ = some (.int .i64 (i : Int)) ∧ w'.cell? ⟨w.heap.size, 1, none⟩ = some (.int .i64 (k : Int)) ∧ w'.frozen? ⟨w.heap.size + 1, 0, none⟩ = false ∧ w'.frozen? ⟨w.heap.size + 1, 1, none⟩ = false)) := Lib.hid (fun w' h => by
      obtain ⟨_, a0, a1, a2, a3, _⟩ := hB7.below h
      obtain ⟨_, b0, b1, b2, b3, _⟩ := hB8.below h
      obtain ⟨_, c0, c1, _, _⟩ := (A0.out.below KB.out).below h
      obtain ⟨_, _, _, d2, d3⟩ := (A1.out.below KB.out).below h
      exact ⟨a0, a1, a2, a3, b0, b1, b2, b3, c0, c1, d2, d3⟩)
    have hS : (wc.cell? ⟨p7, 0, none⟩ = some (.int .i64 y1.ln.q) ∧ wc.cell? ⟨p7, 1, none⟩ = some (.slice y1.za y1.ln.ls.length y1.zc) ∧ wc.cell? ⟨p7, 2, none⟩ = some (.int .i64 y1.ln.k) ∧ wc.cell? ⟨p7, 3, none⟩ = some (.slice y1.ra y1.ln.cs.length y1.rc) ∧ wc.cell? ⟨p8, 0, none⟩ = some (.int .i64 y2.ln.q) ∧ wc.cell? ⟨p8, 1, none⟩ = some (.slice y2.za y2.ln.ls.length y2.zc) ∧ wc.cell? ⟨p8, 2, none⟩ = some (.int .i64 y2.ln.k) ∧ wc.cell? ⟨p8, 3, none⟩ = some (.slice y2.ra y2.ln.cs.length y2.rc) ∧ wc.cell? ⟨w.heap.size, 0, none⟩ = some (.int .i64 (i : Int)) ∧ wc.cell? ⟨w.heap.size, 1, none⟩ = some (.int .i64 (k : Int)) ∧ wc.frozen? ⟨w.heap.size + 1, 0, none⟩ = false ∧ wc.frozen? ⟨w.heap.size + 1, 1, none⟩ = false) := KS.out wc (Below.refl _ _)
    clear m1 m2 e1 e2 hB7 hB8 hBe hb
    have hb : Hid (Below wc.heap.size wc wc) := Lib.hid (Below.refl _ _)
    go_upto_region 8 with fail
    go_region_held3 (fun w' => (w'.cell? ⟨p7, 0, none⟩ = some (.int .i64 y1.ln.q) ∧ w'.cell? ⟨p7, 1, none⟩ = some (.slice y1.za y1.ln.ls.length y1.zc) ∧ w'.cell? ⟨p7, 2, none⟩ = some (.int .i64 y1.ln.k) ∧ w'.cell? ⟨p7, 3, none⟩ = some (.slice y1.ra y1.ln.cs.length y1.rc) ∧ w'.cell? ⟨p8, 0, none⟩ = some (.int .i64 y2.ln.q) ∧ w'.cell? ⟨p8, 1, none⟩ = some (.slice y2.za y2.ln.ls.length y2.zc) ∧ w'.cell? ⟨p8, 2, none⟩ = some (.int .i64 y2.ln.k) ∧ w'.cell? ⟨p8, 3, none⟩ = some (.slice y2.ra y2.ln.cs.length y2.rc) ∧ w'.cell? ⟨w.heap.size, 0, none⟩ = some (.int .i64 (i : Int)) ∧ w'.cell? ⟨w.heap.size, 1, none⟩ = some (.int .i64 (k : Int)) ∧ w'.frozen? ⟨w.heap.size + 1, 0, none⟩ = false ∧ w'.frozen? ⟨w.heap.size + 1, 1, none⟩ = false)) (first | (with_reducible exact hS) | (refine KS.out _ ?_; (repeat (first | (with_reducible exact hb.out) | (with_reducible exact Below.refl _ _) | (with_reducible refine Below.drew ?_) | (with_reducible refine Below.alloc ?_ ?_ _) | (with_reducible refine Below.setCell ?_ ?_ _) | omega | (simp <;> omega))); done) | (refine ⟨?_, ?_, ?_, ?_, ?_, ?_, ?_, ?_, ?_, ?_, ?_, ?_⟩ <;> (first | (simp [go_sem, *]; done) | (obtain ⟨_, _, _, _, _, _, _, _, _, _, _, _⟩ := hS; simp [go_sem, *]; done)))) (first
      | (go_at_call 78; ((with_reducible refine (cR w2.heap.size _ _ y1 y2 (hbW.out.trans ((show Below wc.heap.size wc _ by (repeat (first | (with_reducible exact hb.out) | (with_reducible exact Below.refl _ _) | (with_reducible refine Below.drew ?_) | (with_reducible refine Below.alloc ?_ ?_ _) | (with_reducible refine Below.setCell ?_ ?_ _) | omega | (simp <;> omega)))).mono (by omega))) (by first | exact two_line _ y1 y2 | exact (two_line _ y1 y2).below (Below.drew (Below.refl _ _))) (HM.out.1.below (by (repeat (first | (with_reducible exact hb.out) | (with_reducible exact Below.refl _ _) | (with_reducible refine Below.drew ?_) | (with_reducible refine Below.alloc ?_ ?_ _) | (with_reducible refine Below.setCell ?_ ?_ _) | omega | (simp <;> omega))))) (HM.out.2.1.below (by (repeat (first | (with_reducible exact hb.out) | (with_reducible exact Below.refl _ _) | (with_reducible refine Below.drew ?_) | (with_reducible refine Below.alloc ?_ ?_ _) | (with_reducible refine Below.setCell ?_ ?_ _) | omega | (simp <;> omega))))) (by (try simp); omega)).mono ?_); rintro e w7 ⟨v7, r7, rfl, o7, p7', h7⟩; have hd := Lib.hid ((show Below wc.heap.size wc _ by (repeat (first | (with_reducible exact hb.out) | (with_reducible exact Below.refl _ _) | (with_reducible refine Below.drew ?_) | (with_reducible refine Below.alloc ?_ ?_ _) | (with_reducible refine Below.setCell ?_ ?_ _) | omega | (simp <;> omega)))).trans (h7.mono (by (first | omega | (simp; done) | (simp; omega))))); have O7 := Lib.hid (And.intro o7 p7'); clear hb o7 p7' h7; have hb := hd; replace hS := KS.out _ hb.out; obtain ⟨_, d0, d1, _, _⟩ := (A1.out.below KB.out).below hb.out; clear hd)))
    all_goals go_wp2_with fail
    all_goals exact bodyPost_ret (v := .tuple #[v7, .agg #[.int .i64 ((i : Int) + 1), .int .i64 0], .int .i64 0]) (by simp [results, Tryz.results42, go_sem, *]) rfl ⟨v7, r7, rfl, (((O7.out.1.set (p := ⟨w.heap.size + 1, 0, none⟩) hw2 _).set (p := ⟨w.heap.size + 1, 1, none⟩) hw2 _).mono hsw), O7.out.2.trans (HD.out y1 y2 HM.out.2.2.1 HM.out.2.2.2), ((hbW.out.trans (hb.out.mono (by omega))).setCell (p := ⟨w.heap.size + 1, 0, none⟩) (Nat.le_succ _) _).setCell (p := ⟨w.heap.size + 1, 1, none⟩) (Nat.le_succ _) _⟩
theorem dsplit_any (v : Value) (l : List Lw) (p1 p2 : Int) (w : World) (h : DocAt w v l) (hf : Fine (pl l)) (hE : Tg.Env w) :
    Calls Tryz.prog 42 #[v, psV (p1, p2)] w (DocPE (splitP (pl l) (p1, p2)).1 (splitP (pl l) (p1, p2)).2.1 (splitP (pl l) (p1, p2)).2.2 w) := by
  unfold splitP
  cases hA : askedD (pl l) (p1, p2) (p1, p2) with
  | false =>
    have := dsplit_err v l p1 p2 w h hf hE (.inl hA)
    rw [hA] at this
    exact this
  | true =>
    by_cases h200 : l.length = 200
    · have := dsplit_err v l p1 p2 w h hf hE (.inr h200)
      rw [hA] at this
      rw [if_pos rfl, if_pos (by rw [pl_length]; exact h200)]
      exact this
    · obtain ⟨al, aa, bl, ba, hp, _, hsp, hmay⟩ := askedD_span hA
      simp only [Prod.mk.injEq] at hp
      obtain ⟨rfl, rfl⟩ := hp
      rw [if_pos rfl, if_neg (by rw [pl_length]; exact h200)]
      have hal : al < l.length := by have := hsp.hb; have := hsp.hab; rw [pl_length] at *; omega
      exact dsplit_ok v l al aa w h hf hE hal hsp.hka hmay h200

end Go.Proofs.YtafincmcmgedbaaGreatDoor

namespace Go.Proofs.YtafincmcmgedbaaGreatDoor
open Go.RowKit Go.Lib

theorem dpart_any (v : Value) (l : List Lw) (p1 p2 q1 q2 : Int) (w : World) (h : DocAt w v l) (hf : Fine (pl l)) (hE : Tg.Env w) :
    Calls Tryz.prog 36 #[v, psV (p1, p2), psV (q1, q2)] w (DocE (partP (pl l) (p1, p2) (q1, q2)).1 (partP (pl l) (p1, p2) (q1, q2)).2 w) := by
  have hX := two_allocs w (.cells #[.int .i64 p1, .int .i64 p2] 24) (.cells #[.int .i64 q1, .int .i64 q2] 24)
  have hgf := enters_of Tryz.func72 (by kernel_rfl) rfl
  have cH : Calls Tryz.prog 71 #[v, psV (p1, p2), psV (q1, q2), .func (.func 72) #[] #[]] ((w.alloc (.cells #[.int .i64 p1, .int .i64 p2] 24)).alloc (.cells #[.int .i64 q1, .int .i64 q2] 24)) (DocE (partP (pl l) (p1, p2) (q1, q2)).1 (partP (pl l) (p1, p2) (q1, q2)).2 ((w.alloc (.cells #[.int .i64 p1, .int .i64 p2] 24)).alloc (.cells #[.int .i64 q1, .int .i64 q2] 24))) := by
    unfold partP
    cases hA : askedD (pl l) (p1, p2) (q1, q2) with
    | false => exact (deach_off v _ _ l p1 p2 q1 q2 _ (h.below hX) hf (hE.below hX) hA).mono (fun e w' h => docE_err h)
    | true =>
      obtain ⟨al, aa, bl, ba, hp, hq, hsp, hmay⟩ := askedD_span hA
      simp only [Prod.mk.injEq] at hp hq
      obtain ⟨rfl, rfl⟩ := hp
      obtain ⟨rfl, rfl⟩ := hq
      have hdo : DoOk 72 #[] partU ((w.alloc (.cells #[.int .i64 (al : Int), .int .i64 (aa : Int)] 24)).alloc (.cells #[.int .i64 (bl : Int), .int .i64 (ba : Int)] 24)) (pl l) := fun V vv cs f t hV hr hx hft ht => by
        obtain ⟨x, hx1, rfl⟩ := hx
        exact part_on vv x.cs f t V hr (hf.z x hx1).2.1 hft ht
      exact deach_ok v l al aa bl ba _ #[] partU _ (h.below hX) hf (hE.below hX) hsp hmay hdo hgf
  obtain ⟨a, c, rfl⟩ := h.s.len
  obtain ⟨⟨P, er⟩, hP⟩ : ∃ P, partP (pl l) (p1, p2) (q1, q2) = P := ⟨_, rfl⟩
  rw [hP] at cH ⊢
  obtain ⟨n, hn⟩ : ∃ n, l.length = n := ⟨_, rfl⟩
  rw [hn] at cH ⊢
  unfold psV at *
  dsimp only at *
  have HX := Lib.hid hX
  clear h hf hE hP hn hX hgf
  go_enter Tryz.func36, Tryz.ntmps36
  go_wp2_with (go_at_call 71; ((with_reducible refine cH.mono ?_); rintro e w2 ⟨s, r, rfl, hown, hpr, hk⟩; have HO := Lib.hid (And.intro hown (And.intro hpr hk)); clear hown hpr hk))
  go_ret2
  exact ⟨s, r, rfl, HO.out.1.mono HX.out.size, HO.out.2.1, HX.out.trans (HO.out.2.2.mono HX.out.size)⟩

def insP (d : Doc) (p : Ps) (m : Row) : Doc × Ps × Int :=
  if askedD d p p && mayR m then (if 4000 < sizeD d + m.length then ([], (0, 0), 10) else (insertD d p.1.toNat p.2.toNat m, (p.1, p.2 + m.length), 0)) else ([], (0, 0), 1)

set_option maxRecDepth 20000 in
set_option maxHeartbeats 16000000 in
theorem dinsert_err (v u : Value) (l : List Lw) (m : Row) (p1 p2 : Int) (w : World) (h : DocAt w v l) (hu : RowAt w u m) (hf : Fine (pl l)) (hE : Tg.Env w) (hm : m.length ≤ 50000) (hfm : Fair m)
    (hA : (askedD (pl l) (p1, p2) (p1, p2) && mayR m) = false ∨ 4000 < sizeD (pl l) + m.length) :
    Calls Tryz.prog 40 #[v, psV (p1, p2), u] w (DocPE [] (0, 0) (if (askedD (pl l) (p1, p2) (p1, p2) && mayR m) then 10 else 1) w) := by
  refine Calls.mono ?_ (fun e w' h => docPE_err h)
  obtain ⟨a, c, rfl⟩ := h.s.len
  have cA : ∀ w1, Below w.heap.size w w1 → _ := fun w1 h1 => dasked_any _ l p1 p2 p1 p2 w1 (h.below h1) hf (hE.below h1)
  have cM : ∀ w1, Below w.heap.size w w1 → _ := fun w1 h1 => mayRow_any u m w1 (hu.below h1) (by omega) hfm (hE.below h1)
  have cS : ∀ w1, Below w.heap.size w w1 → _ := fun w1 h1 => dsize_any _ l w1 (h.s.below h1) hf.len hf.s
  obtain ⟨a2, c2, rfl⟩ := hu.len
  have hsz := hf.s
  have P0 := Lib.hid ((ps_new w p1 p2).below (below_alloc1 _ (.cells #[.int .i64 0, .int .i64 0] 24)))
  have P1 := Lib.hid (ps_new (w.alloc (.cells #[.int .i64 p1, .int .i64 p2] 24)) 0 0)
  rw [show (w.alloc (.cells #[.int .i64 p1, .int .i64 p2] 24)).heap.size = w.heap.size + 1 by simp] at P1
  have hX := Lib.hid (two_allocs w (.cells #[.int .i64 p1, .int .i64 p2] 24) (.cells #[.int .i64 0, .int .i64 0] 24))
  obtain ⟨n, hn⟩ : ∃ n, l.length = n := ⟨_, rfl⟩
  obtain ⟨ml, hml⟩ : ∃ n, m.length = n := ⟨_, rfl⟩
  obtain ⟨S, hS⟩ : ∃ n, sizeD (pl l) = n := ⟨_, rfl⟩
  obtain ⟨A, hAe⟩ : ∃ A, askedD (pl l) (p1, p2) (p1, p2) = A := ⟨_, rfl⟩
  obtain ⟨M, hMe⟩ : ∃ A, mayR m = A := ⟨_, rfl⟩
  rw [hAe] at cA hA ⊢
  rw [hMe] at cM hA ⊢
  rw [hS] at cS hA hsz
  rw [hml] at cM hA hm ⊢
  rw [hn] at cA cS ⊢
  unfold psV at *
  dsimp only at *
  clear h hu hf hE hfm hn hml hS hAe hMe
  cases A with
  | false =>
    rw [Bool.false_and, if_neg (by decide)]
    clear hA
    go_enter Tryz.func40, Tryz.ntmps40
    go_wp2_with (go_at_call 75; ((with_reducible refine (cA _ hX.out).mono ?_); rintro e w2 ⟨rfl, hk⟩; have KW := Lib.hid hk; have hb := Lib.hid (hX.out.trans (hk.mono hX.out.size)); obtain ⟨_, y0, y1, f0, f1⟩ := P1.out.below hk; obtain ⟨_, x0, x1, _, _⟩ := P0.out.below hk; clear hk))
    exact bodyPost_ret (v := .tuple #[.slice none 0 0, .agg #[.int .i64 0, .int .i64 0], .int .i64 1]) (by simp [results, Tryz.results40, go_sem, *]) rfl ⟨rfl, (hb.out.setCell (p := ⟨w.heap.size + 1, 0, none⟩) (Nat.le_succ _) _).setCell (p := ⟨w.heap.size + 1, 1, none⟩) (Nat.le_succ _) _⟩
  | true =>
    cases M with
    | false =>
      rw [Bool.and_false, if_neg (by decide)]
      clear hA
      go_enter Tryz.func40, Tryz.ntmps40
      go_wp2_with (first
        | (go_at_call 75; ((with_reducible refine (cA _ hX.out).mono ?_); rintro e w2 ⟨rfl, hk⟩; have KW := Lib.hid hk; have hb := Lib.hid (hX.out.trans (hk.mono hX.out.size)); obtain ⟨_, y0, y1, f0, f1⟩ := P1.out.below hk; obtain ⟨_, x0, x1, _, _⟩ := P0.out.below hk; clear hk))
        | (go_at_call 79; ((with_reducible refine (cM _ hb.out).mono ?_); rintro e w3 ⟨rfl, hk⟩; have hd := Lib.hid (hb.out.trans (hk.mono hb.out.size)); have kd := Lib.hid (KW.out.trans (hk.mono KW.out.size)); clear y0 y1 f0 f1 x0 x1; obtain ⟨_, y0, y1, f0, f1⟩ := P1.out.below kd.out; obtain ⟨_, x0, x1, _, _⟩ := P0.out.below kd.out; clear hb KW; have hb := hd; have KW := kd; clear hd kd hk)))
      exact bodyPost_ret (v := .tuple #[.slice none 0 0, .agg #[.int .i64 0, .int .i64 0], .int .i64 1]) (by simp [results, Tryz.results40, go_sem, *]) rfl ⟨rfl, (hb.out.setCell (p := ⟨w.heap.size + 1, 0, none⟩) (Nat.le_succ _) _).setCell (p := ⟨w.heap.size + 1, 1, none⟩) (Nat.le_succ _) _⟩
    | true =>
      have hbig : 4000 < S + ml := by
        rcases hA with h1 | h1
        · cases h1
        · exact h1
      rw [Bool.and_true, if_pos rfl]
      have w1 : IntKind.i64.wrap (4000 - (S : Int)) = 4000 - (S : Int) := IntWalk.i64_in _ (by omega)
      have hI : 4000 - (S : Int) < (ml : Int) := by omega
      clear hA
      go_enter Tryz.func40, Tryz.ntmps40
      go_wp2_with (first
        | (go_at_call 75; ((with_reducible refine (cA _ hX.out).mono ?_); rintro e w2 ⟨rfl, hk⟩; have KW := Lib.hid hk; have hb := Lib.hid (hX.out.trans (hk.mono hX.out.size)); obtain ⟨_, y0, y1, f0, f1⟩ := P1.out.below hk; obtain ⟨_, x0, x1, _, _⟩ := P0.out.below hk; clear hk))
        | (go_at_call 79; ((with_reducible refine (cM _ hb.out).mono ?_); rintro e w3 ⟨rfl, hk⟩; have hd := Lib.hid (hb.out.trans (hk.mono hb.out.size)); have kd := Lib.hid (KW.out.trans (hk.mono KW.out.size)); clear y0 y1 f0 f1 x0 x1; obtain ⟨_, y0, y1, f0, f1⟩ := P1.out.below kd.out; obtain ⟨_, x0, x1, _, _⟩ := P0.out.below kd.out; clear hb KW; have hb := hd; have KW := kd; clear hd kd hk))
        | (go_at_call 15; ((with_reducible refine (cS _ hb.out).mono ?_); rintro e w4 ⟨rfl, hk⟩; have hd := Lib.hid (hb.out.trans (hk.mono hb.out.size)); have kd := Lib.hid (KW.out.trans (hk.mono KW.out.size)); clear y0 y1 f0 f1 x0 x1; obtain ⟨_, y0, y1, f0, f1⟩ := P1.out.below kd.out; obtain ⟨_, x0, x1, _, _⟩ := P0.out.below kd.out; clear hb KW; have hb := hd; have KW := kd; clear hd kd hk)))
      exact bodyPost_ret (v := .tuple #[.slice none 0 0, .agg #[.int .i64 0, .int .i64 0], .int .i64 10]) (by simp [results, Tryz.results40, go_sem, *]) rfl ⟨rfl, (hb.out.setCell (p := ⟨w.heap.size + 1, 0, none⟩) (Nat.le_succ _) _).setCell (p := ⟨w.heap.size + 1, 1, none⟩) (Nat.le_succ _) _⟩

set_option maxRecDepth 40000 in
set_option maxHeartbeats 32000000 in
theorem dinsert_ok (v u : Value) (l : List Lw) (m : Row) (i k : Nat) (w : World) (h : DocAt w v l) (hu : RowAt w u m) (hf : Fine (pl l)) (hE : Tg.Env w) (hm : m.length ≤ 50000) (hfm : Fair m)
    (hi : i < l.length) (hk : k ≤ cnt (pl l) i) (hmay : mayD (pl l) = true) (hmr : mayR m = true) (hbig : sizeD (pl l) + m.length ≤ 4000) :
    Calls Tryz.prog 40 #[v, psV ((i : Int), (k : Int)), u] w (DocPE (insertD (pl l) i k m) ((i : Int), (k : Int) + m.length) 0 w) := by
  obtain ⟨a, c, rfl⟩ := h.s.len
  have hX := Lib.hid (two_allocs w (.cells #[.int .i64 (i : Int), .int .i64 (k : Int)] 24) (.cells #[.int .i64 0, .int .i64 0] 24))
  have cA : ∀ w1, Below w.heap.size w w1 → _ := fun w1 h1 => dasked_any (.slice a l.length c) l (i : Int) (k : Int) (i : Int) (k : Int) w1 (h.below h1) hf (hE.below h1)
  rw [askedD_mk (bl := i) (ba := k) ⟨by rw [pl_length]; exact hi, Nat.le_refl _, hk, hk, fun _ => Nat.le_refl _⟩ hmay] at cA
  have cM : ∀ w1, Below w.heap.size w w1 → _ := fun w1 h1 => mayRow_any u m w1 (hu.below h1) (by omega) hfm (hE.below h1)
  have cS : ∀ w1, Below w.heap.size w w1 → _ := fun w1 h1 => dsize_any _ l w1 (h.s.below h1) hf.len hf.s
  rw [hmr] at cM
  rw [cnt_pl hi] at hk
  obtain ⟨a3, c3, e3⟩ := hu.len
  obtain ⟨b, o, q, za, n1, zc, kk, ra, n2, rc, rfl, _, hlc, hcm, hbs, x0, x1, x2, x3, hag, hlw, hr, hz1, hz2, hz3, hpg⟩ := lines_at h hf hi
  unfold maxLen at hcm
  obtain ⟨x, hx⟩ : ∃ x, l[i]! = x := ⟨_, rfl⟩
  rw [hx] at hag hlw hr hz1 hz2 hz3 hpg hk
  obtain ⟨v1, s1, r1⟩ := slice_h hr k hk
  obtain ⟨v2, s2, r2⟩ := slice_l hr k hk
  obtain ⟨a1, c1, e1⟩ := s1.len
  obtain ⟨a2, c2, e2⟩ := s2.len
  subst e1 e2
  have cF : ∀ w1, Below w.heap.size w w1 → _ := fun w1 h1 => lframeA x w1 (hlw.below h1) hz1
  rw [hag] at cF
  have cC : ∀ (w1 : World) (g : Nat), Below w.heap.size w w1 → w1.cell? ⟨g, 0, none⟩ = some (.slice a1 (x.ln.cs.take k).length c1) → w1.cell? ⟨g, 1, none⟩ = some u → w1.cell? ⟨g, 2, none⟩ = some (.slice a2 (x.ln.cs.drop k).length c2) → _ := fun w1 g h1 h2 h3 h4 => concat3 g _ _ _ (x.ln.cs.take k) m (x.ln.cs.drop k) w1 h2 h3 h4 (s1.below h1) (hu.below h1) (s2.below h1) (by rw [List.length_take, List.length_drop]; omega)
  obtain ⟨R0, hR0⟩ : ∃ R0, x.ln.cs.take k ++ m ++ x.ln.cs.drop k = R0 := ⟨_, rfl⟩
  rw [hR0] at cC
  have cR : ∀ (B : Nat) (w1 : World) (v2 : Value) (y : Lw), Below w.heap.size w w1 → SliceAt w1 v2 [y] → MineLw B w1 y → B ≤ w1.heap.size → _ := fun B w1 v2 y h1 h2 h3 h5 => dreplace_any (.slice (some ⟨b, o, none⟩) l.length c) v2 l [y] i k i k B w1 (h.below h1) hf hi (Nat.le_refl _) h2 (fun z hz => by obtain rfl := List.mem_singleton.1 hz; exact h3) (by simp) h5
  have hins : ∀ y : Lw, y.ln = lnWith x.ln R0 → replaceD (pl l) i i (pl [y]) = insertD (pl l) i k m := fun y hy => by
    unfold insertD pl
    rw [List.map_cons, List.map_nil, hy]
    have e1 : (List.map (fun x => x.ln) l)[i]! = x.ln := hpg
    rw [e1, hR0]
  obtain ⟨m1, hm1⟩ : ∃ m1, (x.ln.cs.take k).length = m1 := ⟨_, rfl⟩
  obtain ⟨m2, hm2⟩ : ∃ m1, (x.ln.cs.drop k).length = m1 := ⟨_, rfl⟩
  rw [hm1] at cC r1
  rw [hm2] at cC r2
  have hK : ∀ V', Below w.heap.size w V' → V'.cell? ⟨b, o + i * 4, none⟩ = some (.int .i64 q) ∧ V'.cell? ⟨b, o + i * 4 + 1, none⟩ = some (.slice za n1 zc) ∧ V'.cell? ⟨b, o + i * 4 + 2, none⟩ = some (.int .i64 kk) ∧ V'.cell? ⟨b, o + i * 4 + 3, none⟩ = some (.slice ra n2 rc) := fun V' hV' =>
    ⟨(hV'.cell (lt_of_cell' x0)).trans x0, (hV'.cell (lt_of_cell' x1)).trans x1, (hV'.cell (lt_of_cell' x2)).trans x2, (hV'.cell (lt_of_cell' x3)).trans x3⟩
  have HK := Lib.hid hK
  have HD := Lib.hid hins
  have P0 := Lib.hid ((ps_new w (i : Int) (k : Int)).below (below_alloc1 _ (.cells #[.int .i64 0, .int .i64 0] 24)))
  have P1 := Lib.hid (ps_new (w.alloc (.cells #[.int .i64 (i : Int), .int .i64 (k : Int)] 24)) 0 0)
  rw [show (w.alloc (.cells #[.int .i64 (i : Int), .int .i64 (k : Int)] 24)).heap.size = w.heap.size + 1 by simp] at P1
  unfold psV at *
  dsimp only at *
  have hln := hf.len
  obtain ⟨n, hn⟩ : ∃ n, l.length = n := ⟨_, rfl⟩
  obtain ⟨ml, hml⟩ : ∃ n, m.length = n := ⟨_, rfl⟩
  obtain ⟨Sz, hSz⟩ : ∃ n, sizeD (pl l) = n := ⟨_, rfl⟩
  rw [hml] at e3
  subst e3
  rw [hml, hSz] at hbig
  rw [hSz] at cS
  rw [hml] at hm ⊢
  rw [hn] at cA cR cS hlc hi hln ⊢
  have hiI : (i : Int) < (n : Int) := by omega
  have w1 : IntKind.i64.wrap (4000 - (Sz : Int)) = 4000 - (Sz : Int) := IntWalk.i64_in _ (by omega)
  have hI : ¬ 4000 - (Sz : Int) < (ml : Int) := by omega
  have w2a : IntKind.i64.wrap ((k : Int) + (ml : Int)) = (k : Int) + (ml : Int) := IntWalk.i64_in _ (by omega)
  have hkn2 : Hid (k ≤ 50000) := Lib.hid (by omega)
  clear h hu hf hE hfm hmay hmr hx hag hlw hr hz1 hz2 hz3 hpg s1 s2 hK hins x0 x1 x2 x3 hn hml hSz hR0 hm1 hm2 hk hln
  go_enter Tryz.func40, Tryz.ntmps40
  go_upto_region 6 with (first
    | (go_at_call 75; ((with_reducible refine (cA _ hX.out).mono ?_); rintro e w2 ⟨rfl, hk⟩; have KW := Lib.hid hk; have hb := Lib.hid (hX.out.trans (hk.mono hX.out.size)); obtain ⟨_, y0, y1, f0, f1⟩ := P1.out.below hk; obtain ⟨_, x0, x1, _, _⟩ := P0.out.below hk; clear hk))
    | (go_at_call 79; ((with_reducible refine (cM _ hb.out).mono ?_); rintro e w3 ⟨rfl, hk⟩; have hd := Lib.hid (hb.out.trans (hk.mono hb.out.size)); have kd := Lib.hid (KW.out.trans (hk.mono KW.out.size)); clear y0 y1 f0 f1 x0 x1; obtain ⟨_, y0, y1, f0, f1⟩ := P1.out.below kd.out; obtain ⟨_, x0, x1, _, _⟩ := P0.out.below kd.out; clear hb KW; have hb := hd; have KW := kd; clear hd kd hk))
    | (go_at_call 15; ((with_reducible refine (cS _ hb.out).mono ?_); rintro e w4 ⟨rfl, hk⟩; have hd := Lib.hid (hb.out.trans (hk.mono hb.out.size)); have kd := Lib.hid (KW.out.trans (hk.mono KW.out.size)); clear y0 y1 f0 f1 x0 x1; obtain ⟨_, y0, y1, f0, f1⟩ := P1.out.below kd.out; obtain ⟨_, x0, x1, _, _⟩ := P0.out.below kd.out; clear hb KW; have hb := hd; have KW := kd; clear hd kd hk)))
  obtain ⟨wE, hwE⟩ : ∃ W, w4 = W := ⟨_, rfl⟩
  subst hwE
  clear cA cM cS y0 y1 f0 f1
  obtain ⟨z0, z1, z2, z3⟩ := HK.out _ hb.out
  have hb4 : b < w4.heap.size := Nat.lt_of_lt_of_le hbs hb.out.size
  have hsE := hb.out.size
  have hKW4 := KW.out.size
  go_wp2_with (go_at_call 76; ((with_reducible refine (cF _ hb.out).mono ?_); rintro e w3 ⟨yl, rfl, hyl, hy, h3⟩; have hk := Lib.hid (KW.out.trans (h3.mono KW.out.size)); have HY := Lib.hid (And.intro hyl hy); have hd := Lib.hid (hb.out.trans (h3.mono hb.out.size)); have hs43 := h3.size; clear hb KW; have hb := hd; have KW := hk; unfold aggL Lw.sl Lw.sc; clear hk hd h3 hyl hy z0 z1 z2 z3 x0 x1))
  obtain ⟨W3, hW3⟩ : ∃ W3, w3.alloc (.cells #[.int .i64 yl.ln.q, .slice yl.za yl.ln.ls.length yl.zc, .int .i64 yl.ln.k, .slice yl.ra yl.ln.cs.length yl.rc] 46) = W3 := ⟨_, rfl⟩
  have hb3 := below_alloc1 w3 (.cells #[.int .i64 yl.ln.q, .slice yl.za yl.ln.ls.length yl.zc, .int .i64 yl.ln.k, .slice yl.ra yl.ln.cs.length yl.rc] 46)
  have hbx := box_new w3 yl.ln.q yl.ln.k (.slice yl.za yl.ln.ls.length yl.zc) (.slice yl.ra yl.ln.cs.length yl.rc)
  have hsW : W3.heap.size = w3.heap.size + 1 := by rw [← hW3, World.size_alloc]
  rw [hW3] at hb3 hbx ⊢
  have hbW : Below w.heap.size w W3 := hb.out.trans (hb3.mono hb.out.size)
  have hk3 := KW.out.trans (hb3.mono KW.out.size)
  obtain ⟨x0, x1, x2, x3⟩ := HK.out _ hbW
  obtain ⟨_, y0, y1, _, _⟩ := P0.out.below hk3
  have HB := Lib.hid (And.intro hbW (And.intro hk3 hbx))
  have HW3 := Lib.hid hW3
  have hbs3 : b < W3.heap.size := Nat.lt_of_lt_of_le hbs hbW.size
  clear hbW hk3 hbx hW3 hb3
  go_still_tail 19, (by kernel_rfl)
  change wpList _ _ _ _ _ W3.drew
  have hlt3 : w3.heap.size < W3.heap.size := by omega
  go_upto_region 8 with (go_at_call 77; ((with_reducible refine (cC _ _ ?hb ?c1 ?c2 ?c3).mono ?_); (case hb => exact (HB.out.1.alloc HB.out.1.size _).drew); (case c1 => exact (blk_new W3 _ _ _ 0 _ hsW rfl).1); (case c2 => exact (blk_new W3 _ _ _ 1 _ hsW rfl).1); (case c3 => exact (blk_new W3 _ _ _ 2 _ hsW rfl).1); rintro e w5 ⟨vr, rfl, own, hb5⟩; obtain ⟨rA, rC, hvr⟩ := own_len own; subst hvr; have h45 : Below W3.heap.size W3 w5 := ((Below.refl W3.heap.size W3).alloc (Nat.le_refl _) _).drew.trans (hb5.mono (by show W3.heap.size ≤ (W3.alloc _).heap.size; rw [World.size_alloc]; omega)); obtain ⟨_, l0, l1, l2, l3, g0, g1, g2, g3⟩ := HB.out.2.2.below h45; obtain ⟨bx6, h36, hm6⟩ := left_laid (B := w4.heap.size) HY.out.2 (by rw [HW3.out]; exact h45) own (by show w3.heap.size < (W3.alloc _).heap.size; rw [World.size_alloc]; omega) hs43; have HL := Lib.hid (And.intro bx6 (And.intro h36 hm6)); clear own hb5 h45 bx6 h36 hm6 x0 x1 x2 x3 y0 y1))
  obtain ⟨hbx, h36, hm7⟩ := HL.out
  have hbw6 := hb.out.trans (h36.mono hb.out.size)
  have hk6 := KW.out.trans (h36.mono KW.out.size)
  have A0 := Lib.hid (P0.out.below hk6)
  have A1 := Lib.hid (P1.out.below hk6)
  obtain ⟨WR, hWR⟩ : ∃ W, (w5.setCell ⟨w3.heap.size, 3, none⟩ (.slice rA R0.length rC)) = W := ⟨_, rfl⟩
  rw [hWR] at hbx h36 hm7 hbw6 hk6 A0 A1 ⊢
  have KS : Hid (∀ w', Below WR.heap.size WR w' → (w'.cell? ⟨w3.heap.size, 0, none⟩ = some (.int .i64 yl.ln.q) ∧ w'.cell? ⟨w3.heap.size, 1, none⟩ = some (.slice yl.za yl.ln.ls.length yl.zc) ∧ w'.cell? ⟨w3.heap.size, 2, none⟩ = some (.int .i64 yl.ln.k) ∧ w'.cell? ⟨w3.heap.size, 3, none⟩ = some (.slice rA R0.length rC) ∧ w'.cell? ⟨w.heap.size, 0, none⟩ = some (.int .i64 (i : Int)) ∧ w'.cell? ⟨w.heap.size, 1, none⟩ = some (.int .i64 (k : Int)) ∧ w'.frozen? ⟨w.heap.size + 1, 0, none⟩ = false ∧ w'.frozen? ⟨w.heap.size + 1, 1, none⟩ = false)) := Lib.hid (fun w' h => by
      obtain ⟨_, a0, a1, a2, a3, _⟩ := hbx.below h
      obtain ⟨_, c0, c1, _, _⟩ := A0.out.below h
      obtain ⟨_, _, _, d2, d3⟩ := A1.out.below h
      exact ⟨a0, a1, a2, a3, c0, c1, d2, d3⟩)
  have hS : (WR.cell? ⟨w3.heap.size, 0, none⟩ = some (.int .i64 yl.ln.q) ∧ WR.cell? ⟨w3.heap.size, 1, none⟩ = some (.slice yl.za yl.ln.ls.length yl.zc) ∧ WR.cell? ⟨w3.heap.size, 2, none⟩ = some (.int .i64 yl.ln.k) ∧ WR.cell? ⟨w3.heap.size, 3, none⟩ = some (.slice rA R0.length rC) ∧ WR.cell? ⟨w.heap.size, 0, none⟩ = some (.int .i64 (i : Int)) ∧ WR.cell? ⟨w.heap.size, 1, none⟩ = some (.int .i64 (k : Int)) ∧ WR.frozen? ⟨w.heap.size + 1, 0, none⟩ = false ∧ WR.frozen? ⟨w.heap.size + 1, 1, none⟩ = false) := KS.out WR (Below.refl _ _)
  have HM := Lib.hid hm7
  have hbW := Lib.hid hbw6
  have hw4s : w.heap.size + 1 < w4.heap.size := Nat.lt_of_lt_of_le (by simp) hKW4
  have h4R : w4.heap.size ≤ WR.heap.size := Nat.le_trans hs43 h36.size
  clear hbx h36 hm7 hbw6 hk6 HL hWR hb KW l0 l1 l2 l3 g0 g1 g2 g3
  have hb : Hid (Below WR.heap.size WR WR) := Lib.hid (Below.refl _ _)
  go_region_held3 (fun w' => (w'.cell? ⟨w3.heap.size, 0, none⟩ = some (.int .i64 yl.ln.q) ∧ w'.cell? ⟨w3.heap.size, 1, none⟩ = some (.slice yl.za yl.ln.ls.length yl.zc) ∧ w'.cell? ⟨w3.heap.size, 2, none⟩ = some (.int .i64 yl.ln.k) ∧ w'.cell? ⟨w3.heap.size, 3, none⟩ = some (.slice rA R0.length rC) ∧ w'.cell? ⟨w.heap.size, 0, none⟩ = some (.int .i64 (i : Int)) ∧ w'.cell? ⟨w.heap.size, 1, none⟩ = some (.int .i64 (k : Int)) ∧ w'.frozen? ⟨w.heap.size + 1, 0, none⟩ = false ∧ w'.frozen? ⟨w.heap.size + 1, 1, none⟩ = false)) (first | (with_reducible exact hS) | (refine KS.out _ ?_; (repeat (first | (with_reducible exact hb.out) | (with_reducible exact Below.refl _ _) | (with_reducible refine Below.drew ?_) | (with_reducible refine Below.alloc ?_ ?_ _) | (with_reducible refine Below.setCell ?_ ?_ _) | omega | (simp <;> omega))); done) | (refine ⟨?_, ?_, ?_, ?_, ?_, ?_, ?_, ?_⟩ <;> (first | (simp [go_sem, *]; done) | (obtain ⟨_, _, _, _, _, _, _, _⟩ := hS; simp [go_sem, *]; done)))) (first
    | (go_at_call 78; ((with_reducible refine (cR w4.heap.size _ _ ⟨yl.za, yl.zc, rA, rC, ⟨yl.ln.q, yl.ln.ls, yl.ln.k, R0⟩⟩ (hbW.out.trans ((show Below WR.heap.size WR _ by (repeat (first | (with_reducible exact hb.out) | (with_reducible exact Below.refl _ _) | (with_reducible refine Below.drew ?_) | (with_reducible refine Below.alloc ?_ ?_ _) | (with_reducible refine Below.setCell ?_ ?_ _) | omega | (simp <;> omega)))).mono (by omega))) (by first | exact one_line _ ⟨yl.za, yl.zc, rA, rC, ⟨yl.ln.q, yl.ln.ls, yl.ln.k, R0⟩⟩ | exact (one_line _ ⟨yl.za, yl.zc, rA, rC, ⟨yl.ln.q, yl.ln.ls, yl.ln.k, R0⟩⟩).below (Below.drew (Below.refl _ _))) (HM.out.below (by (repeat (first | (with_reducible exact hb.out) | (with_reducible exact Below.refl _ _) | (with_reducible refine Below.drew ?_) | (with_reducible refine Below.alloc ?_ ?_ _) | (with_reducible refine Below.setCell ?_ ?_ _) | omega | (simp <;> omega))))) (by (try simp); omega)).mono ?_); rintro e w7 ⟨v7, r7, rfl, o7, p7', h7⟩; have hd := Lib.hid ((show Below WR.heap.size WR _ by (repeat (first | (with_reducible exact hb.out) | (with_reducible exact Below.refl _ _) | (with_reducible refine Below.drew ?_) | (with_reducible refine Below.alloc ?_ ?_ _) | (with_reducible refine Below.setCell ?_ ?_ _) | omega | (simp <;> omega)))).trans (h7.mono (by (first | omega | (simp; done) | (simp; omega))))); have O7 := Lib.hid (And.intro o7 p7'); clear hb o7 p7' h7; have hb := hd; replace hS := KS.out _ hb.out; obtain ⟨_, d0, d1, _, _⟩ := A1.out.below hb.out; clear hd)))
  all_goals go_wp2_with fail
  all_goals exact bodyPost_ret (v := .tuple #[v7, .agg #[.int .i64 (i : Int), .int .i64 ((k : Int) + (ml : Int))], .int .i64 0]) (by simp [results, Tryz.results40, go_sem, *]) rfl ⟨v7, r7, rfl, (((O7.out.1.set (p := ⟨w.heap.size + 1, 0, none⟩) hw4s _).set (p := ⟨w.heap.size + 1, 1, none⟩) hw4s _).mono (by omega)), O7.out.2.trans (HD.out _ (by show (⟨yl.ln.q, yl.ln.ls, yl.ln.k, R0⟩ : Ln) = _; rw [HY.out.1]; rfl)), ((hbW.out.trans (hb.out.mono (by omega))).setCell (p := ⟨w.heap.size + 1, 0, none⟩) (Nat.le_succ _) _).setCell (p := ⟨w.heap.size + 1, 1, none⟩) (Nat.le_succ _) _⟩

theorem dinsert_any (v u : Value) (l : List Lw) (m : Row) (p1 p2 : Int) (w : World) (h : DocAt w v l) (hu : RowAt w u m) (hf : Fine (pl l)) (hE : Tg.Env w) (hm : m.length ≤ 50000) (hfm : Fair m) :
    Calls Tryz.prog 40 #[v, psV (p1, p2), u] w (DocPE (insP (pl l) (p1, p2) m).1 (insP (pl l) (p1, p2) m).2.1 (insP (pl l) (p1, p2) m).2.2 w) := by
  unfold insP
  by_cases hc : (askedD (pl l) (p1, p2) (p1, p2) && mayR m) = true
  · rw [if_pos hc]
    by_cases hb : 4000 < sizeD (pl l) + m.length
    · rw [if_pos hb]
      have := dinsert_err v u l m p1 p2 w h hu hf hE hm hfm (.inr hb)
      rw [if_pos hc] at this
      exact this
    · rw [if_neg hb]
      simp only [Bool.and_eq_true] at hc
      obtain ⟨al, aa, bl, ba, hp, hq, hsp, hmay⟩ := askedD_span hc.1
      simp only [Prod.mk.injEq] at hp hq
      obtain ⟨rfl, rfl⟩ := hp
      have e1 : al = bl := by omega
      have e2 : aa = ba := by omega
      subst e1 e2
      exact dinsert_ok v u l m al aa w h hu hf hE hm hfm (by have := hsp.hb; rwa [pl_length] at this) hsp.hka hmay hc.2 (by omega)
  · have hc2 : (askedD (pl l) (p1, p2) (p1, p2) && mayR m) = false := by simpa using hc
    rw [if_neg hc]
    have := dinsert_err v u l m p1 p2 w h hu hf hE hm hfm (.inl hc2)
    rw [if_neg hc] at this
    exact this

end Go.Proofs.YtafincmcmgedbaaGreatDoor

namespace Go.Proofs.YtafincmcmgedbaaGreatDoor
open Go.RowKit Go.Lib

theorem lnWith_self (x : Ln) : lnWith x x.cs = x := by cases x; rfl
theorem take_len {d : Doc} {i : Nat} (hi : i < d.length) : (d.take i).length = i := by rw [List.length_take]; omega
theorem put_back {d : Doc} {i : Nat} (hi : i < d.length) : d.take i ++ [d[i]!] ++ d.drop (i + 1) = d := by
  rw [List.append_assoc, List.singleton_append, ← drop_split hi, List.take_append_drop]
theorem app_at {A B : Doc} {x : Ln} {i : Nat} (hA : A.length = i) : (A ++ x :: B)[i]! = x := by
  subst hA
  rw [List.getElem!_eq_getElem?_getD, List.getElem?_append_right (Nat.le_refl _), Nat.sub_self]; rfl
theorem app_at1 {A B : Doc} {x y : Ln} {i : Nat} (hA : A.length = i) : (A ++ x :: y :: B)[i + 1]! = y := by
  subst hA
  rw [List.getElem!_eq_getElem?_getD, List.getElem?_append_right (by omega), show A.length + 1 - A.length = 1 by omega]; rfl
theorem insert_cons (d : Doc) (i k : Nat) (m : Row) : insertD d i k m = d.take i ++ lnWith d[i]! ((d[i]!).cs.take k ++ m ++ (d[i]!).cs.drop k) :: d.drop (i + 1) := by
  unfold insertD replaceD
  rw [List.append_assoc]; rfl
theorem split_cons (d : Doc) (i k : Nat) : splitD d i k = d.take i ++ splA d[i]! k :: splB d[i]! k :: d.drop (i + 1) := by
  unfold splitD replaceD
  rw [List.append_assoc]; rfl
theorem drop_app {A B : Doc} {i : Nat} (j : Nat) (hA : A.length = i) : (A ++ B).drop (i + j) = B.drop j := by
  subst hA
  rw [List.drop_append, List.drop_eq_nil_of_le (by omega), List.nil_append, show A.length + j - A.length = j by omega]
theorem insert_back {d : Doc} {i k : Nat} (m : Row) (hi : i < d.length) (hk : k ≤ cnt d i) : deleteD (insertD d i k m) i k i (k + m.length) = d := by
  have hl := take_len hi
  rw [delete_eq]
  unfold midL
  rw [insert_cons, app_at hl, List.take_left' hl, drop_app 1 hl, List.drop_succ_cons, List.drop_zero]
  have e : (lnWith d[i]! ((d[i]!).cs.take k ++ m ++ (d[i]!).cs.drop k)).cs = (d[i]!).cs.take k ++ m ++ (d[i]!).cs.drop k := rfl
  have h1 : ((d[i]!).cs.take k).length = k := by rw [List.length_take]; unfold cnt at hk; omega
  have h2 : ((d[i]!).cs.take k ++ m).length = k + m.length := by rw [List.length_append, h1]
  have eX : ((d[i]!).cs.take k ++ m ++ (d[i]!).cs.drop k).take k ++ ((d[i]!).cs.take k ++ m ++ (d[i]!).cs.drop k).drop (k + m.length) = (d[i]!).cs := by
    rw [List.drop_left' h2, List.append_assoc, List.take_left' h1, List.take_append_drop]
  rw [e, eX]
  have e2 : lnWith (lnWith d[i]! ((d[i]!).cs.take k ++ m ++ (d[i]!).cs.drop k)) (d[i]!).cs = d[i]! := lnWith_self (d[i]!)
  rw [e2, put_back hi]
theorem split_back {d : Doc} {i k : Nat} (hi : i < d.length) (_hk : k ≤ cnt d i) : deleteD (splitD d i k) i k (i + 1) 0 = d := by
  have hl := take_len hi
  rw [delete_eq]
  unfold midL
  rw [split_cons, app_at hl, app_at1 hl, List.take_left' hl, show i + 1 + 1 = i + 2 from rfl, drop_app 2 hl, List.drop_succ_cons, List.drop_succ_cons, List.drop_zero (l := List.drop (i + 1) d)]
  have e : (splA d[i]! k).cs.take k ++ (splB d[i]! k).cs.drop 0 = (d[i]!).cs := by
    show ((d[i]!).cs.take k).take k ++ ((d[i]!).cs.drop k).drop 0 = _
    rw [List.take_take, Nat.min_self, List.drop_zero, List.take_append_drop]
  rw [e]
  have e2 : lnWith (splA d[i]! k) (d[i]!).cs = d[i]! := lnWith_self (d[i]!)
  rw [e2, put_back hi]
theorem insert_mem {d : Doc} {i k : Nat} {m : Row} {x : Ln} (hx : x ∈ insertD d i k m) : x ∈ d ∨ x = lnWith d[i]! ((d[i]!).cs.take k ++ m ++ (d[i]!).cs.drop k) := by
  rw [insert_cons] at hx
  rcases List.mem_append.1 hx with hx | hx
  · exact .inl (List.mem_of_mem_take hx)
  · rcases List.mem_cons.1 hx with hx | hx
    · exact .inr hx
    · exact .inl (List.mem_of_mem_drop hx)
theorem split_mem {d : Doc} {i k : Nat} {x : Ln} (hx : x ∈ splitD d i k) : x ∈ d ∨ x = splA d[i]! k ∨ x = splB d[i]! k := by
  rw [split_cons] at hx
  rcases List.mem_append.1 hx with hx | hx
  · exact .inl (List.mem_of_mem_take hx)
  · rcases List.mem_cons.1 hx with hx | hx
    · exact .inr (.inl hx)
    · rcases List.mem_cons.1 hx with hx | hx
      · exact .inr (.inr hx)
      · exact .inl (List.mem_of_mem_drop hx)
theorem insert_length {d : Doc} {i k : Nat} {m : Row} (hi : i < d.length) : (insertD d i k m).length = d.length := by
  rw [insert_cons, List.length_append, List.length_cons, List.length_drop, take_len hi]; omega
theorem split_length {d : Doc} {i k : Nat} (hi : i < d.length) : (splitD d i k).length = d.length + 1 := by
  rw [split_cons, List.length_append, List.length_cons, List.length_cons, List.length_drop, take_len hi]; omega
theorem size_at {d : Doc} {i : Nat} (hi : i < d.length) : sizeD d = sizeD (d.take i) + (cnt d i + sizeD (d.drop (i + 1))) := by
  have h1 := congrArg sizeD (put_back hi)
  rw [sizeD_append, sizeD_append] at h1
  have h2 : sizeD [d[i]!] = cnt d i := by rw [sizeD_cons]; rfl
  omega
theorem insert_size {d : Doc} {i k : Nat} {m : Row} (hi : i < d.length) (hk : k ≤ cnt d i) : sizeD (insertD d i k m) = sizeD d + m.length := by
  rw [insert_cons, sizeD_append, sizeD_cons, size_at hi]
  have e : (lnWith d[i]! ((d[i]!).cs.take k ++ m ++ (d[i]!).cs.drop k)).cs.length = cnt d i + m.length := by
    show ((d[i]!).cs.take k ++ m ++ (d[i]!).cs.drop k).length = _
    unfold cnt at hk ⊢
    rw [List.length_append, List.length_append, List.length_take, List.length_drop]; omega
  rw [e]; omega
theorem split_size {d : Doc} {i k : Nat} (hi : i < d.length) (hk : k ≤ cnt d i) : sizeD (splitD d i k) = sizeD d := by
  rw [split_cons, sizeD_append, sizeD_cons, sizeD_cons, size_at hi]
  have e1 : (splA d[i]! k).cs.length = k := by
    show ((d[i]!).cs.take k).length = k
    unfold cnt at hk
    rw [List.length_take]; omega
  have e2 : (splB d[i]! k).cs.length = cnt d i - k := by
    show ((d[i]!).cs.drop k).length = _
    rw [List.length_drop]; rfl
  rw [e1, e2]; omega
theorem mayR_part {r s : Row} (h : ∀ c ∈ s, c ∈ r) (hr : mayR r = true) : mayR s = true := by
  unfold mayR at hr ⊢
  rw [List.all_eq_true] at hr ⊢
  exact fun c hc => hr c (h c hc)
theorem may_of {e : Doc} (h1 : 1 ≤ e.length) (h2 : e.length ≤ 200) (h3 : sizeD e ≤ 4000) (h4 : ∀ x ∈ e, mayS x = true) : mayD e = true := by
  unfold mayD
  rw [decide_eq_true (show 1 ≤ e.length ∧ e.length ≤ 200 from ⟨h1, h2⟩), decide_eq_true h3, Bool.true_and, Bool.true_and, List.all_eq_true]
  exact h4
theorem mayS_with {x : Ln} {r : Row} (hx : mayS x = true) (hr : mayR r = true) : mayS (lnWith x r) = true := by
  unfold mayS at hx ⊢
  simp only [Bool.and_eq_true] at hx ⊢
  exact ⟨hx.1, hr⟩
theorem mayS_row {x : Ln} (hx : mayS x = true) : mayR x.cs = true := by
  unfold mayS at hx
  simp only [Bool.and_eq_true] at hx
  exact hx.2
theorem insert_may {d : Doc} {i k : Nat} {m : Row} (hi : i < d.length) (hk : k ≤ cnt d i) (hm : mayD d = true) (hr : mayR m = true) (hs : sizeD d + m.length ≤ 4000) : mayD (insertD d i k m) = true := by
  obtain ⟨m1, m2, m3⟩ := mayD_len hm
  refine may_of (by rw [insert_length hi]; exact m1) (by rw [insert_length hi]; exact m2) (by rw [insert_size hi hk]; exact hs) (fun x hx => ?_)
  rcases insert_mem hx with hx | rfl
  · exact mayD_mem hm hx
  · have h0 := mayD_mem hm (at_mem hi)
    refine mayS_with h0 ?_
    have h1 := mayS_row h0
    unfold mayR at h1 hr ⊢
    rw [List.all_append, List.all_append, Bool.and_eq_true, Bool.and_eq_true]
    exact ⟨⟨mayR_part (fun c hc => List.mem_of_mem_take hc) h1, hr⟩, mayR_part (fun c hc => List.mem_of_mem_drop hc) h1⟩
theorem split_may {d : Doc} {i k : Nat} (hi : i < d.length) (hk : k ≤ cnt d i) (hm : mayD d = true) (hn : d.length ≠ 200) : mayD (splitD d i k) = true := by
  obtain ⟨m1, m2, m3⟩ := mayD_len hm
  refine may_of (by rw [split_length hi]; omega) (by rw [split_length hi]; omega) (by rw [split_size hi hk]; exact m3) (fun x hx => ?_)
  rcases split_mem hx with hx | rfl | rfl
  · exact mayD_mem hm hx
  · have h0 := mayD_mem hm (at_mem hi)
    exact mayS_with h0 (mayR_part (fun c hc => List.mem_of_mem_take hc) (mayS_row h0))
  · have h0 := mayD_mem hm (at_mem hi)
    have hr : mayR ((d[i]!).cs.drop k) = true := mayR_part (fun c hc => List.mem_of_mem_drop hc) (mayS_row h0)
    unfold mayS at h0 ⊢
    simp only [Bool.and_eq_true] at h0 ⊢
    refine ⟨⟨h0.1.1, ?_⟩, hr⟩
    show kindB (d[i]!).ls (if k = (d[i]!).cs.length then 0 else (d[i]!).k) = true
    split
    · unfold kindB
      split <;> rfl
    · exact h0.1.2
theorem fair_app {l m : Row} (hl : Fair l) (hm : Fair m) : Fair (l ++ m) := fun k hk => by
  have hmem : (l ++ m)[k]! ∈ l ++ m := by rw [List.getElem!_eq_getElem?_getD, List.getElem?_eq_getElem hk]; exact List.getElem_mem hk
  rcases List.mem_append.1 hmem with h3 | h3
  · obtain ⟨j, hj, e⟩ := List.mem_iff_getElem.1 h3
    have := hl j hj
    rw [List.getElem!_eq_getElem?_getD, List.getElem?_eq_getElem hj] at this
    rw [← e]; exact this
  · obtain ⟨j, hj, e⟩ := List.mem_iff_getElem.1 h3
    have := hm j hj
    rw [List.getElem!_eq_getElem?_getD, List.getElem?_eq_getElem hj] at this
    rw [← e]; exact this
theorem insert_fine {d : Doc} {i k : Nat} {m : Row} (hi : i < d.length) (hk : k ≤ cnt d i) (hf : Fine d) (hm : mayD d = true) (hs : sizeD d + m.length ≤ 4000) (hfm : Fair m) : Fine (insertD d i k m) := by
  obtain ⟨m1, m2, m3⟩ := mayD_len hm
  refine ⟨by rw [insert_length hi]; omega, fun x hx => ?_, by rw [insert_size hi hk]; omega⟩
  rcases insert_mem hx with hx | rfl
  · exact hf.z x hx
  · have h0 := hf.z _ (at_mem hi)
    have hc := cnt_le hi
    unfold cnt at hc
    refine ⟨h0.1, ?_, ?_⟩
    · show ((d[i]!).cs.take k ++ m ++ (d[i]!).cs.drop k).length ≤ 50000
      rw [List.length_append, List.length_append, List.length_take, List.length_drop]; omega
    · exact fair_app (fair_app (fair_of_mem (fun c hc => List.mem_of_mem_take hc) h0.2.2) hfm) (fair_of_mem (fun c hc => List.mem_of_mem_drop hc) h0.2.2)
theorem split_fine {d : Doc} {i k : Nat} (hi : i < d.length) (hk : k ≤ cnt d i) (hf : Fine d) (hm : mayD d = true) : Fine (splitD d i k) := by
  obtain ⟨m1, m2, m3⟩ := mayD_len hm
  refine ⟨by rw [split_length hi]; omega, fun x hx => ?_, by rw [split_size hi hk]; omega⟩
  rcases split_mem hx with hx | rfl | rfl
  · exact hf.z x hx
  · have h0 := hf.z _ (at_mem hi)
    exact ⟨h0.1, by show ((d[i]!).cs.take k).length ≤ 50000; have := h0.2.1; rw [List.length_take]; omega, fair_of_mem (fun c hc => List.mem_of_mem_take hc) h0.2.2⟩
  · have h0 := hf.z _ (at_mem hi)
    exact ⟨h0.1, by show ((d[i]!).cs.drop k).length ≤ 50000; have := h0.2.1; rw [List.length_drop]; omega, fair_of_mem (fun c hc => List.mem_of_mem_drop hc) h0.2.2⟩
theorem insert_span {d : Doc} {i k : Nat} (m : Row) (hi : i < d.length) (hk : k ≤ cnt d i) : Span (insertD d i k m) i k i (k + m.length) := by
  have hc : k + m.length ≤ cnt (insertD d i k m) i := by
    unfold cnt at hk ⊢
    rw [insert_cons, app_at (take_len hi)]
    show _ ≤ ((d[i]!).cs.take k ++ m ++ (d[i]!).cs.drop k).length
    rw [List.length_append, List.length_append, List.length_take, List.length_drop]; omega
  exact ⟨by rw [insert_length hi]; exact hi, Nat.le_refl _, by omega, hc, fun _ => by omega⟩
theorem split_span {d : Doc} {i k : Nat} (hi : i < d.length) (hk : k ≤ cnt d i) : Span (splitD d i k) i k (i + 1) 0 := by
  have hc : k ≤ cnt (splitD d i k) i := by
    unfold cnt at hk ⊢
    rw [split_cons, app_at (take_len hi)]
    show k ≤ ((d[i]!).cs.take k).length
    rw [List.length_take]; omega
  exact ⟨by rw [split_length hi]; omega, by omega, hc, Nat.zero_le _, fun h => by omega⟩
/-- Nothing of a place stands alone. -/
theorem delP_mk {d : Doc} {al aa bl ba : Nat} (h : Span d al aa bl ba) (hm : mayD d = true) : delP d ((al : Int), (aa : Int)) ((bl : Int), (ba : Int)) = (deleteD d al aa bl ba, 0) := by
  unfold delP; rw [askedD_mk h hm]; rfl
theorem partP_mk {d : Doc} {al aa bl ba : Nat} (h : Span d al aa bl ba) (hm : mayD d = true) : partP d ((al : Int), (aa : Int)) ((bl : Int), (ba : Int)) = (eachD d partU (strs d al aa bl ba), 0) := by
  unfold partP; rw [askedD_mk h hm]; rfl
theorem span_head {d : Doc} {al aa bl ba : Nat} (h : Span d al aa bl ba) : Span d 0 0 al aa :=
  ⟨by have := h.hb; have := h.hab; omega, Nat.zero_le _, Nat.zero_le _, h.hka, fun _ => Nat.zero_le _⟩
theorem span_tail {d : Doc} {al aa bl ba : Nat} (h : Span d al aa bl ba) : Span d bl ba (d.length - 1) (cnt d (d.length - 1)) :=
  ⟨by have := h.hb; omega, by have := h.hb; omega, h.hkb, Nat.le_refl _, fun e => by rw [← e]; exact h.hkb⟩
theorem each_at {d : Doc} {al aa bl ba : Nat} (j : Nat) (hj : j < bl + 1 - al) : (eachD d partU (strs d al aa bl ba))[j]! = atS d partU (stN d al aa bl ba (al + j)) := by
  rw [List.getElem!_eq_getElem?_getD]
  unfold eachD strs strsF
  rw [List.getElem?_map, List.getElem?_map, List.getElem?_range' hj, Nat.one_mul]
  rfl
theorem each_length (d : Doc) (al aa bl ba : Nat) : (eachD d partU (strs d al aa bl ba)).length = bl + 1 - al := by unfold eachD; rw [List.length_map, strs_length]
theorem partU_all (r : Row) : partU r 0 r.length = r := by unfold partU; rw [List.drop_zero, Nat.sub_zero, List.take_length]
/-- What is left, a line at a time. -/
theorem left_low {d : Doc} {al aa bl ba i : Nat} (h : Span d al aa bl ba) (hi : i < al) : (deleteD d al aa bl ba)[i]! = (eachD d partU (strs d 0 0 al aa))[i]! := by
  rw [delete_low h hi, each_at i (by omega), Nat.zero_add]
  show _ = lnWith d[i]! (partU (d[i]!).cs (frN 0 0 i) (toN d al aa i))
  have h1 : frN 0 0 i = 0 := by unfold frN; split <;> rfl
  have h2 : toN d al aa i = cnt d i := if_neg (by omega)
  rw [h1, h2]
  unfold cnt
  rw [partU_all, lnWith_self]
theorem left_mid {d : Doc} {al aa bl ba : Nat} (h : Span d al aa bl ba) : (deleteD d al aa bl ba)[al]! = lnWith (eachD d partU (strs d 0 0 al aa))[al]! ((eachD d partU (strs d 0 0 al aa))[al]!.cs ++ (eachD d partU (strs d bl ba (d.length - 1) (cnt d (d.length - 1))))[0]!.cs) := by
  rw [delete_line h, each_at al (by omega), each_at 0 (by have := h.hb; omega), Nat.zero_add, Nat.add_zero]
  have e1 : atS d partU (stN d 0 0 al aa al) = lnWith d[al]! ((d[al]!).cs.take aa) := by
    show lnWith d[al]! (partU (d[al]!).cs (frN 0 0 al) (toN d al aa al)) = _
    have h1 : frN 0 0 al = 0 := by unfold frN; split <;> rfl
    have h2 : toN d al aa al = aa := if_pos rfl
    rw [h1, h2]
    unfold partU
    rw [List.drop_zero, Nat.sub_zero]
  have e2 : atS d partU (stN d bl ba (d.length - 1) (cnt d (d.length - 1)) bl) = lnWith d[bl]! ((d[bl]!).cs.drop ba) := by
    show lnWith d[bl]! (partU (d[bl]!).cs (frN bl ba bl) (toN d (d.length - 1) (cnt d (d.length - 1)) bl)) = _
    have h1 : frN bl ba bl = ba := if_pos rfl
    have h2 : toN d (d.length - 1) (cnt d (d.length - 1)) bl = cnt d bl := by
      unfold toN; split
      · next e => rw [e]
      · rfl
    rw [h1, h2]
    unfold partU cnt
    rw [List.take_of_length_le (by rw [List.length_drop]; exact Nat.le_refl _)]
  rw [e1, e2]
  rfl
theorem left_high {d : Doc} {al aa bl ba i : Nat} (h : Span d al aa bl ba) (hi : al < i) (hl : i < (deleteD d al aa bl ba).length) : (deleteD d al aa bl ba)[i]! = (eachD d partU (strs d bl ba (d.length - 1) (cnt d (d.length - 1))))[i - al]! := by
  have hn := delete_length h
  have hab := h.hab
  have hb := h.hb
  rw [each_at (i - al) (by omega)]
  have e1 : (deleteD d al aa bl ba)[i]! = d[bl + (i - al)]! := by
    rw [delete_eq, List.getElem!_eq_getElem?_getD, List.getElem!_eq_getElem?_getD]
    have hl2 : (d.take al ++ [midL d al aa bl ba]).length = al + 1 := by rw [List.length_append, take_len (by omega)]; rfl
    rw [List.getElem?_append_right (by omega), hl2, List.getElem?_drop, show bl + 1 + (i - (al + 1)) = bl + (i - al) by omega]
  rw [e1]
  show _ = lnWith d[bl + (i - al)]! (partU (d[bl + (i - al)]!).cs (frN bl ba (bl + (i - al))) (toN d (d.length - 1) (cnt d (d.length - 1)) (bl + (i - al))))
  have h1 : frN bl ba (bl + (i - al)) = 0 := if_neg (by omega)
  have h2 : toN d (d.length - 1) (cnt d (d.length - 1)) (bl + (i - al)) = cnt d (bl + (i - al)) := by
    unfold toN; split
    · next e => rw [e]
    · rfl
  rw [h1, h2]
  unfold cnt
  rw [partU_all, lnWith_self]
theorem count_co {d : Doc} {al aa bl ba : Nat} (h : Span d al aa bl ba) (hm : mayD d = true) : countA d ((al : Int), (aa : Int)) ((bl : Int), (ba : Int)) = co d bl ba - co d al aa := by
  rw [← cells_count h hm, cells_is h hm, List.length_take, List.length_drop, flatD_length]
  have h1 := co_le h
  have h2 : co d bl ba ≤ sizeD d := by
    have a := cnt_le h.hb
    have b := h.hkb
    unfold co; omega
  omega
theorem size_less {d : Doc} {al aa bl ba : Nat} (h : Span d al aa bl ba) (hm : mayD d = true) : sizeD (deleteD d al aa bl ba) + countA d ((al : Int), (aa : Int)) ((bl : Int), (ba : Int)) = sizeD d := by
  rw [count_co h hm]; exact size_delete h

end Go.Proofs.YtafincmcmgedbaaGreatDoor

namespace Go.Proofs.YtafincmcmgedbaaGreatDoor
open Go.RowKit Go.Lib

set_option maxRecDepth 20000 in
set_option maxHeartbeats 16000000 in
theorem rdinsert_err (v u : Value) (l : List Lw) (m : Row) (p1 p2 : Int) (w : World) (h : DocAt w v l) (hu : RowAt w u m) (hf : Fine (pl l)) (hm : m.length ≤ 50000) (hfm : Fair m)
    (hA : (askedD (pl l) (p1, p2) (p1, p2) && mayR m) = false ∨ 4000 < sizeD (pl l) + m.length) :
    Calls Tryz.prog 41 #[v, psV (p1, p2), u] w (DocPE [] (0, 0) (if (askedD (pl l) (p1, p2) (p1, p2) && mayR m) then 10 else 1) w) := by
  refine Calls.mono ?_ (fun e w' h => docPE_err h)
  obtain ⟨a, c, rfl⟩ := h.s.len
  have cA : ∀ w1, Below w.heap.size w w1 → _ := fun w1 h1 => rdspan_any _ l p1 p2 p1 p2 w1 (h.below h1) hf
  have cM : ∀ w1, Below w.heap.size w w1 → _ := fun w1 h1 => rmayRow_any u m w1 (hu.below h1) (by omega) hfm
  have cS : ∀ w1, Below w.heap.size w w1 → _ := fun w1 h1 => rdsize_any _ l w1 (h.s.below h1) hf.len hf.s
  obtain ⟨a2, c2, rfl⟩ := hu.len
  have hsz := hf.s
  have P0 := Lib.hid ((ps_new w p1 p2).below (below_alloc1 _ (.cells #[.int .i64 0, .int .i64 0] 24)))
  have P1 := Lib.hid (ps_new (w.alloc (.cells #[.int .i64 p1, .int .i64 p2] 24)) 0 0)
  rw [show (w.alloc (.cells #[.int .i64 p1, .int .i64 p2] 24)).heap.size = w.heap.size + 1 by simp] at P1
  have hX := Lib.hid (two_allocs w (.cells #[.int .i64 p1, .int .i64 p2] 24) (.cells #[.int .i64 0, .int .i64 0] 24))
  obtain ⟨n, hn⟩ : ∃ n, l.length = n := ⟨_, rfl⟩
  obtain ⟨ml, hml⟩ : ∃ n, m.length = n := ⟨_, rfl⟩
  obtain ⟨S, hS⟩ : ∃ n, sizeD (pl l) = n := ⟨_, rfl⟩
  obtain ⟨A, hAe⟩ : ∃ A, askedD (pl l) (p1, p2) (p1, p2) = A := ⟨_, rfl⟩
  obtain ⟨M, hMe⟩ : ∃ A, mayR m = A := ⟨_, rfl⟩
  rw [hAe] at cA hA ⊢
  rw [hMe] at cM hA ⊢
  rw [hS] at cS hA hsz
  rw [hml] at cM hA hm ⊢
  rw [hn] at cA cS ⊢
  unfold psV at *
  dsimp only at *
  clear h hu hf hfm hn hml hS hAe hMe
  cases A with
  | false =>
    rw [Bool.false_and, if_neg (by decide)]
    clear hA
    go_enter Tryz.func41, Tryz.ntmps41
    go_wp2_with (go_at_call 73; ((with_reducible refine (cA _ hX.out).mono ?_); rintro e w2 ⟨rfl, hk⟩; have KW := Lib.hid hk; have hb := Lib.hid (hX.out.trans (hk.mono hX.out.size)); obtain ⟨_, y0, y1, f0, f1⟩ := P1.out.below hk; obtain ⟨_, x0, x1, _, _⟩ := P0.out.below hk; clear hk))
    exact bodyPost_ret (v := .tuple #[.slice none 0 0, .agg #[.int .i64 0, .int .i64 0], .int .i64 1]) (by simp [results, Tryz.results41, go_sem, *]) rfl ⟨rfl, (hb.out.setCell (p := ⟨w.heap.size + 1, 0, none⟩) (Nat.le_succ _) _).setCell (p := ⟨w.heap.size + 1, 1, none⟩) (Nat.le_succ _) _⟩
  | true =>
    cases M with
    | false =>
      rw [Bool.and_false, if_neg (by decide)]
      clear hA
      go_enter Tryz.func41, Tryz.ntmps41
      go_wp2_with (first
        | (go_at_call 73; ((with_reducible refine (cA _ hX.out).mono ?_); rintro e w2 ⟨rfl, hk⟩; have KW := Lib.hid hk; have hb := Lib.hid (hX.out.trans (hk.mono hX.out.size)); obtain ⟨_, y0, y1, f0, f1⟩ := P1.out.below hk; obtain ⟨_, x0, x1, _, _⟩ := P0.out.below hk; clear hk))
        | (go_at_call 58; ((with_reducible refine (cM _ hb.out).mono ?_); rintro e w3 ⟨rfl, hk⟩; have hd := Lib.hid (hb.out.trans (hk.mono hb.out.size)); have kd := Lib.hid (KW.out.trans (hk.mono KW.out.size)); clear y0 y1 f0 f1 x0 x1; obtain ⟨_, y0, y1, f0, f1⟩ := P1.out.below kd.out; obtain ⟨_, x0, x1, _, _⟩ := P0.out.below kd.out; clear hb KW; have hb := hd; have KW := kd; clear hd kd hk)))
      exact bodyPost_ret (v := .tuple #[.slice none 0 0, .agg #[.int .i64 0, .int .i64 0], .int .i64 1]) (by simp [results, Tryz.results41, go_sem, *]) rfl ⟨rfl, (hb.out.setCell (p := ⟨w.heap.size + 1, 0, none⟩) (Nat.le_succ _) _).setCell (p := ⟨w.heap.size + 1, 1, none⟩) (Nat.le_succ _) _⟩
    | true =>
      have hbig : 4000 < S + ml := by
        rcases hA with h1 | h1
        · cases h1
        · exact h1
      rw [Bool.and_true, if_pos rfl]
      have w1 : IntKind.i64.wrap ((S : Int) + (ml : Int)) = (S : Int) + (ml : Int) := IntWalk.i64_in _ (by omega)
      have hI : (4000 : Int) < (S : Int) + (ml : Int) := by omega
      clear hA
      go_enter Tryz.func41, Tryz.ntmps41
      go_wp2_with (first
        | (go_at_call 73; ((with_reducible refine (cA _ hX.out).mono ?_); rintro e w2 ⟨rfl, hk⟩; have KW := Lib.hid hk; have hb := Lib.hid (hX.out.trans (hk.mono hX.out.size)); obtain ⟨_, y0, y1, f0, f1⟩ := P1.out.below hk; obtain ⟨_, x0, x1, _, _⟩ := P0.out.below hk; clear hk))
        | (go_at_call 58; ((with_reducible refine (cM _ hb.out).mono ?_); rintro e w3 ⟨rfl, hk⟩; have hd := Lib.hid (hb.out.trans (hk.mono hb.out.size)); have kd := Lib.hid (KW.out.trans (hk.mono KW.out.size)); clear y0 y1 f0 f1 x0 x1; obtain ⟨_, y0, y1, f0, f1⟩ := P1.out.below kd.out; obtain ⟨_, x0, x1, _, _⟩ := P0.out.below kd.out; clear hb KW; have hb := hd; have KW := kd; clear hd kd hk))
        | (go_at_call 16; ((with_reducible refine (cS _ hb.out).mono ?_); rintro e w4 ⟨rfl, hk⟩; have hd := Lib.hid (hb.out.trans (hk.mono hb.out.size)); have kd := Lib.hid (KW.out.trans (hk.mono KW.out.size)); clear y0 y1 f0 f1 x0 x1; obtain ⟨_, y0, y1, f0, f1⟩ := P1.out.below kd.out; obtain ⟨_, x0, x1, _, _⟩ := P0.out.below kd.out; clear hb KW; have hb := hd; have KW := kd; clear hd kd hk)))
      exact bodyPost_ret (v := .tuple #[.slice none 0 0, .agg #[.int .i64 0, .int .i64 0], .int .i64 10]) (by simp [results, Tryz.results41, go_sem, *]) rfl ⟨rfl, (hb.out.setCell (p := ⟨w.heap.size + 1, 0, none⟩) (Nat.le_succ _) _).setCell (p := ⟨w.heap.size + 1, 1, none⟩) (Nat.le_succ _) _⟩

theorem set_insert {d : Doc} {i k : Nat} {m : Row} {R0 : Row} (hi : i < d.length) (hR : (d[i]!).cs.take k ++ m ++ (d[i]!).cs.drop k = R0) : d.set i (lnWith d[i]! R0) = insertD d i k m := by
  unfold insertD replaceD
  rw [List.set_eq_take_append_cons_drop, if_pos hi, hR]
  simp

set_option maxRecDepth 40000 in
set_option maxHeartbeats 32000000 in
theorem rdinsert_ok (v u : Value) (l : List Lw) (m : Row) (i k : Nat) (w : World) (h : DocAt w v l) (hu : RowAt w u m) (hf : Fine (pl l)) (hm : m.length ≤ 50000) (hfm : Fair m)
    (hi : i < l.length) (hk : k ≤ cnt (pl l) i) (hmay : mayD (pl l) = true) (hmr : mayR m = true) (hbig : sizeD (pl l) + m.length ≤ 4000) :
    Calls Tryz.prog 41 #[v, psV ((i : Int), (k : Int)), u] w (DocPE (insertD (pl l) i k m) ((i : Int), (k : Int) + m.length) 0 w) := by
  obtain ⟨a, cc, rfl⟩ := h.s.len
  have hX := Lib.hid (two_allocs w (.cells #[.int .i64 (i : Int), .int .i64 (k : Int)] 24) (.cells #[.int .i64 0, .int .i64 0] 24))
  have cA : ∀ w1, Below w.heap.size w w1 → _ := fun w1 h1 => rdspan_any (.slice a l.length cc) l (i : Int) (k : Int) (i : Int) (k : Int) w1 (h.below h1) hf
  rw [askedD_mk (bl := i) (ba := k) ⟨by rw [pl_length]; exact hi, Nat.le_refl _, hk, hk, fun _ => Nat.le_refl _⟩ hmay] at cA
  have cM : ∀ w1, Below w.heap.size w w1 → _ := fun w1 h1 => rmayRow_any u m w1 (hu.below h1) (by omega) hfm
  have cS : ∀ w1, Below w.heap.size w w1 → _ := fun w1 h1 => rdsize_any _ l w1 (h.s.below h1) hf.len hf.s
  have cO : ∀ w1, Below w.heap.size w w1 → _ := fun w1 h1 => rdown_any _ l w1 (h.below h1) hf
  rw [hmr] at cM
  rw [cnt_pl hi] at hk
  obtain ⟨a3, c3, e3⟩ := hu.len
  obtain ⟨b, o, q, za, n1, zc, kk, ra, n2, rc, rfl, _, hlc, hcm, hbs, x0, x1, x2, x3, hag, hlw, hr, hz1, hz2, hz3, hpg⟩ := lines_at h hf hi
  unfold maxLen at hcm
  obtain ⟨x, hx⟩ : ∃ x, l[i]! = x := ⟨_, rfl⟩
  rw [hx] at hlw hr hz1 hz2 hz3 hpg hk
  have cI : ∀ w1, Below w.heap.size w w1 → _ := fun w1 h1 => rinsert_on (.slice ra n2 rc) u x.ln.cs m k w1 (hr.below h1) (hu.below h1) hz2 hm hk
  obtain ⟨R0, hR0⟩ : ∃ R0, x.ln.cs.take k ++ m ++ x.ln.cs.drop k = R0 := ⟨_, rfl⟩
  rw [hR0] at cI
  have hins : ∀ (m0 : List Lw) (rA : Option Addr) (rC : Nat), pl m0 = pl l → pl (m0.set i (putRow m0[i]! rA rC R0)) = insertD (pl l) i k m := fun m0 rA rC h0 => by
    have hi0 : i < m0.length := by rw [← pl_length, h0, pl_length]; exact hi
    have e1 : (m0[i]!).ln = (pl l)[i]! := by rw [← pl_get _ _ hi0, h0]
    rw [pl_set, h0]
    show (pl l).set i (lnWith (m0[i]!).ln R0) = _
    rw [e1]
    refine set_insert (by rw [pl_length]; exact hi) ?_
    rw [hpg]
    exact hR0
  have HK : Hid (∀ V', Below w.heap.size w V' → V'.cell? ⟨b, o + i * 4 + 3, none⟩ = some (.slice ra n2 rc)) := Lib.hid (fun V' hV' => (hV'.cell (lt_of_cell' x3)).trans x3)
  have HD := Lib.hid hins
  have P0 := Lib.hid ((ps_new w (i : Int) (k : Int)).below (below_alloc1 _ (.cells #[.int .i64 0, .int .i64 0] 24)))
  have P1 := Lib.hid (ps_new (w.alloc (.cells #[.int .i64 (i : Int), .int .i64 (k : Int)] 24)) 0 0)
  rw [show (w.alloc (.cells #[.int .i64 (i : Int), .int .i64 (k : Int)] 24)).heap.size = w.heap.size + 1 by simp] at P1
  unfold psV at *
  dsimp only at *
  unfold RowPost at cI
  have hln := hf.len
  have hpll : (pl l).length = l.length := pl_length l
  obtain ⟨n, hn⟩ : ∃ n, l.length = n := ⟨_, rfl⟩
  obtain ⟨ml, hml⟩ : ∃ n, m.length = n := ⟨_, rfl⟩
  obtain ⟨Sz, hSz⟩ : ∃ n, sizeD (pl l) = n := ⟨_, rfl⟩
  rw [hml] at e3
  subst e3
  rw [hml, hSz] at hbig
  rw [hSz] at cS
  rw [hml] at hm ⊢
  rw [hn] at cA cS cO hlc hi hln hpll ⊢
  have hiI : (i : Int) < (n : Int) := by omega
  have w1 : IntKind.i64.wrap ((Sz : Int) + (ml : Int)) = (Sz : Int) + (ml : Int) := IntWalk.i64_in _ (by omega)
  have hI : ¬ (4000 : Int) < (Sz : Int) + (ml : Int) := by omega
  have w2a : IntKind.i64.wrap ((k : Int) + (ml : Int)) = (k : Int) + (ml : Int) := IntWalk.i64_in _ (by omega)
  have hkn2 : Hid (k ≤ 50000) := Lib.hid (by omega)
  have HPL := Lib.hid hpll
  clear h hu hf hfm hmay hmr hx hag hlw hr hz1 hz2 hz3 hpg hins x0 x1 x2 x3 hn hml hSz hR0 hk hln hpll
  go_enter Tryz.func41, Tryz.ntmps41
  go_upto_region 6 with (first
    | (go_at_call 73; ((with_reducible refine (cA _ hX.out).mono ?_); rintro e w2 ⟨rfl, hk⟩; have KW := Lib.hid hk; have hb := Lib.hid (hX.out.trans (hk.mono hX.out.size)); obtain ⟨_, y0, y1, _, _⟩ := P1.out.below hk; obtain ⟨_, x0, x1, _, _⟩ := P0.out.below hk; clear hk))
    | (go_at_call 58; ((with_reducible refine (cM _ hb.out).mono ?_); rintro e w3 ⟨rfl, hk⟩; have hd := Lib.hid (hb.out.trans (hk.mono hb.out.size)); have kd := Lib.hid (KW.out.trans (hk.mono KW.out.size)); clear y0 y1 x0 x1; obtain ⟨_, y0, y1, _, _⟩ := P1.out.below kd.out; obtain ⟨_, x0, x1, _, _⟩ := P0.out.below kd.out; clear hb KW; have hb := hd; have KW := kd; clear hd kd hk))
    | (go_at_call 16; ((with_reducible refine (cS _ hb.out).mono ?_); rintro e w4 ⟨rfl, hk⟩; have hd := Lib.hid (hb.out.trans (hk.mono hb.out.size)); have kd := Lib.hid (KW.out.trans (hk.mono KW.out.size)); clear y0 y1 x0 x1; obtain ⟨_, y0, y1, _, _⟩ := P1.out.below kd.out; obtain ⟨_, x0, x1, _, _⟩ := P0.out.below kd.out; clear hb KW; have hb := hd; have KW := kd; clear hd kd hk))
    | (go_at_call 12; ((with_reducible refine (cO _ hb.out).mono ?_); rintro e w5 ⟨vo, m0, rfl, hown, hpo, hk⟩; have OW := Lib.hid hown; have PO := Lib.hid hpo; obtain ⟨ua, uc, eu⟩ := own_len hown.own; subst eu; have K5 := Lib.hid hk; clear hown hpo hk)))
  have ML : m0.length = n := by rw [← pl_length, PO.out, HPL.out]
  rw [ML] at OW ⊢
  have hmk : i < m0.length := by rw [ML]; exact hi
  obtain ⟨g, hg, hcap1, hcap2, spot⟩ := OW.out.spot hmk
  subst hg
  rw [ML] at hcap1
  unfold maxLen at hcap2
  obtain ⟨hgB, hgw⟩ := ownBlk OW.out.own rfl
  have gc := spot.c
  have gf : w5.frozen? ⟨g, i * 4 + 3, none⟩ = false := by
    have h9 := OW.out.own
    rw [ML] at h9
    exact h9.frozenAt (i * 4 + 3)
  obtain ⟨SC0, hSC0⟩ : ∃ S, (m0[i]!).sc = S := ⟨_, rfl⟩
  rw [hSC0] at gc
  have HML := Lib.hid ML
  have HMK := Lib.hid hmk
  have HG : Hid (∀ V', Below w5.heap.size w5 V' → V'.cell? ⟨g, i * 4 + 3, none⟩ = some SC0 ∧ V'.frozen? ⟨g, i * 4 + 3, none⟩ = false) := Lib.hid (fun V' hV' => ⟨(hV'.cell (p := ⟨g, i * 4 + 3, none⟩) hgw).trans gc, (hV'.frozen (p := ⟨g, i * 4 + 3, none⟩) hgw).trans gf⟩)
  have KS : Hid (∀ w', Below w4.heap.size w4 w' → (w'.cell? ⟨w.heap.size, 0, none⟩ = some (.int .i64 (i : Int)) ∧ w'.cell? ⟨w.heap.size, 1, none⟩ = some (.int .i64 (k : Int)) ∧ w'.cell? ⟨b, o + i * 4 + 3, none⟩ = some (.slice ra n2 rc))) := Lib.hid (fun w' h => by
    obtain ⟨_, x0, x1, _, _⟩ := P0.out.below (KW.out.trans (h.mono KW.out.size))
    exact ⟨x0, x1, HK.out _ (hb.out.trans (h.mono hb.out.size))⟩)
  have h5 := K5.out
  have hv : Hid (Below w4.heap.size w4 w5) := Lib.hid h5
  have hS : (w5.cell? ⟨w.heap.size, 0, none⟩ = some (.int .i64 (i : Int)) ∧ w5.cell? ⟨w.heap.size, 1, none⟩ = some (.int .i64 (k : Int)) ∧ w5.cell? ⟨b, o + i * 4 + 3, none⟩ = some (.slice ra n2 rc)) := KS.out _ h5
  have hbs5 : b < w5.heap.size := Nat.lt_of_lt_of_le hbs (Nat.le_trans hb.out.size h5.size)
  have hs5 := h5.size
  have hwb : Hid (∀ V', Below w4.heap.size w4 V' → Below w.heap.size w V') := Lib.hid (fun V' h => hb.out.trans (h.mono hb.out.size))
  have hc5 : Hid (Below w5.heap.size w5 w5) := Lib.hid (Below.refl _ _)
  clear spot hSC0 hmk ML cA cM cS cO h5 K5 x0 x1 y0 y1 w1 hI HK
  go_region_held3 (fun w' => (w'.cell? ⟨w.heap.size, 0, none⟩ = some (.int .i64 (i : Int)) ∧ w'.cell? ⟨w.heap.size, 1, none⟩ = some (.int .i64 (k : Int)) ∧ w'.cell? ⟨b, o + i * 4 + 3, none⟩ = some (.slice ra n2 rc))) (first | (with_reducible exact hS) | (refine KS.out _ ?_; (repeat (first | (with_reducible exact hv.out) | (with_reducible exact Below.refl _ _) | (with_reducible refine Below.drew ?_) | (with_reducible refine Below.alloc ?_ ?_ _) | (with_reducible refine Below.setCell ?_ ?_ _) | omega | (simp <;> omega))); done)) (first
    | (go_at_call 80; ((with_reducible refine (cI _ (hwb.out _ ?hb)).mono ?_); (case hb => (repeat (first | (with_reducible exact hv.out) | (with_reducible exact Below.refl _ _) | (with_reducible refine Below.drew ?_) | (with_reducible refine Below.alloc ?_ ?_ _) | (with_reducible refine Below.setCell ?_ ?_ _) | omega | (simp <;> omega)))); rintro e w7 ⟨vr, rfl, own, hk⟩; have hcd := Lib.hid ((show Below w5.heap.size w5 _ by (repeat (first | (with_reducible exact hc5.out) | (with_reducible exact Below.refl _ _) | (with_reducible refine Below.drew ?_) | (with_reducible refine Below.alloc ?_ ?_ _) | (with_reducible refine Below.setCell ?_ ?_ _) | omega | (simp <;> omega)))).trans (hk.mono (by first | omega | (simp; done) | (simp; omega)))); have hd := Lib.hid (hv.out.trans (hcd.out.mono hs5)); obtain ⟨rA, rC, hvr⟩ := own_len own; subst hvr; have OWN := Lib.hid (own.mono (show w5.heap.size ≤ _ by first | omega | (simp; done) | (simp; omega))); replace hS := KS.out _ hd.out; clear gc gf; obtain ⟨gc, gf⟩ := HG.out _ hcd.out; clear hv hc5 own hk; have hv := hd; have hc5 := hcd; clear hd hcd)))
  obtain ⟨od, hbd⟩ := OW.out.putRow HML.out hc5.out hs5 HMK.out OWN.out
  have HPL2 := Lib.hid (HD.out m0 rA rC PO.out)
  obtain ⟨WR, hWR⟩ : ∃ W, w7.setCell ⟨g, i * 4 + 3, none⟩ (.slice rA R0.length rC) = W := ⟨_, rfl⟩
  rw [hWR] at od hbd ⊢
  have hkR := hv.out.trans hbd
  have kR := KW.out.trans (hkR.mono KW.out.size)
  have A0 := Lib.hid (P0.out.below kR)
  have A1 := Lib.hid (P1.out.below kR)
  have hbW := Lib.hid (hb.out.trans (hkR.mono hb.out.size))
  have OD := Lib.hid od
  have hw4 : w.heap.size + 1 < w4.heap.size := Nat.lt_of_lt_of_le (by simp) KW.out.size
  have h04 : w.heap.size ≤ w4.heap.size := hb.out.size
  have KS2 : Hid (∀ w', Below WR.heap.size WR w' → (w'.cell? ⟨w.heap.size, 0, none⟩ = some (.int .i64 (i : Int)) ∧ w'.cell? ⟨w.heap.size, 1, none⟩ = some (.int .i64 (k : Int)) ∧ w'.frozen? ⟨w.heap.size + 1, 0, none⟩ = false ∧ w'.frozen? ⟨w.heap.size + 1, 1, none⟩ = false)) := Lib.hid (fun w' h => by
    obtain ⟨_, c0, c1, _, _⟩ := A0.out.below h
    obtain ⟨_, _, _, d2, d3⟩ := A1.out.below h
    exact ⟨c0, c1, d2, d3⟩)
  obtain ⟨_, y0, y1, _, _⟩ := A1.out
  have hS : (WR.cell? ⟨w.heap.size, 0, none⟩ = some (.int .i64 (i : Int)) ∧ WR.cell? ⟨w.heap.size, 1, none⟩ = some (.int .i64 (k : Int)) ∧ WR.frozen? ⟨w.heap.size + 1, 0, none⟩ = false ∧ WR.frozen? ⟨w.heap.size + 1, 1, none⟩ = false) := KS2.out _ (Below.refl _ _)
  clear od hbd hkR kR hWR KS HG gc gf hv hc5 cI KW hb OW
  have hb : Hid (Below WR.heap.size WR WR) := Lib.hid (Below.refl _ _)
  go_upto_region 7 with fail
  go_region_held3 (fun w' => (w'.cell? ⟨w.heap.size, 0, none⟩ = some (.int .i64 (i : Int)) ∧ w'.cell? ⟨w.heap.size, 1, none⟩ = some (.int .i64 (k : Int)) ∧ w'.frozen? ⟨w.heap.size + 1, 0, none⟩ = false ∧ w'.frozen? ⟨w.heap.size + 1, 1, none⟩ = false)) (first | (with_reducible exact hS) | (refine KS2.out _ ?_; (repeat (first | (with_reducible exact hb.out) | (with_reducible exact Below.refl _ _) | (with_reducible refine Below.drew ?_) | (with_reducible refine Below.alloc ?_ ?_ _) | (with_reducible refine Below.setCell ?_ ?_ _) | omega | (simp <;> omega))); done) | (refine ⟨?_, ?_, ?_, ?_⟩ <;> (first | (simp [go_sem, *]; done) | (obtain ⟨_, _, _, _⟩ := hS; simp [go_sem, *]; done)))) (fail)
  all_goals go_wp2_with fail
  all_goals exact bodyPost_ret (v := .tuple #[.slice (some ⟨g, 0, none⟩) n uc, .agg #[.int .i64 (i : Int), .int .i64 ((k : Int) + (ml : Int))], .int .i64 0]) (by simp [results, Tryz.results41, go_sem, *]) rfl ⟨_, m0.set i (putRow m0[i]! rA rC R0), rfl, (((OD.out.below (Below.refl _ _).drew).set (p := ⟨w.heap.size + 1, 0, none⟩) hw4 _).set (p := ⟨w.heap.size + 1, 1, none⟩) hw4 _).mono h04, HPL2.out, (hbW.out.drew.setCell (p := ⟨w.heap.size + 1, 0, none⟩) (Nat.le_succ _) _).setCell (p := ⟨w.heap.size + 1, 1, none⟩) (Nat.le_succ _) _⟩
theorem rdinsert_any (v u : Value) (l : List Lw) (m : Row) (p1 p2 : Int) (w : World) (h : DocAt w v l) (hu : RowAt w u m) (hf : Fine (pl l)) (hm : m.length ≤ 50000) (hfm : Fair m) :
    Calls Tryz.prog 41 #[v, psV (p1, p2), u] w (DocPE (insP (pl l) (p1, p2) m).1 (insP (pl l) (p1, p2) m).2.1 (insP (pl l) (p1, p2) m).2.2 w) := by
  unfold insP
  by_cases hc : (askedD (pl l) (p1, p2) (p1, p2) && mayR m) = true
  · rw [if_pos hc]
    by_cases hb : 4000 < sizeD (pl l) + m.length
    · rw [if_pos hb]
      have := rdinsert_err v u l m p1 p2 w h hu hf hm hfm (.inr hb)
      rw [if_pos hc] at this
      exact this
    · rw [if_neg hb]
      simp only [Bool.and_eq_true] at hc
      obtain ⟨al, aa, bl, ba, hp, hq, hsp, hmay⟩ := askedD_span hc.1
      simp only [Prod.mk.injEq] at hp hq
      obtain ⟨rfl, rfl⟩ := hp
      have e1 : al = bl := by omega
      have e2 : aa = ba := by omega
      subst e1 e2
      exact rdinsert_ok v u l m al aa w h hu hf hm hfm (by have := hsp.hb; rwa [pl_length] at this) hsp.hka hmay hc.2 (by omega)
  · have hc2 : (askedD (pl l) (p1, p2) (p1, p2) && mayR m) = false := by simpa using hc
    rw [if_neg hc]
    have := rdinsert_err v u l m p1 p2 w h hu hf hm hfm (.inl hc2)
    rw [if_neg hc] at this
    exact this


end Go.Proofs.YtafincmcmgedbaaGreatDoor
