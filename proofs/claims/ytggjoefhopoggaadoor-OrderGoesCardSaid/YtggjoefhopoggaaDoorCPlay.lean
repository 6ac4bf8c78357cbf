/-
  Played.
-/
import Derived.Test.YtggjoefhopoggaaDoorCGraft
import Derived.Test.YtggjoefhopoggaaDoorCKeepC
import Derived.Test.YtggjoefhopoggaaDoorCDrop

namespace Go.Proofs.YtggjoefhopoggaaDoor
open Go.RowKit Go.Lib

theorem heavyL_no : ∀ (l : List Cl) (left : Int), left ≤ 4000 → heavyL l left = false → 0 ≤ left ∧ ∀ x ∈ l, x.s.size ≤ 20000 ∧ x.an ≤ 200 ∧ slimP x.n = true ∧ sizeP x.n ≤ 4000
  | [], left, h1, h => ⟨by simpa [heavyL] using h, fun x hx => by cases hx⟩
  | x :: r, left, h1, h => by
    rw [heavyL] at h
    by_cases h2 : left < 0
    · rw [if_pos h2] at h; cases h
    · rw [if_neg h2] at h
      by_cases h3 : 20000 < x.s.size ∨ 200 < x.an
      · rw [if_pos h3] at h; cases h
      · rw [if_neg h3] at h
        have h7 : x.s.size ≤ 20000 ∧ x.an ≤ 200 := by omega
        have hb := weighP_bd x.n (left - (x.an : Int) - ((x.s.size / 64 : Nat) : Int)) (by omega) (by omega)
        obtain ⟨h4, h5⟩ := heavyL_no r _ hb.2 h
        have h6 := weighP_slim x.n _ h4
        refine ⟨by omega, fun y hy => ?_⟩
        rcases List.mem_cons.1 hy with rfl | hy
        · exact ⟨h7.1, h7.2, h6.1, by omega⟩
        · exact h5 y hy
theorem heavy_no {l : List Cl} (h : heavyP l = false) : l.length ≤ 200 ∧ ∀ x ∈ l, x.s.size ≤ 20000 ∧ x.an ≤ 200 ∧ slimP x.n = true ∧ sizeP x.n ≤ 4000 := by
  unfold heavyP at h
  by_cases h1 : 200 < l.length
  · rw [if_pos h1] at h; cases h
  · rw [if_neg h1] at h
    exact ⟨by omega, (heavyL_no l 4000 (by omega) h).2⟩

theorem new_ok (w : World) (c d : Int) (hc0 : 1 ≤ c) (hc : c ≤ 2000) (hd0 : 0 ≤ d) (hd : d ≤ 40) :
    Calls Tryd.prog 45 #[.int .i64 c, .int .i64 d] w fun e w' => ∃ p, e = .returned (.tuple #[.pointer (some ⟨p, 0, none⟩), .int .i64 0]) ∧ Below w.heap.size w w' ∧ Tr w.heap.size w' p d c.toNat := by
  obtain ⟨n, rfl⟩ : ∃ n : Nat, c = (n : Int) := ⟨c.toNat, by omega⟩
  refine (new_any w n d (by omega) (by omega) hd0 hd).mono ?_
  rintro e w' ⟨rfl, h1, h2, h3⟩
  exact ⟨_, rfl, h2, _, _, full_new h3 h1, inv_new d hd0 n _ (by omega), by simp⟩
set_option maxRecDepth 20000 in
theorem new_bad (w : World) (c d : Int) (h : ¬ (1 ≤ c ∧ c ≤ 2000 ∧ 0 ≤ d ∧ d ≤ 40)) :
    Calls Tryd.prog 45 #[.int .i64 c, .int .i64 d] w fun e w' => e = .returned (.tuple #[.pointer none, .int .i64 1]) ∧ w = w' := by
  by_cases h1 : c < 1
  · have e1 : decide (c < 1) = true := decide_eq_true h1
    clear h
    go_enter Tryd.func45, Tryd.ntmps45
    go_wp2
    go_ret2
    exact ⟨rfl, rfl⟩
  · have e1 : decide (c < 1) = false := decide_eq_false h1
    by_cases h2 : 2000 < c
    · have e2 : decide (2000 < c) = true := decide_eq_true h2
      clear h
      go_enter Tryd.func45, Tryd.ntmps45
      go_wp2
      go_ret2
      exact ⟨rfl, rfl⟩
    · have e2 : decide (2000 < c) = false := decide_eq_false h2
      by_cases h3 : d < 0
      · have e3 : decide (d < 0) = true := decide_eq_true h3
        clear h
        go_enter Tryd.func45, Tryd.ntmps45
        go_wp2
        go_ret2
        exact ⟨rfl, rfl⟩
      · have e3 : decide (d < 0) = false := decide_eq_false h3
        have h4 : 40 < d := by omega
        have e4 : decide (40 < d) = true := decide_eq_true h4
        clear h
        go_enter Tryd.func45, Tryd.ntmps45
        go_wp2
        go_ret2
        exact ⟨rfl, rfl⟩

/-- A tree of one's own stands, and what was there stands. -/
def StP (B : Nat) (w : World) (d : Int) (cc p : Nat) (wr : World) : Prop := Below B w wr ∧ Tr B wr p d cc
theorem st_of {B : Nat} {w wr W w' : World} {p nb cc : Nat} {d : Int} {l : List (Option Nd)} {e : Ending} (hb : Below B w wr) (hF : Full B wr p nb d l) (hl : l.length = cc) (hbW : Below wr.heap.size wr W) (h : Kept B W p d l.length e w') : (∃ v, e = .returned v) ∧ Hid (StP B w d cc p w') := by
  obtain ⟨h1, h2, h3⟩ := h
  refine ⟨h1, Lib.hid ⟨(hb.trans (hbW.mono ?_)).trans h2, by rw [← hl]; exact h3⟩⟩
  have := hF.bn; have := hF.ln; omega

section
variable (B : Nat) (w : World) (d : Int) (hd0 : 0 ≤ d) (hd : d ≤ 40) (cc p : Nat) (hB : w.heap.size = B) (wr W : World) (hS : StP B w d cc p wr) (hbW : Below wr.heap.size wr W) (hT : OwnT w)
include hS hbW
theorem st_text (hd0 : 0 ≤ d) (s : ByteArray) : Calls Tryd.prog 54 #[.pointer (some ⟨p, 0, none⟩), .string s] W fun e w' => (∃ v, e = .returned v) ∧ Hid (StP B w d cc p w') := by
  obtain ⟨hb, nb, l, hF, hI, hl⟩ := hS
  exact (text_keep B W p nb d l (hF.below hbW) hI hd0 s).mono (fun _ _ h => st_of hb hF hl hbW h)
theorem st_insert (hd : d ≤ 40) (a b c : Int) : Calls Tryd.prog 55 #[.pointer (some ⟨p, 0, none⟩), .int .i64 a, .int .i64 b, .int .i64 c] W fun e w' => (∃ v, e = .returned v) ∧ Hid (StP B w d cc p w') := by
  obtain ⟨hb, nb, l, hF, hI, hl⟩ := hS
  exact (insert_keep B W p nb d l (hF.below hbW) hI hd a b c).mono (fun _ _ h => st_of hb hF hl hbW h)
theorem st_remove (a : Int) : Calls Tryd.prog 56 #[.pointer (some ⟨p, 0, none⟩), .int .i64 a] W fun e w' => (∃ v, e = .returned v) ∧ Hid (StP B w d cc p w') := by
  obtain ⟨hb, nb, l, hF, hI, hl⟩ := hS
  exact (remove_keep B W p nb d l (hF.below hbW) hI a).mono (fun _ _ h => st_of hb hF hl hbW h)
theorem st_drop (hd : d ≤ 40) (a : Int) : Calls Tryd.prog 57 #[.pointer (some ⟨p, 0, none⟩), .int .i64 a] W fun e w' => (∃ v, e = .returned v) ∧ Hid (StP B w d cc p w') := by
  obtain ⟨hb, nb, l, hF, hI, hl⟩ := hS
  exact (drop_keep B W p nb d l (hF.below hbW) hI hd a).mono (fun _ _ h => st_of hb hF hl hbW h)
theorem st_element (hd0 : 0 ≤ d) (hT : OwnT W) (a : Int) (v : Value) (ats : Row) (hv : RowAt W v ats) (hl2 : ats.length ≤ 10000) (hs : SizedR ats) : Calls Tryd.prog 62 #[.pointer (some ⟨p, 0, none⟩), .int .i64 a, v] W fun e w' => (∃ v, e = .returned v) ∧ Hid (StP B w d cc p w') := by
  obtain ⟨hb, nb, l, hF, hI, hl⟩ := hS
  exact (element_keep B W p nb d l (hF.below hbW) hI hd0 a hT v ats hv hl2 hs).mono (fun _ _ h => st_of hb hF hl hbW h)
theorem st_graft (hd0 : 0 ≤ d) (hd : d ≤ 40) (hB : w.heap.size = B) (hT : OwnT W) (t : Pn) (hPt : PlAt w t) (hsl : slimP t = true) (hn : sizeP t ≤ 50000) (a b : Int) : Calls Tryd.prog 46 #[.pointer (some ⟨p, 0, none⟩), .int .i64 a, .int .i64 b, t.v] W fun e w' => (∃ v, e = .returned v) ∧ Hid (StP B w d cc p w') := by
  obtain ⟨hb, nb, l, hF, hI, hl⟩ := hS
  have hbw : Below B w W := hb.trans (hbW.mono (by have := hF.bn; have := hF.ln; omega))
  exact (graft_keep B W p nb d l (hF.below hbW) hI hd0 hd hT w hB hbw t hPt hsl hn a b).mono (fun _ _ h => st_of hb hF hl hbW h)
theorem st_copy (_hB : w.heap.size = B) : Calls Tryd.prog 61 #[.pointer (some ⟨p, 0, none⟩)] W fun e w' => ∃ p', e = .returned (.pointer (some ⟨p', 0, none⟩)) ∧ Hid (StP B w d cc p' w') := by
  obtain ⟨hb, nb, l, hF, hI, hl⟩ := hS
  have hle : B ≤ W.heap.size := by have := hF.bn; have := hF.ln; have := hbW.size; omega
  have hle2 : B ≤ wr.heap.size := by have := hF.bn; have := hF.ln; omega
  refine (copy_any B W p nb d l (hF.below hbW) (fun i x hi => by have := hI.ats i x hi; omega)).mono ?_
  rintro e w' ⟨p', rfl, h1, nb', l', h2, h3⟩
  exact ⟨p', rfl, Lib.hid ⟨(hb.trans (hbW.mono hle2)).trans (h1.mono hle), nb', l', h2.mono hle, hI.like h3, by rw [h3.len]; exact hl⟩⟩
theorem st_set (hT : OwnT w) (hB : w.heap.size = B) (q : Nat) (hq0 : wr.heap.size ≤ q) (hq : q < W.heap.size) (a b : Int) (s : ByteArray) (v : Value) (ats : Row) (hv : RowAt W v ats) (hl2 : ats.length ≤ 10000) (hs : SizedR ats) : Calls Tryd.prog 58 #[.pointer (some ⟨p, 0, none⟩), .int .i64 a, v] W fun e w1 => (∃ v, e = .returned v) ∧ w1.heap[q]? = W.heap[q]? ∧
    Calls Tryd.prog 59 #[.pointer (some ⟨p, 0, none⟩), .int .i64 a, .string s] w1 fun e w2 => (∃ v, e = .returned v) ∧ w2.heap[q]? = w1.heap[q]? ∧
    Calls Tryd.prog 60 #[.pointer (some ⟨p, 0, none⟩), .int .i64 a, .int .i64 b] w2 fun e w3 => (∃ v, e = .returned v) ∧ Hid (StP B w d cc p w3) := by
  obtain ⟨hb, nb, l, hF, hI, hl⟩ := hS
  have hle2 : B ≤ wr.heap.size := by have := hF.bn; have := hF.ln; omega
  have hbw := hb.trans (hbW.mono hle2)
  refine (setattrs_keep2 B W p nb d l (hF.below hbW) hI a v ats hv hl2 hs).mono ?_
  rintro e w1 ⟨h1, h2, nb1, l1, h3, h4, h5, h6, h7⟩
  have hab : ∀ (j : Nat) (y : Nd), l[j]? = some (some y) → y.ab ≠ q := fun j y hj e => by
    have := lt_of_cell' (hF.t.yes j y hj).2.c0
    simp only at this
    omega
  refine ⟨h1, h7 q hq hab, (settext_keep2 B w1 p nb1 d l1 h3 h4 a s).mono ?_⟩
  rintro e w2 ⟨k1, k2, nb2, l2, k3, k4, k5, k6, k7⟩
  have hq1 : q < w1.heap.size := by
    have := h7 q hq hab
    rcases Nat.lt_or_ge q w1.heap.size with h | h
    · exact h
    · rw [Array.getElem?_eq_none h] at this
      rw [Array.getElem?_eq_getElem hq] at this
      cases this
  refine ⟨k1, k7 q hq1 (fun j y hj => by obtain ⟨m, x, hx, e⟩ := h6 j y hj; rw [e]; exact hab m x hx), ?_⟩
  have hb2 := (hbw.trans h2).trans k2
  refine (settag_keep B w2 p nb2 d l2 k3 k4 a b (hT.below (by rw [hB]; exact hb2))).mono ?_
  rintro e w3 ⟨m1, m2, m3⟩
  exact ⟨m1, Lib.hid ⟨hb2.trans m2, by rw [← hl, ← h5, ← k5]; exact m3⟩⟩
end

end Go.Proofs.YtggjoefhopoggaaDoor
