/-
  The document's SameAttrs and SameNode: true of what reads alike.
-/
import Derived.Test.YtdegkcibadjogaaDoorCPn
import Derived.Laws.StructEq
import Derived.Deep.QuietTactic
import Derived.BigQuiet
import Derived.Deep.RegionHeld3

namespace Go.Proofs.YtdegkcibadjogaaDoor
open Go.RowKit Go.Lib

theorem neqSame (s t : ByteArray) (w : World) : (binOp .neq 61 (.agg #[.string s, .string t]) (.agg #[.string s, .string t])).run Tryd.prog w = .ok (.bool false) w := by
  have u3 := Tryd.underlying9
  have a3 := Tryd.isAgg9
  have z3 := Tryd.sizeOf9
  have hS : Tryd.prog.underlying 61 = some (.struct (Tryd.prog.fieldsOf 61)) := by kernel_rfl
  have hp : Tryd.prog.stoodInHeld 61 = false := by kernel_rfl
  rw [run_neq_struct, show (10000 : Nat) = 9999 + 1 from rfl, run_equalIn_agg w 9999 61 _ _ hS hp]
  simp only [Program.fieldsOf, Tryd.underlying61]
  go_simp

set_option maxRecDepth 20000 in
set_option maxHeartbeats 4000000 in
theorem sameattrs_true (v1 v2 : Value) (l : Row) (w : World) (h1 : RowAt w v1 l) (h2 : RowAt w v2 l) :
    Calls Tryd.prog 65 #[v1, v2] w fun e w' => e = .returned (.bool true) ∧ Below w.heap.size w w' := by
  have hln : l.length ≤ maxLen := by
    rcases h1 with ⟨_, _, _, _, e⟩ | ⟨_, _, _, _, h3, h4, _⟩
    · rw [e]; exact Nat.zero_le _
    · exact Nat.le_trans h3 h4
  unfold maxLen at hln
  obtain ⟨a1, c1, e1⟩ := h1.len
  obtain ⟨a2, c2, e2⟩ := h2.len
  have H1 := Lib.hid h1
  have H2 := Lib.hid h2
  clear h1 h2
  subst e1 e2
  have hq := neqSame
  obtain ⟨n1, hn1⟩ : ∃ n1, l.length = n1 := ⟨_, rfl⟩
  rw [hn1] at hln ⊢
  have N1 := Lib.hid hn1
  have HB0 := Lib.hid (bdraws w)
  clear hn1
  go_enter Tryd.func65, Tryd.ntmps65
  go_wp2
  go_loopw [5] (fun i wr => ∃ k : Nat, k ≤ n1 ∧ i = .int .i64 k ∧ ∃ z, wr = w.drewN z) (fun i _ => n1 - (RowKit.intOf i).toNat)
  case atStart => exact ⟨0, Nat.zero_le _, rfl, 0, rfl⟩
  case round =>
    obtain ⟨k, hk, rfl, z, rfl⟩ := hrel
    by_cases hlt : k < n1
    · have hkI : (k : Int) < (n1 : Int) := by omega
      have q1 := H1.out
      have q2 := H2.out
      rcases q1 with ⟨_, _, e, _, e2⟩ | ⟨b1, o1, d1, e, _, _, _, hc1⟩
      · have := N1.out; rw [e2] at this; simp at this; omega
      · rcases q2 with ⟨_, _, e', _, e2'⟩ | ⟨b2, o2, d2, e', _, _, _, hc2⟩
        · have := N1.out; rw [e2'] at this; simp at this; omega
        · obtain ⟨rfl, _, rfl⟩ := Value.slice.inj e
          obtain ⟨rfl, _, rfl⟩ := Value.slice.inj e'
          clear e e'
          obtain ⟨x1, x2⟩ := hc1 k (by rw [N1.out]; exact hlt)
          obtain ⟨y1, y2⟩ := hc2 k (by rw [N1.out]; exact hlt)
          obtain ⟨A, hA⟩ : ∃ A, (l[k]!).1 = A := ⟨_, rfl⟩
          obtain ⟨B, hB⟩ : ∃ B, (l[k]!).2 = B := ⟨_, rfl⟩
          rw [hA] at x1 y1
          rw [hB] at x2 y2
          clear hA hB hc1 hc2
          go_wp2_with fail
          go_quiet (fail)
          go_wp2
          go_roundw
          case rel => exact ⟨k + 1, hlt, by go_num, _, rfl⟩
          case measure => simp [RowKit.intOf]; omega
    · have hkn : k = n1 := by omega
      subst hkn
      go_wp2
      go_ret
      exact ⟨rfl, HB0.out z⟩

theorem len_pt {t1 t2 : Pn} (h : t1.pt = t2.pt) : t1.tag = t2.tag ∧ t1.tx = t2.tx ∧ t1.ats = t2.ats ∧ t1.kids.length = t2.kids.length ∧ ∀ (j : Nat) (a b : Pn), t1.kids[j]? = some a → t2.kids[j]? = some b → a.pt = b.pt := by
  rw [pt_eq t1, pt_eq t2] at h
  simp only [Pt.mk.injEq] at h
  obtain ⟨h1, h2, h3, h4⟩ := h
  refine ⟨h1, h2, h3, ?_, fun j a b ha hb => ?_⟩
  · have := congrArg List.length h4
    simpa using this
  · have := congrArg (fun l => l[j]?) h4
    simp only [List.getElem?_map, ha, hb, Option.map_some] at this
    exact Option.some.inj this

set_option maxRecDepth 20000 in
set_option maxHeartbeats 8000000 in
theorem samenode_true : ∀ (n : Nat) (t1 t2 : Pn), sizeP t1 ≤ n → t1.pt = t2.pt → ∀ w : World, PrAt w t1 → PrAt w t2 →
    Calls Tryd.prog 24 #[t1.v, t2.v] w fun e w' => e = .returned (.bool true) ∧ Below w.heap.size w w'
  | 0, t1, t2, hn, _, _, _, _ => by have := sizeP_pos t1; omega
  | n + 1, t1, t2, hn, hpt, w, h1, h2 => by
    obtain ⟨p1row, p1kn, p1k1, p1kr, p1ks⟩ := h1.parts
    obtain ⟨p2row, p2kn, p2k1, p2kr, p2ks⟩ := h2.parts
    obtain ⟨q1, q2, q3, q4, q5⟩ := len_pt hpt
    have hss : ∀ s ∈ t1.kids, sizeP s ≤ n := fun s hs => by
      have := sizePs_mem t1.kids s hs
      have := sizeP_eq t1
      omega
    rw [← q3] at p2row
    rw [← q4, ← p1kn] at p2kn
    have cS := fun (w1 : World) (hb : Below w.heap.size w w1) => sameattrs_true _ _ t1.ats w1 (p1row.below hb) (p2row.below hb)
    obtain ⟨tag, g1⟩ : ∃ z, t1.tag = z := ⟨_, rfl⟩
    obtain ⟨aa, g2⟩ : ∃ z, t1.aa = z := ⟨_, rfl⟩
    obtain ⟨an, g3⟩ : ∃ z, t1.an = z := ⟨_, rfl⟩
    obtain ⟨ac, g4⟩ : ∃ z, t1.ac = z := ⟨_, rfl⟩
    obtain ⟨tx, g5⟩ : ∃ z, t1.tx = z := ⟨_, rfl⟩
    obtain ⟨ka, g6⟩ : ∃ z, t1.ka = z := ⟨_, rfl⟩
    obtain ⟨kn, g7⟩ : ∃ z, t1.kn = z := ⟨_, rfl⟩
    obtain ⟨kc, g8⟩ : ∃ z, t1.kc = z := ⟨_, rfl⟩
    obtain ⟨aa2, f2⟩ : ∃ z, t2.aa = z := ⟨_, rfl⟩
    obtain ⟨an2, f3⟩ : ∃ z, t2.an = z := ⟨_, rfl⟩
    obtain ⟨ac2, f4⟩ : ∃ z, t2.ac = z := ⟨_, rfl⟩
    obtain ⟨ka2, f6⟩ : ∃ z, t2.ka = z := ⟨_, rfl⟩
    obtain ⟨kc2, f8⟩ : ∃ z, t2.kc = z := ⟨_, rfl⟩
    rw [g7] at p2kn p1kn p1k1
    have hv1 : t1.v = .agg #[.int .i64 tag, .slice aa an ac, .string tx, .slice ka kn kc] := by unfold Pn.v; rw [g1, g2, g3, g4, g5, g6, g7, g8]
    have hv2 : t2.v = .agg #[.int .i64 tag, .slice aa2 an2 ac2, .string tx, .slice ka2 kn kc2] := by unfold Pn.v; rw [← q1, ← q2, g1, f2, f3, f4, g5, f6, p2kn, f8]
    rw [hv1, hv2]
    rw [g2, g3, g4, f2, f3, f4] at cS
    rw [g6] at p1kr
    rw [f6] at p2kr
    unfold maxLen at p1k1
    have HK := Lib.hid (And.intro p1kn (And.intro p1kr (And.intro p1ks (And.intro p2kr (And.intro p2ks (And.intro q4 (And.intro q5 hss)))))))
    have ih := samenode_true n
    clear h1 h2 p1row p2row p1kn p1kr p1ks p2kr p2ks p2kn p2k1 q1 q2 q3 q4 q5 hss g1 g2 g3 g4 g5 g6 g7 g8 f2 f3 f4 f6 f8 hv1 hv2 hpt hn
    go_enter Tryd.func24, Tryd.ntmps24
    go_upto_region 1 with (fail)
    obtain ⟨bx, hbx⟩ : ∃ z, w.heap.size = z := ⟨_, rfl⟩
    obtain ⟨W, hW⟩ : ∃ W, (w.alloc (.cells #[.int .i64 tag, .slice aa an ac, .string tx, .slice ka kn kc] 34)).alloc (.cells #[.int .i64 tag, .slice aa2 an2 ac2, .string tx, .slice ka2 kn kc2] 34) = W := ⟨_, rfl⟩
    have hbW : Below w.heap.size w W := by rw [← hW]; exact ((Below.refl _ _).alloc (Nat.le_refl _) _).alloc (by simp) _
    have x0 : W.cell? ⟨bx, 0, none⟩ = some (.int .i64 tag) := by rw [← hW, ← hbx]; simp [go_sem]
    have x1 : W.cell? ⟨bx, 1, none⟩ = some (.slice aa an ac) := by rw [← hW, ← hbx]; simp [go_sem]
    have x2 : W.cell? ⟨bx, 2, none⟩ = some (.string tx) := by rw [← hW, ← hbx]; simp [go_sem]
    have x3 : W.cell? ⟨bx, 3, none⟩ = some (.slice ka kn kc) := by rw [← hW, ← hbx]; simp [go_sem]
    have y0 : W.cell? ⟨bx + 1, 0, none⟩ = some (.int .i64 tag) := by rw [← hW, ← hbx]; simp [go_sem]
    have y1 : W.cell? ⟨bx + 1, 1, none⟩ = some (.slice aa2 an2 ac2) := by rw [← hW, ← hbx]; simp [go_sem]
    have y2 : W.cell? ⟨bx + 1, 2, none⟩ = some (.string tx) := by rw [← hW, ← hbx]; simp [go_sem]
    have y3 : W.cell? ⟨bx + 1, 3, none⟩ = some (.slice ka2 kn kc2) := by rw [← hW, ← hbx]; simp [go_sem]
    have KX : Hid (∀ W', Below W.heap.size W W' → W'.cell? ⟨bx, 3, none⟩ = some (.slice ka kn kc) ∧ W'.cell? ⟨bx + 1, 3, none⟩ = some (.slice ka2 kn kc2)) := Lib.hid (fun W' h => ⟨(h.cell (p := ⟨bx, 3, none⟩) (lt_of_cell' x3)).trans x3, (h.cell (p := ⟨bx + 1, 3, none⟩) (lt_of_cell' y3)).trans y3⟩)
    have HW := Lib.hid hbW
    (try simp only [hbx])
    rw [hW]
    clear hW hbW
    go_upto_region 3 with (go_at_call 65; ((with_reducible refine (cS _ HW.out).mono ?_); rintro e w1 ⟨rfl, hb1⟩; clear x0 x1 x2 x3 y0 y1 y2 y3; obtain ⟨x3, y3⟩ := KX.out _ hb1; have HB1 := Lib.hid hb1; clear hb1))
    go_wp2
    clear x3 y3
    go_loopw [5] (fun i wr => ∃ (k : Nat), k ≤ kn ∧ i = .int .i64 k ∧ Hid (Below W.heap.size W wr)) (fun i _ => kn - (RowKit.intOf i).toNat)
    case atStart => exact ⟨0, Nat.zero_le _, rfl, HB1⟩
    case round =>
      obtain ⟨k, hk, rfl, HB⟩ := hrel
      obtain ⟨x3, y3⟩ := KX.out _ HB.out
      by_cases hlt : k < kn
      · have hkI : (k : Int) < (kn : Int) := by omega
        obtain ⟨p1kn, p1kr, p1ks, p2kr, p2ks, q4, q5, hss⟩ := HK.out
        have hkl : k < t1.kids.length := by rw [← p1kn]; exact hlt
        have hkl2 : k < t2.kids.length := by rw [← q4]; exact hkl
        have hg1 : t1.kids[k]? = some t1.kids[k] := List.getElem?_eq_getElem hkl
        have hg2 : t2.kids[k]? = some t2.kids[k] := List.getElem?_eq_getElem hkl2
        have hm1 : t1.kids[k] ∈ t1.kids := List.getElem_mem hkl
        have hm2 : t2.kids[k] ∈ t2.kids := List.getElem_mem hkl2
        obtain ⟨s1, hs1⟩ : ∃ s, t1.kids[k] = s := ⟨_, rfl⟩
        obtain ⟨s2, hs2⟩ : ∃ s, t2.kids[k] = s := ⟨_, rfl⟩
        rw [hs1] at hg1 hm1
        rw [hs2] at hg2 hm2
        have hbr : Below w.heap.size w wr := HW.out.trans (HB.out.mono HW.out.size)
        obtain ⟨b, o, eka, hbl, hcells⟩ : ∃ b o, ka = some ⟨b, o, none⟩ ∧ b < w.heap.size ∧ ∀ (j : Nat) (t_1 : Pn), t1.kids[j]? = some t_1 → w.cell? ⟨b, o + j * 4, none⟩ = some (.int .i64 t_1.tag) ∧ w.cell? ⟨b, o + j * 4 + 1, none⟩ = some (.slice t_1.aa t_1.an t_1.ac) ∧ w.cell? ⟨b, o + j * 4 + 2, none⟩ = some (.string t_1.tx) ∧ w.cell? ⟨b, o + j * 4 + 3, none⟩ = some (.slice t_1.ka t_1.kn t_1.kc) := by
          rcases p1kr with h0 | h0
          · rw [h0] at hkl; simp at hkl
          · exact h0
        obtain ⟨b2, o2, eka2, hbl2, hcells2⟩ : ∃ b o, ka2 = some ⟨b, o, none⟩ ∧ b < w.heap.size ∧ ∀ (j : Nat) (t_1 : Pn), t2.kids[j]? = some t_1 → w.cell? ⟨b, o + j * 4, none⟩ = some (.int .i64 t_1.tag) ∧ w.cell? ⟨b, o + j * 4 + 1, none⟩ = some (.slice t_1.aa t_1.an t_1.ac) ∧ w.cell? ⟨b, o + j * 4 + 2, none⟩ = some (.string t_1.tx) ∧ w.cell? ⟨b, o + j * 4 + 3, none⟩ = some (.slice t_1.ka t_1.kn t_1.kc) := by
          rcases p2kr with h0 | h0
          · rw [h0] at hkl2; simp at hkl2
          · exact h0
        subst eka eka2
        obtain ⟨u0, u1, u2, u3⟩ := hcells k s1 hg1
        obtain ⟨v0, v1, v2, v3⟩ := hcells2 k s2 hg2
        have hwr : w.heap.size ≤ wr.heap.size := hbr.size
        replace u0 := (hbr.cell (p := ⟨b, o + k * 4, none⟩) hbl).trans u0
        replace u1 := (hbr.cell (p := ⟨b, o + k * 4 + 1, none⟩) hbl).trans u1
        replace u2 := (hbr.cell (p := ⟨b, o + k * 4 + 2, none⟩) hbl).trans u2
        replace u3 := (hbr.cell (p := ⟨b, o + k * 4 + 3, none⟩) hbl).trans u3
        replace v0 := (hbr.cell (p := ⟨b2, o2 + k * 4, none⟩) hbl2).trans v0
        replace v1 := (hbr.cell (p := ⟨b2, o2 + k * 4 + 1, none⟩) hbl2).trans v1
        replace v2 := (hbr.cell (p := ⟨b2, o2 + k * 4 + 2, none⟩) hbl2).trans v2
        replace v3 := (hbr.cell (p := ⟨b2, o2 + k * 4 + 3, none⟩) hbl2).trans v3
        have cO : ∀ w1 : World, Below wr.heap.size wr w1 → Calls Tryd.prog 24 #[.agg #[.int .i64 s1.tag, .slice s1.aa s1.an s1.ac, .string s1.tx, .slice s1.ka s1.kn s1.kc], .agg #[.int .i64 s2.tag, .slice s2.aa s2.an s2.ac, .string s2.tx, .slice s2.ka s2.kn s2.kc]] w1 fun e w' => e = .returned (.bool true) ∧ Below w1.heap.size w1 w' := fun w1 hb1 =>
          ih s1 s2 (hss s1 hm1) (q5 k s1 s2 hg1 hg2) w1 ((p1ks s1 hm1).stay (hbr.trans (hb1.mono hwr))) ((p2ks s2 hm2).stay (hbr.trans (hb1.mono hwr)))
        have hP : (wr.cell? ⟨bx, 3, none⟩ = some (.slice (some ⟨b, o, none⟩) kn kc) ∧ wr.cell? ⟨bx + 1, 3, none⟩ = some (.slice (some ⟨b2, o2, none⟩) kn kc2) ∧ wr.cell? ⟨b, o + k * 4, none⟩ = some (.int .i64 s1.tag) ∧ wr.cell? ⟨b, o + k * 4 + 1, none⟩ = some (.slice s1.aa s1.an s1.ac) ∧ wr.cell? ⟨b, o + k * 4 + 2, none⟩ = some (.string s1.tx) ∧ wr.cell? ⟨b, o + k * 4 + 3, none⟩ = some (.slice s1.ka s1.kn s1.kc) ∧
          wr.cell? ⟨b2, o2 + k * 4, none⟩ = some (.int .i64 s2.tag) ∧ wr.cell? ⟨b2, o2 + k * 4 + 1, none⟩ = some (.slice s2.aa s2.an s2.ac) ∧ wr.cell? ⟨b2, o2 + k * 4 + 2, none⟩ = some (.string s2.tx) ∧ wr.cell? ⟨b2, o2 + k * 4 + 3, none⟩ = some (.slice s2.ka s2.kn s2.kc)) := ⟨x3, y3, u0, u1, u2, u3, v0, v1, v2, v3⟩
        clear hcells hcells2 hg1 hg2 hm1 hm2 hs1 hs2 hkl hkl2 p1kn p1kr p1ks p2kr p2ks q4 q5 hss hbr ih hbl hbl2
        have KS : Hid (∀ W', Below wr.heap.size wr W' → (W'.cell? ⟨bx, 3, none⟩ = some (.slice (some ⟨b, o, none⟩) kn kc) ∧ W'.cell? ⟨bx + 1, 3, none⟩ = some (.slice (some ⟨b2, o2, none⟩) kn kc2) ∧ W'.cell? ⟨b, o + k * 4, none⟩ = some (.int .i64 s1.tag) ∧ W'.cell? ⟨b, o + k * 4 + 1, none⟩ = some (.slice s1.aa s1.an s1.ac) ∧ W'.cell? ⟨b, o + k * 4 + 2, none⟩ = some (.string s1.tx) ∧ W'.cell? ⟨b, o + k * 4 + 3, none⟩ = some (.slice s1.ka s1.kn s1.kc) ∧ W'.cell? ⟨b2, o2 + k * 4, none⟩ = some (.int .i64 s2.tag) ∧ W'.cell? ⟨b2, o2 + k * 4 + 1, none⟩ = some (.slice s2.aa s2.an s2.ac) ∧ W'.cell? ⟨b2, o2 + k * 4 + 2, none⟩ = some (.string s2.tx) ∧ W'.cell? ⟨b2, o2 + k * 4 + 3, none⟩ = some (.slice s2.ka s2.kn s2.kc))) := Lib.hid (fun W' h => ⟨(h.cell (lt_of_cell' x3)).trans x3, (h.cell (lt_of_cell' y3)).trans y3, (h.cell (lt_of_cell' u0)).trans u0, (h.cell (lt_of_cell' u1)).trans u1, (h.cell (lt_of_cell' u2)).trans u2, (h.cell (lt_of_cell' u3)).trans u3, (h.cell (lt_of_cell' v0)).trans v0, (h.cell (lt_of_cell' v1)).trans v1, (h.cell (lt_of_cell' v2)).trans v2, (h.cell (lt_of_cell' v3)).trans v3⟩)
        have hS : (wr.cell? ⟨bx, 3, none⟩ = some (.slice (some ⟨b, o, none⟩) kn kc) ∧ wr.cell? ⟨bx + 1, 3, none⟩ = some (.slice (some ⟨b2, o2, none⟩) kn kc2) ∧ wr.cell? ⟨b, o + k * 4, none⟩ = some (.int .i64 s1.tag) ∧ wr.cell? ⟨b, o + k * 4 + 1, none⟩ = some (.slice s1.aa s1.an s1.ac) ∧ wr.cell? ⟨b, o + k * 4 + 2, none⟩ = some (.string s1.tx) ∧ wr.cell? ⟨b, o + k * 4 + 3, none⟩ = some (.slice s1.ka s1.kn s1.kc) ∧ wr.cell? ⟨b2, o2 + k * 4, none⟩ = some (.int .i64 s2.tag) ∧ wr.cell? ⟨b2, o2 + k * 4 + 1, none⟩ = some (.slice s2.aa s2.an s2.ac) ∧ wr.cell? ⟨b2, o2 + k * 4 + 2, none⟩ = some (.string s2.tx) ∧ wr.cell? ⟨b2, o2 + k * 4 + 3, none⟩ = some (.slice s2.ka s2.kn s2.kc)) := hP
        have hb : Hid (Below wr.heap.size wr wr) := Lib.hid (Below.refl _ _)
        have hsz := HB.out.size
        go_upto_region 6 with (fail)
        clear x3 y3 u0 u1 u2 u3 v0 v1 v2 v3 hP
        go_region_held3 (fun W' => (W'.cell? ⟨bx, 3, none⟩ = some (.slice (some ⟨b, o, none⟩) kn kc) ∧ W'.cell? ⟨bx + 1, 3, none⟩ = some (.slice (some ⟨b2, o2, none⟩) kn kc2) ∧ W'.cell? ⟨b, o + k * 4, none⟩ = some (.int .i64 s1.tag) ∧ W'.cell? ⟨b, o + k * 4 + 1, none⟩ = some (.slice s1.aa s1.an s1.ac) ∧ W'.cell? ⟨b, o + k * 4 + 2, none⟩ = some (.string s1.tx) ∧ W'.cell? ⟨b, o + k * 4 + 3, none⟩ = some (.slice s1.ka s1.kn s1.kc) ∧ W'.cell? ⟨b2, o2 + k * 4, none⟩ = some (.int .i64 s2.tag) ∧ W'.cell? ⟨b2, o2 + k * 4 + 1, none⟩ = some (.slice s2.aa s2.an s2.ac) ∧ W'.cell? ⟨b2, o2 + k * 4 + 2, none⟩ = some (.string s2.tx) ∧ W'.cell? ⟨b2, o2 + k * 4 + 3, none⟩ = some (.slice s2.ka s2.kn s2.kc))) (first | (with_reducible exact hS) | (refine KS.out _ ?_; (repeat (first | (with_reducible exact hb.out) | (with_reducible exact Below.refl _ _) | (with_reducible refine Below.drew ?_) | (with_reducible refine Below.alloc ?_ ?_ _) | omega | (simp <;> omega))); done)) (first
          | (go_at_call 24; ((with_reducible refine (cO _ (show Below wr.heap.size wr _ by (repeat (first | (with_reducible exact hb.out) | (with_reducible exact Below.refl _ _) | (with_reducible refine Below.drew ?_) | (with_reducible refine Below.alloc ?_ ?_ _) | omega | (simp <;> omega))))).mono ?_); rintro e w5 ⟨rfl, b5⟩; have hd2 := Lib.hid ((show Below wr.heap.size wr _ by (repeat (first | (with_reducible exact hb.out) | (with_reducible exact Below.refl _ _) | (with_reducible refine Below.drew ?_) | (with_reducible refine Below.alloc ?_ ?_ _) | omega | (simp <;> omega)))).trans (b5.mono (by first | exact hb.out.size | (simp; exact hb.out.size) | (simp; omega)))); clear hb b5; have hb := hd2; clear hd2; replace hS := KS.out _ hb.out)))
        all_goals go_wp2
        all_goals go_roundw
        case rel => exact ⟨k + 1, hlt, by go_num, Lib.hid (HB.out.trans (hb.out.mono hsz))⟩
        case measure => simp [RowKit.intOf]; omega
      · have hkn : k = kn := by omega
        subst hkn
        have HF := Lib.hid (HW.out.trans (HB.out.mono HW.out.size))
        clear ih
        go_wp2
        go_ret
        exact ⟨rfl, HF.out⟩

end Go.Proofs.YtdegkcibadjogaaDoor
