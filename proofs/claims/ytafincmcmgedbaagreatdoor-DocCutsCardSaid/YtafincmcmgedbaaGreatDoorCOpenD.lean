/-
  What an argument that is a document, or a place, gives.
  What an argument that is a place gives.
-/
import Derived.Test.YtafincmcmgedbaaGreatDoorCOpenL
import Derived.Test.YtafincmcmgedbaaGreatDoorCDocD

namespace Go.Proofs.YtafincmcmgedbaaGreatDoor
open Go.Joins Go.ChangeShapes Go.WideShapes Go.ChangeAt Go.RowKit Go.Lib Go.Deep

theorem readsDocs : Tryz.prog.readableRec 22 = true := by kernel_rfl
theorem rowDocs : 22 < Tryz.prog.types.size := of_decide_eq_true (by kernel_rfl)
theorem wf_lo {n : Int} (h : (Lit.int .i64 n).wf = true) : -(2 ^ 63) ≤ n := by
  simp only [Lit.wf, Bool.and_eq_true, decide_eq_true_eq] at h
  exact Int.le_trans (by decide) h.1
theorem wf_hi {n : Int} (h : (Lit.int .i64 n).wf = true) : n ≤ 2 ^ 63 - 1 := by
  simp only [Lit.wf, Bool.and_eq_true, decide_eq_true_eq] at h
  exact Int.le_trans h.2 (by decide)
theorem slice_len {H : Type} {enc : TypeId × Value → H} {W : World} {sp : Nat → Bool} {held : Bool} {v : Value} {y : DataW H × List MemPlace} {fuel : Nat} {t e : TypeId} (ht : Tryz.prog.underlying t = some (.slice e)) (hb : 1 ≤ Tryz.prog.bytesOf e)
    (hf : DataW.trod enc Tryz.prog W 0 sp held fuel t [v] = some y) (hw : ∀ q ∈ y.1.weights Tryz.prog t, q ≤ reachBytes) {a : Option Addr} {n c : Nat} (hv : v = .slice a n c) : n ≤ reachBytes := by
  subst hv
  rcases open_slice ht hf with ⟨hcs, _⟩ | ⟨a', len, cap, m, k, D, Pl, hcs, _, hl, hm, hmm, hx, _⟩
  · have e := (List.cons.inj hcs).1
    cases e
    exact Nat.zero_le _
  · have e := (List.cons.inj hcs).1
    cases e
    rw [hx] at hw
    have h1 := hw ((((List.range n).map D).length + ((List.range (m - n)).map fun j => D (n + j)).length) * Tryz.prog.bytesOf e) (by simp [DataW.weights, ht])
    rw [List.length_map, List.length_map, List.length_range, List.length_range] at h1
    have h2 : n * 1 ≤ (n + (m - n)) * Tryz.prog.bytesOf e := Nat.mul_le_mul (by omega) hb
    omega
theorem weights_all {H : Type} {P : Program} {e : TypeId} : ∀ (es : List (DataW H)) (x : DataW H), x ∈ es → ∀ q ∈ x.weights P e, q ∈ DataW.weightsAll P e es
  | [], _, h, _, _ => by cases h
  | y :: es, x, h, q, hq => by
    simp only [DataW.weightsAll, List.mem_append]
    rcases List.mem_cons.1 h with rfl | h
    · exact .inl hq
    · exact .inr (weights_all es x h q hq)

set_option maxRecDepth 20000 in
theorem lw_of_trod {H : Type} {enc : TypeId × Value → H} {W : World} {sp : Nat → Bool} {held : Bool} {cs : List Value} {x : DataW H × List MemPlace} {fuel : Nat} (hcl : cs.length = 4) (h : DataW.trod enc Tryz.prog W 0 sp held fuel 46 cs = some x)
    (hw : ∀ q ∈ x.1.weights Tryz.prog 46, q ≤ reachBytes) :
    ∃ y : Lw, cs = [.int .i64 y.ln.q, y.sl, .int .i64 y.ln.k, y.sc] ∧ LwAt W y ∧ y.ln.ls.length ≤ 140737488355328 ∧ y.ln.cs.length ≤ 140737488355328 ∧ Sized y.ln.cs := by
  obtain ⟨xs, n', _, hy, _, hxl, hfl⟩ := DataW.trod_struct Tryz.underlying46 h
  have hI : Tryz.prog.cellsOf 3 = 1 := by kernel_rfl
  have hJ : Tryz.prog.cellsOf 44 = 1 := by kernel_rfl
  have hC : Tryz.prog.cellsOf 43 = 1 := by kernel_rfl
  match cs, hcl with
  | [u0, u1, u2, u3], _ =>
    match xs, hxl with
    | [y0, y1, y2, y3], _ =>
      have f0 : DataW.trod enc Tryz.prog W 0 sp held n' 3 (([u0, u1, u2, u3].drop 0).take (Tryz.prog.cellsOf 3)) = some y0 := hfl 0 _ rfl
      have f1 : DataW.trod enc Tryz.prog W 0 sp held n' 44 (([u0, u1, u2, u3].drop 1).take (Tryz.prog.cellsOf 44)) = some y1 := hfl 1 _ rfl
      have f2 : DataW.trod enc Tryz.prog W 0 sp held n' 3 (([u0, u1, u2, u3].drop 2).take (Tryz.prog.cellsOf 3)) = some y2 := hfl 2 _ rfl
      have f3 : DataW.trod enc Tryz.prog W 0 sp held n' 43 (([u0, u1, u2, u3].drop 3).take (Tryz.prog.cellsOf 43)) = some y3 := hfl 3 _ rfl
      rw [hI] at f0 f2
      rw [hJ] at f1
      rw [hC] at f3
      have f1' : DataW.trod enc Tryz.prog W 0 sp held n' 44 [u1] = some y1 := f1
      have f3' : DataW.trod enc Tryz.prog W 0 sp held n' 43 [u3] = some y3 := f3
      obtain ⟨q, hq1, _, _⟩ := DataW.trod_int Tryz.underlying3 f0
      obtain ⟨k, hk1, _, _⟩ := DataW.trod_int Tryz.underlying3 f2
      have e0 : u0 = .int .i64 q := by simpa using hq1
      have e2 : u2 = .int .i64 k := by simpa using hk1
      have hwe : ∀ z ∈ DataW.weightsEach Tryz.prog [3, 44, 3, 43] [y0.1, y1.1, y2.1, y3.1], z ≤ reachBytes := fun z hz => by
        refine hw z ?_
        rw [hy]
        simp only [DataW.weights, Tryz.underlying46]
        exact hz
      have hw2 : (DataW.weightsEach Tryz.prog [3, 44, 3, 43] [y0.1, y1.1, y2.1, y3.1]).all (· ≤ reachBytes) = true := by
        rw [List.all_eq_true]
        intro z hz
        simpa using hwe z hz
      obtain ⟨ls, hls⟩ := ints_of_trod f1'
      obtain ⟨a3, m3, c3, e3⟩ := slice_of_trod f3'
      obtain ⟨row, hrow, hsz⟩ := row_of_arg (j := 3) (⟨n', by subst e3; exact f3'⟩ : DataW.Trod enc Tryz.prog W 0 sp held 43 u3 y3.1 y3.2) ⟨_, _, _, e3⟩ hw2 rfl rfl
      obtain ⟨za, zc, g1⟩ := hls.len
      obtain ⟨ra, rc, g3⟩ := hrow.len
      have k1 := slice_len Tryz.underlying44 (of_decide_eq_true (by kernel_rfl)) f1' (fun z hz => hwe z (DataW.weights_mem_each (j := 1) rfl rfl z hz)) g1
      have k3 := slice_len Tryz.underlying43 (of_decide_eq_true (by kernel_rfl)) f3' (fun z hz => hwe z (DataW.weights_mem_each (j := 3) rfl rfl z hz)) g3
      unfold reachBytes at k1 k3
      refine ⟨⟨za, zc, ra, rc, ⟨q, ls, k, row⟩⟩, ?_, ?_, by show ls.length ≤ _; omega, by show row.length ≤ _; omega, hsz⟩
      · rw [e0, e2, g1, g3]; rfl
      · rw [g1] at hls
        rw [g3] at hrow
        exact ⟨hls, hrow⟩

set_option maxRecDepth 20000 in
theorem doc_of_arg {H : Type} {enc : TypeId × Value → H} {W : World} {sp : Nat → Bool} {held : Bool} {v : Value} {d : DataW H} {p : List MemPlace} {ts : List TypeId} {ds : List (DataW H)} {j : Nat}
    (h : DataW.Trod enc Tryz.prog W 0 sp held 22 v d p) (hsl : ∃ a n c, v = .slice a n c) (hw : (DataW.weightsEach Tryz.prog ts ds).all (· ≤ reachBytes) = true) (ht : ts[j]? = some 22) (hd : ds[j]? = some d) :
    ∃ l : List Lw, DocAt W v l ∧ SizedD l := by
  obtain ⟨a0, n0, c0, rfl⟩ := hsl
  obtain ⟨fuel, hf⟩ := h
  have hw1 : ∀ q ∈ d.weights Tryz.prog 22, q ≤ reachBytes := fun q hq => by
    have := List.all_eq_true.1 hw q (DataW.weights_mem_each ht hd q hq)
    simpa using this
  rcases open_slice Tryz.underlying22 hf with ⟨hcs, hx⟩ | ⟨a, len, cap, m, n, D, Pl, hcs, _, hl, hm, hmm, hx, hi⟩
  · have e := (List.cons.inj hcs).1
    cases e
    exact ⟨[], ⟨.inl ⟨none, 0, rfl, fun _ => rfl, by decide, rfl⟩, fun x hx => by cases hx⟩, fun x hx => by cases hx⟩
  · have e := (List.cons.inj hcs).1
    cases e
    have hlm : n0 ≤ m := by rw [hmm]; split <;> omega
    by_cases h0 : n0 = 0
    · subst h0
      exact ⟨[], ⟨.inl ⟨some a, c0, rfl, (fun h => by cases h), hm, rfl⟩, fun x hx => by cases hx⟩, fun x hx => by cases hx⟩
    · have hC : Tryz.prog.cellsOf 46 = 4 := by kernel_rfl
      simp only [Prod.mk.injEq] at hx
      obtain ⟨hx1, _⟩ := hx
      have hwD : ∀ i, i < n0 → ∀ q ∈ (D i).weights Tryz.prog 46, q ≤ reachBytes := fun i hin q hq => by
        refine hw1 q ?_
        rw [hx1]
        simp only [DataW.weights, Tryz.underlying22, List.mem_cons, List.mem_append]
        exact .inr (.inl (weights_all _ (D i) (List.mem_map.2 ⟨i, List.mem_range.2 hin, rfl⟩) q hq))
      have hel : ∀ i, i < n0 → ∃ y : Lw, W.cell? (a.add (i * 4)) = some (.int .i64 y.ln.q) ∧ W.cell? (a.add (i * 4 + 1)) = some y.sl ∧ W.cell? (a.add (i * 4 + 2)) = some (.int .i64 y.ln.k) ∧ W.cell? (a.add (i * 4 + 3)) = some y.sc ∧
          LwAt W y ∧ y.ln.ls.length ≤ 140737488355328 ∧ y.ln.cs.length ≤ 140737488355328 ∧ Sized y.ln.cs := by
        intro i hin
        obtain ⟨cs', hc, htr⟩ := hi i (by omega)
        rw [hC] at hc
        obtain ⟨_, hcl, hat⟩ := World.cells?_some hc
        obtain ⟨y, hy, h1, h2, h3, h4⟩ := lw_of_trod hcl htr (hwD i hin)
        subst hy
        have b0 := hat 0 (by omega)
        have b1 := hat 1 (by omega)
        have b2 := hat 2 (by omega)
        have b3 := hat 3 (by omega)
        rw [add_add] at b0 b1 b2 b3
        exact ⟨y, by simpa using b0, by simpa using b1, by simpa using b2, by simpa using b3, h1, h2, h3, h4⟩
      obtain ⟨b, o, spot⟩ := a
      obtain ⟨s0, hs0, _⟩ := hel 0 (by omega)
      have hspot : spot = none := by simpa [Addr.add] using World.cell?_spot hs0
      subst hspot
      have hblk : b < W.heap.size := World.block_lt_of_cell? W _ hs0
      have hel2 : ∀ i, i < n0 → ∃ y : Lw, W.cell? ⟨b, o + i * 4, none⟩ = some (.int .i64 y.ln.q) ∧ W.cell? ⟨b, o + i * 4 + 1, none⟩ = some y.sl ∧ W.cell? ⟨b, o + i * 4 + 2, none⟩ = some (.int .i64 y.ln.k) ∧ W.cell? ⟨b, o + i * 4 + 3, none⟩ = some y.sc ∧
          LwAt W y ∧ y.ln.ls.length ≤ 140737488355328 ∧ y.ln.cs.length ≤ 140737488355328 ∧ Sized y.ln.cs := by
        intro i hin
        obtain ⟨y, h1, h2, h3, h4, h5⟩ := hel i hin
        rw [add_plain] at h1 h2 h3 h4
        rw [← Nat.add_assoc] at h2 h3 h4
        exact ⟨y, h1, h2, h3, h4, h5⟩
      let F : Nat → Lw := fun i => if h : i < n0 then Classical.choose (hel2 i h) else default
      have hF : ∀ i, i < n0 → W.cell? ⟨b, o + i * 4, none⟩ = some (.int .i64 (F i).ln.q) ∧ W.cell? ⟨b, o + i * 4 + 1, none⟩ = some (F i).sl ∧ W.cell? ⟨b, o + i * 4 + 2, none⟩ = some (.int .i64 (F i).ln.k) ∧ W.cell? ⟨b, o + i * 4 + 3, none⟩ = some (F i).sc ∧
          LwAt W (F i) ∧ (F i).ln.ls.length ≤ 140737488355328 ∧ (F i).ln.cs.length ≤ 140737488355328 ∧ Sized (F i).ln.cs := by
        intro i hin
        have h1 := Classical.choose_spec (hel2 i hin)
        simp only [F, dif_pos hin]
        exact h1
      refine ⟨(List.range n0).map F, ⟨.inr ⟨b, o, c0, by simp, by simp; exact hl, hm, hblk, fun i hin => ?_⟩, fun x hxm => ?_⟩, fun x hxm => ?_⟩
      · have hil : i < n0 := by simpa using hin
        have e : ((List.range n0).map F)[i]! = F i := by
          rw [List.getElem!_eq_getElem?_getD, List.getElem?_map, List.getElem?_range hil]; rfl
        rw [e]
        obtain ⟨h1, h2, h3, h4, _⟩ := hF i hil
        exact ⟨h1, h2, h3, h4⟩
      · obtain ⟨i, hir, rfl⟩ := List.mem_map.1 hxm
        exact (hF i (by simpa using hir)).2.2.2.2.1
      · obtain ⟨i, hir, rfl⟩ := List.mem_map.1 hxm
        exact (hF i (by simpa using hir)).2.2.2.2.2

end Go.Proofs.YtafincmcmgedbaaGreatDoor

namespace Go.Proofs.YtafincmcmgedbaaGreatDoor
open Go.Joins Go.ChangeShapes Go.WideShapes Go.ChangeAt Go.RowKit Go.Lib Go.Deep

theorem readsPos : Tryz.prog.readableRec 24 = true := by kernel_rfl
theorem rowPos : 24 < Tryz.prog.types.size := of_decide_eq_true (by kernel_rfl)
set_option maxRecDepth 20000 in
theorem pos_of_arg {H : Type} {enc : TypeId × Value → H} {W : World} {sp : Nat → Bool} {held : Bool} {v : Value} {d : DataW H} {p : List MemPlace} {b0 : Nat} {r : Reach}
    (hval : Value.okWide Tryz.prog W r b0 24 v) (h : DataW.Trod enc Tryz.prog W 0 sp held 24 v d p) : ∃ x y : Int, v = .agg #[.int .i64 x, .int .i64 y] := by
  obtain ⟨v0, v1, y0, y1, n, rfl, rfl, _, f0, f1⟩ := open_agg2 Tryz.underlying24 (by kernel_rfl) (by kernel_rfl) hval h
  obtain ⟨x, hx1, _, _⟩ := DataW.trod_int Tryz.underlying3 f0
  obtain ⟨y, hy1, _, _⟩ := DataW.trod_int Tryz.underlying3 f1
  have e0 : v0 = .int .i64 x := by simpa using hx1
  have e1 : v1 = .int .i64 y := by simpa using hy1
  subst e0 e1
  exact ⟨x, y, rfl⟩

end Go.Proofs.YtafincmcmgedbaaGreatDoor
