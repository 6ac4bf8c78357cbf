/-
  What an argument that is a row of cells gives.
-/
import Derived.Test.YtafincmcmgedbaaGreatDoorCRow
import Derived.ProofKit
import Derived.OpenShut
import Derived.SizedLaws
import Derived.Deep.DeepHandedRow
import Derived.Deep.DeepWitnessRowRef
import Derived.Deep.Slices
import Derived.Deep.Fields

namespace Go.Proofs.YtafincmcmgedbaaGreatDoor
open Go.ChangeShapes Go.WideShapes Go.ChangeAt Go.RowKit Go.Lib Go.Deep

theorem ownKnobT : ownKnob Tryz.prog.godebug = none := by kernel_rfl
theorem laidOutT : laidOutB Tryz.prog = true := by kernel_rfl
theorem readsRows : Tryz.prog.readableRec 43 = true := by kernel_rfl
theorem rowRows : 43 < Tryz.prog.types.size := of_decide_eq_true (by kernel_rfl)

set_option maxRecDepth 20000 in
/-- It is read as a row; each text in it has a length that Go gives. -/
theorem row_of_arg {H : Type} {enc : TypeId × Value → H} {W : World} {sp : Nat → Bool} {held : Bool} {v : Value} {d : DataW H} {p : List MemPlace} {ts : List TypeId} {ds : List (DataW H)} {j : Nat}
    (h : DataW.Trod enc Tryz.prog W 0 sp held 43 v d p) (hsl : ∃ a n c, v = .slice a n c) (hw : (DataW.weightsEach Tryz.prog ts ds).all (· ≤ reachBytes) = true) (ht : ts[j]? = some 43) (hd : ds[j]? = some d) :
    ∃ l : Row, RowAt W v l ∧ Sized l := by
  obtain ⟨a0, n0, c0, rfl⟩ := hsl
  obtain ⟨fuel, hf⟩ := h
  rcases open_slice Tryz.underlying43 hf with ⟨hcs, hx⟩ | ⟨a, len, cap, m, n, D, Pl, hcs, _, hl, hm, hmm, hx, hi⟩
  · have e := (List.cons.inj hcs).1
    cases e
    exact ⟨[], .inl ⟨none, 0, rfl, fun _ => rfl, by decide, rfl⟩, fun a ha => by cases ha⟩
  · have e := (List.cons.inj hcs).1
    cases e
    simp only [Prod.mk.injEq] at hx
    obtain ⟨hx1, hx2⟩ := hx
    have hlm : n0 ≤ m := by rw [hmm]; split <;> omega
    by_cases h0 : n0 = 0
    · subst h0
      exact ⟨[], .inl ⟨some a, c0, rfl, (fun h => by cases h), hm, rfl⟩, fun a ha => by cases ha⟩
    · have hC : Tryz.prog.cellsOf 66 = 3 := by kernel_rfl
      have hS : Tryz.prog.cellsOf 9 = 1 := by kernel_rfl
      have hI : Tryz.prog.cellsOf 3 = 1 := by kernel_rfl
      have hR : Tryz.prog.cellsOf 21 = 1 := by kernel_rfl
      have hel : ∀ i, i < m → ∃ (r b : Int) (s : ByteArray), W.cell? (a.add (i * 3)) = some (.int .i32 r) ∧ W.cell? (a.add (i * 3 + 1)) = some (.int .i64 b) ∧ W.cell? (a.add (i * 3 + 2)) = some (.string s) ∧ D i = .agg [.lit (.int .i32 r), .lit (.int .i64 b), .lit (.string s.data.toList)] := by
        intro i hin
        obtain ⟨cs', hc, htr⟩ := hi i hin
        rw [hC] at hc
        obtain ⟨_, hcl, hat⟩ := World.cells?_some hc
        obtain ⟨xs, n', _, hy, _, hxl, hfl⟩ := DataW.trod_struct Tryz.underlying66 htr
        simp only [Prod.mk.injEq] at hy
        match cs', hcl with
        | [u0, u1, u2], _ =>
          match xs, hxl with
          | [y0, y1, y2], _ =>
            have f0 : DataW.trod enc Tryz.prog W 0 sp held n' 21 (([u0, u1, u2].drop 0).take (Tryz.prog.cellsOf 21)) = some y0 := hfl 0 _ rfl
            have f1 : DataW.trod enc Tryz.prog W 0 sp held n' 3 (([u0, u1, u2].drop 1).take (Tryz.prog.cellsOf 3)) = some y1 := hfl 1 _ rfl
            have f2 : DataW.trod enc Tryz.prog W 0 sp held n' 9 (([u0, u1, u2].drop 2).take (Tryz.prog.cellsOf 9)) = some y2 := hfl 2 _ rfl
            rw [hR] at f0
            rw [hI] at f1
            rw [hS] at f2
            obtain ⟨r, hr1, hr2, _⟩ := DataW.trod_int Tryz.underlying21 f0
            obtain ⟨b, hb1, hb2, _⟩ := DataW.trod_int Tryz.underlying3 f1
            obtain ⟨s, hs1, hs2, _⟩ := DataW.trod_string Tryz.underlying9 f2
            have e0 : u0 = .int .i32 r := by simpa using hr1
            have e1 : u1 = .int .i64 b := by simpa using hb1
            have e2 : u2 = .string s := by simpa using hs1
            have a0 := hat 0 (by omega)
            have a1 := hat 1 (by omega)
            have a2 := hat 2 (by omega)
            rw [add_add] at a0 a1 a2
            refine ⟨r, b, s, by rw [e0] at a0; simpa using a0, by rw [e1] at a1; simpa using a1, by rw [e2] at a2; simpa using a2, ?_⟩
            rw [hy.1, hr2, hb2, hs2]
            rfl
      obtain ⟨b, o, spot⟩ := a
      obtain ⟨s0, _, _, hs0, _⟩ := hel 0 (by omega)
      have hspot : spot = none := by simpa [Addr.add] using World.cell?_spot hs0
      subst hspot
      have hblk : b < W.heap.size := World.block_lt_of_cell? W _ hs0
      have hel2 : ∀ i, i < m → ∃ c : Ce, W.cell? ⟨b, o + i * 3, none⟩ = some (.int .i32 c.1) ∧ W.cell? ⟨b, o + i * 3 + 1, none⟩ = some (.int .i64 c.2.1) ∧ W.cell? ⟨b, o + i * 3 + 2, none⟩ = some (.string c.2.2) ∧ D i = .agg [.lit (.int .i32 c.1), .lit (.int .i64 c.2.1), .lit (.string c.2.2.data.toList)] := by
        intro i hin
        obtain ⟨r, z, s, h1, h2, h3, h4⟩ := hel i hin
        rw [add_plain] at h1 h2 h3
        rw [← Nat.add_assoc] at h2 h3
        exact ⟨(r, z, s), h1, h2, h3, h4⟩
      let F : Nat → Ce := fun i => if h : i < m then Classical.choose (hel2 i h) else ce0
      have hF : ∀ i, i < m → W.cell? ⟨b, o + i * 3, none⟩ = some (.int .i32 (F i).1) ∧ W.cell? ⟨b, o + i * 3 + 1, none⟩ = some (.int .i64 (F i).2.1) ∧ W.cell? ⟨b, o + i * 3 + 2, none⟩ = some (.string (F i).2.2) ∧ D i = .agg [.lit (.int .i32 (F i).1), .lit (.int .i64 (F i).2.1), .lit (.string (F i).2.2.data.toList)] := by
        intro i hin
        have h1 := Classical.choose_spec (hel2 i hin)
        simp only [F, dif_pos hin]
        exact h1
      refine ⟨(List.range n0).map F, .inr ⟨b, o, c0, by simp, by simp; exact hl, hm, hblk, fun i hin => ?_⟩, fun x hxm => ?_⟩
      · have hil : i < n0 := by simpa using hin
        have e : ((List.range n0).map F)[i]! = F i := by
          rw [List.getElem!_eq_getElem?_getD, List.getElem?_map, List.getElem?_range hil]; rfl
        rw [e]
        obtain ⟨h1, h2, h3, _⟩ := hF i (by omega)
        exact ⟨h1, h2, h3⟩
      · obtain ⟨i, hir, rfl⟩ := List.mem_map.1 hxm
        have hil : i < n0 := by simpa using hir
        obtain ⟨_, _, _, h3⟩ := hF i (by omega)
        subst hx1
        have hw1 := List.all_eq_true.1 hw
        have hin2 : ∀ q, q ∈ DataW.weights Tryz.prog 43 (DataW.slice ((List.range n0).map D) ((List.range (m - n0)).map fun j => D (n0 + j)) : DataW H) → q ≤ reachBytes := fun q hq => by
          have := hw1 _ (DataW.weights_mem_each ht hd q hq)
          simpa using this
        have hall : ∀ (es : List (DataW H)) (x : DataW H), x ∈ es → ∀ q ∈ x.weights Tryz.prog 66, q ∈ DataW.weightsAll Tryz.prog 66 es := by
          intro es
          induction es with
          | nil => intro x hx; cases hx
          | cons y es ih =>
            intro x hx q hq
            simp only [DataW.weightsAll, List.mem_append]
            rcases List.mem_cons.1 hx with rfl | hx
            · exact .inl hq
            · exact .inr (ih x hx q hq)
        have hq : ∀ q, q ∈ (D i).weights Tryz.prog 66 → q ≤ reachBytes := fun q hq => by
          refine hin2 q ?_
          simp only [DataW.weights, Tryz.underlying43, List.mem_cons, List.mem_append]
          exact .inr (.inl (hall _ (D i) (List.mem_map.2 ⟨i, List.mem_range.2 hil, rfl⟩) q hq))
        have hr : reachBytes ≤ 140737488355328 := by decide
        rw [h3] at hq
        have q1 := hq (F i).2.2.data.toList.length (by simp [DataW.weights, DataW.weightsEach, Tryz.underlying66])
        rw [← size_eq] at q1
        exact (by omega : (F i).2.2.size ≤ 140737488355328)

theorem post_plain {H : Type} {enc : TypeId × Value → H} {P : Program} {f : Func} {s : ChangeSpec} {W W' : World} {args : Array Value} {v : Value} {ds gs : List (DataW H)} {before pa : List MemPlace}
    (hW : DataW.Whole enc P f.params.toList s.vars false W args.toList ds gs before) (hg : Below W.heap.size W W')
    (hres : DataW.TrodAll enc P W' W.heap.size (fun _ => false) false f.resultTypes.toList (v.resultList f.resultTypes.size) (s.fn H (ds ++ gs)).results [])
    (hargs : DataW.TrodAll enc P W' 0 (fun b => decide (b < W.heap.size)) true f.params.toList args.toList (s.fn H (ds ++ gs)).args pa)
    (hvars : DataW.TrodVars enc P W' (fun b => decide (b < W.heap.size)) s.vars (s.fn H (ds ++ gs)).vars []) : s.post enc P f false true false false W args v W' :=
  ⟨ds, gs, before, [], pa, [], hW, hres, hargs, hvars, hg.frame _, fun h => by cases h⟩

end Go.Proofs.YtafincmcmgedbaaGreatDoor
