/-
  What the rows' list gives: the library's tables of UTF-8, in memory; what an argument that is a row of attributes gives; a world for the witness.
-/
import Derived.Test.YtcccaaleekednaaDoorRows
import Derived.Test.YtcccaaleekednaaDoorMem
import Derived.WalkKit
import Derived.ProofKit
import Derived.OpenShut
import Derived.SizedLaws
import Derived.Shelf.Vars
import Derived.PinnedBridge
import Derived.Lib.LaidIn
import Derived.Lib.LaidU8T
import Derived.Deep.DeepHandedRow
import Derived.Deep.DeepWitnessRowRef
import Derived.Deep.Slices
import Derived.Deep.Fields
namespace Go.Proofs.YtcccaaleekednaaDoor
open Go.ChangeShapes Go.WideShapes Go.ChangeAt Go.RowKit Go.Lib Go.Deep

theorem ownKnobT : ownKnob Tryd.prog.godebug = none := by kernel_rfl
theorem laidOutT : laidOutB Tryd.prog = true := by kernel_rfl
theorem readsRows : Tryd.prog.readableRec 25 = true := by kernel_rfl
theorem rowRows : 25 < Tryd.prog.types.size := of_decide_eq_true (by kernel_rfl)
theorem acceptEq : Rows.laid_unicode_utf8_acceptRanges (H := Unit) = acceptData := by kernel_rfl
theorem rowLaid : ([("unicode/utf8.acceptRanges", Rows.laid_unicode_utf8_acceptRanges), ("unicode/utf8.first", Rows.laid_unicode_utf8_first)] : List (String × DataW Unit)) = [("unicode/utf8.acceptRanges", acceptData), ("unicode/utf8.first", firstData)] := by
  rw [acceptEq]
  unfold Rows.laid_unicode_utf8_first
  rw [Pinned.utf8First_eq]

theorem env_of {W : World} (hL : laidMetH Tryd.prog [("unicode/utf8.acceptRanges", Rows.laid_unicode_utf8_acceptRanges), ("unicode/utf8.first", Rows.laid_unicode_utf8_first)] W) (hS : W.ShapedOpen Tryd.prog) : Env W := by
  rw [rowLaid] at hL
  have hL' : laidMet Tryd.prog [("unicode/utf8.acceptRanges", acceptData), ("unicode/utf8.first", firstData)] W := hL
  refine ⟨?_, cell_of_shapedOpen_int (zero := #[.int .i64 0]) (t := 3) hS (by decide +kernel) (by kernel_rfl) rfl (by kernel_rfl) (by kernel_rfl) Tryd.underlying3⟩
  exact utf8Tabs_of_readsT (U8Types.of196 Tryd.laysValid) ⟨by kernel_rfl, by kernel_rfl, by kernel_rfl, by kernel_rfl, by kernel_rfl, by kernel_rfl, by kernel_rfl⟩ (Lib.laidMet.reads hL' (.tail _ (.head _))) (Lib.laidMet.reads hL' (.head _))

/-- An argument that is a row of attributes: it is read as a row; each text in it has a length that Go gives. -/
theorem row_of_arg {H : Type} {enc : TypeId × Value → H} {W : World} {sp : Nat → Bool} {held : Bool} {v : Value} {d : DataW H} {p : List MemPlace} {ts : List TypeId} {ds : List (DataW H)} {j : Nat}
    (h : DataW.Trod enc Tryd.prog W 0 sp held 25 v d p) (hsl : ∃ a n c, v = .slice a n c) (hw : (DataW.weightsEach Tryd.prog ts ds).all (· ≤ reachBytes) = true) (ht : ts[j]? = some 25) (hd : ds[j]? = some d) :
    ∃ l : Row, RowAt W v l ∧ ∀ a ∈ l, a.1.size ≤ 140737488355328 ∧ a.2.size ≤ 140737488355328 := by
  obtain ⟨a0, n0, c0, rfl⟩ := hsl
  obtain ⟨fuel, hf⟩ := h
  rcases open_slice Tryd.underlying25 hf with ⟨hcs, hx⟩ | ⟨a, len, cap, m, n, D, Pl, hcs, _, hl, hm, hmm, hx, hi⟩
  · have e := (List.cons.inj hcs).1
    cases e
    exact ⟨[], .inl ⟨none, 0, rfl, fun _ => rfl, rfl⟩, fun a ha => by cases ha⟩
  · have e := (List.cons.inj hcs).1
    cases e
    simp only [Prod.mk.injEq] at hx
    obtain ⟨hx1, hx2⟩ := hx
    have hlm : n0 ≤ m := by rw [hmm]; split <;> omega
    by_cases h0 : n0 = 0
    · subst h0
      exact ⟨[], .inl ⟨some a, c0, rfl, (fun h => by cases h), rfl⟩, fun a ha => by cases ha⟩
    · have hC : Tryd.prog.cellsOf 32 = 2 := by kernel_rfl
      have hS : Tryd.prog.cellsOf 9 = 1 := by kernel_rfl
      -- each element, its two texts
      have hel : ∀ i, i < m → ∃ s t : ByteArray, W.cell? (a.add (i * 2)) = some (.string s) ∧ W.cell? (a.add (i * 2 + 1)) = some (.string t) ∧ D i = .agg [.lit (.string s.data.toList), .lit (.string t.data.toList)] := by
        intro i hin
        obtain ⟨cs', hc, htr⟩ := hi i hin
        rw [hC] at hc
        obtain ⟨_, hcl, hat⟩ := World.cells?_some hc
        obtain ⟨xs, n', _, hy, _, hxl, hfl⟩ := DataW.trod_struct Tryd.underlying32 htr
        simp only [Prod.mk.injEq] at hy
        match cs', hcl with
        | [u0, u1], _ =>
          match xs, hxl with
          | [y0, y1], _ =>
            have f0 : DataW.trod enc Tryd.prog W 0 sp held n' 9 (([u0, u1].drop 0).take (Tryd.prog.cellsOf 9)) = some y0 := hfl 0 _ rfl
            have f1 : DataW.trod enc Tryd.prog W 0 sp held n' 9 (([u0, u1].drop 1).take (Tryd.prog.cellsOf 9)) = some y1 := hfl 1 _ rfl
            rw [hS] at f0 f1
            obtain ⟨s, hs1, hs2, _⟩ := DataW.trod_string Tryd.underlying9 f0
            obtain ⟨t, ht1, ht2, _⟩ := DataW.trod_string Tryd.underlying9 f1
            have e0 : u0 = .string s := by simpa using hs1
            have e1 : u1 = .string t := by simpa using ht1
            have a0 := hat 0 (by omega)
            have a1 := hat 1 (by omega)
            rw [add_add] at a0 a1
            refine ⟨s, t, by rw [e0] at a0; simpa using a0, by rw [e1] at a1; simpa using a1, ?_⟩
            rw [hy.1, hs2, ht2]
            rfl
      obtain ⟨b, o, spot⟩ := a
      obtain ⟨s0, _, hs0, _⟩ := hel 0 (by omega)
      have hspot : spot = none := by simpa [Addr.add] using World.cell?_spot hs0
      subst hspot
      have hblk : b < W.heap.size := World.block_lt_of_cell? W _ hs0
      have hel2 : ∀ i, i < m → ∃ s t : ByteArray, W.cell? ⟨b, o + i * 2, none⟩ = some (.string s) ∧ W.cell? ⟨b, o + i * 2 + 1, none⟩ = some (.string t) ∧ D i = .agg [.lit (.string s.data.toList), .lit (.string t.data.toList)] := by
        intro i hin
        obtain ⟨s, t, h1, h2, h3⟩ := hel i hin
        rw [add_plain] at h1 h2
        rw [← Nat.add_assoc] at h2
        exact ⟨s, t, h1, h2, h3⟩
      let F : Nat → At := fun i => if h : i < m then (Classical.choose (hel2 i h), Classical.choose (Classical.choose_spec (hel2 i h))) else (⟨#[]⟩, ⟨#[]⟩)
      have hF : ∀ i, i < m → W.cell? ⟨b, o + i * 2, none⟩ = some (.string (F i).1) ∧ W.cell? ⟨b, o + i * 2 + 1, none⟩ = some (.string (F i).2) ∧ D i = .agg [.lit (.string (F i).1.data.toList), .lit (.string (F i).2.data.toList)] := by
        intro i hin
        have h1 := Classical.choose_spec (Classical.choose_spec (hel2 i hin))
        simp only [F, dif_pos hin]
        exact h1
      refine ⟨(List.range n0).map F, .inr ⟨b, o, c0, by simp, by simp; exact hl, hm, hblk, fun i hin => ?_⟩, fun x hxm => ?_⟩
      · have hil : i < n0 := by simpa using hin
        have e : ((List.range n0).map F)[i]! = F i := by
          rw [List.getElem!_eq_getElem?_getD, List.getElem?_map, List.getElem?_range hil]; rfl
        rw [e]
        obtain ⟨h1, h2, _⟩ := hF i (by omega)
        exact ⟨h1, h2⟩
      · obtain ⟨i, hir, rfl⟩ := List.mem_map.1 hxm
        have hil : i < n0 := by simpa using hir
        obtain ⟨_, _, h3⟩ := hF i (by omega)
        subst hx1
        have hw1 := List.all_eq_true.1 hw
        have hin2 : ∀ q, q ∈ DataW.weights Tryd.prog 25 (DataW.slice ((List.range n0).map D) ((List.range (m - n0)).map fun j => D (n0 + j)) : DataW H) → q ≤ reachBytes := fun q hq => by
          have := hw1 _ (DataW.weights_mem_each ht hd q hq)
          simpa using this
        have hall : ∀ (es : List (DataW H)) (x : DataW H), x ∈ es → ∀ q ∈ x.weights Tryd.prog 32, q ∈ DataW.weightsAll Tryd.prog 32 es := by
          intro es
          induction es with
          | nil => intro x hx; cases hx
          | cons y es ih =>
            intro x hx q hq
            simp only [DataW.weightsAll, List.mem_append]
            rcases List.mem_cons.1 hx with rfl | hx
            · exact .inl hq
            · exact .inr (ih x hx q hq)
        have hq : ∀ q, q ∈ (D i).weights Tryd.prog 32 → q ≤ reachBytes := fun q hq => by
          refine hin2 q ?_
          simp only [DataW.weights, Tryd.underlying25, List.mem_cons, List.mem_append]
          exact .inr (.inl (hall _ (D i) (List.mem_map.2 ⟨i, List.mem_range.2 hil, rfl⟩) q hq))
        have hr : reachBytes ≤ 140737488355328 := by decide
        rw [h3] at hq
        have q1 := hq (F i).1.data.toList.length (by simp [DataW.weights, DataW.weightsEach, Tryd.underlying32])
        have q2 := hq (F i).2.data.toList.length (by simp [DataW.weights, DataW.weightsEach, Tryd.underlying32])
        rw [← size_eq] at q1 q2
        exact ⟨by omega, by omega⟩

theorem post_plain {H : Type} {enc : TypeId × Value → H} {P : Program} {f : Func} {s : ChangeSpec} {W W' : World} {args : Array Value} {v : Value} {ds gs : List (DataW H)} {before pa : List MemPlace}
    (hW : DataW.Whole enc P f.params.toList s.vars false W args.toList ds gs before) (hg : Below W.heap.size W W')
    (hres : DataW.TrodAll enc P W' W.heap.size (fun _ => false) false f.resultTypes.toList (v.resultList f.resultTypes.size) (s.fn H (ds ++ gs)).results [])
    (hargs : DataW.TrodAll enc P W' 0 (fun b => decide (b < W.heap.size)) true f.params.toList args.toList (s.fn H (ds ++ gs)).args pa)
    (hvars : DataW.TrodVars enc P W' (fun b => decide (b < W.heap.size)) s.vars (s.fn H (ds ++ gs)).vars []) : s.post enc P f false true false false W args v W' :=
  ⟨ds, gs, before, [], pa, [], hW, hres, hargs, hvars, hg.frame _, fun h => by cases h⟩

/-- A world for the witness: the settled one, the table holding what its initialiser lays. -/
noncomputable def laidWorld (os : Os) : World :=
  let w0 := World.holding Tryd.prog os ⟨#[], #[], []⟩
  let put (h : Array Obj) (g : Nat) (cs : Array Value) : Array Obj := h.modify g fun
    | .cells _ t frozen => .cells cs t frozen
    | o => o
  let h1 := put w0.heap 0 (Lib.firstTab.map fun z => Value.int .u8 z).toArray
  let h2 := put h1 1 ((List.range 16).flatMap fun i => [Value.int .u8 (Lib.accLo i), Value.int .u8 (Lib.accHi i)]).toArray
  { w0 with heap := h2 }
theorem laid_met (os : Os) (args : Array Value) : laidMet Tryd.prog [("unicode/utf8.acceptRanges", acceptData), ("unicode/utf8.first", firstData)] ((laidWorld os).forCall (fun _ _ => 0) ⟨#[], args, []⟩).memory :=
  (LaidIn.of_run (l := [("unicode/utf8.acceptRanges", Lib.acceptData), ("unicode/utf8.first", Lib.firstData)]) [1, 0] 8 (by kernel_rfl) (by kernel_rfl) (by kernel_rfl) (by kernel_rfl)).met

end Go.Proofs.YtcccaaleekednaaDoor
