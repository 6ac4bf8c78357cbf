/-
  What an argument that is a line, or a slice of ints, gives.
-/
import Derived.Test.YtafincmcmgedbaaGreatDoorCOpen
import Derived.Test.YtafincmcmgedbaaGreatDoorCAppG
import Derived.Lib.SmallJoins

namespace Go.Proofs.YtafincmcmgedbaaGreatDoor
open Go.Joins Go.ChangeShapes Go.WideShapes Go.ChangeAt Go.RowKit Go.Lib Go.Deep

theorem readsLines : Tryz.prog.readableRec 46 = true := by kernel_rfl
theorem rowLines : 46 < Tryz.prog.types.size := of_decide_eq_true (by kernel_rfl)
theorem readsInts : Tryz.prog.readableRec 44 = true := by kernel_rfl
theorem rowInts : 44 < Tryz.prog.types.size := of_decide_eq_true (by kernel_rfl)

set_option maxRecDepth 20000 in
theorem ints_of_trod {H : Type} {enc : TypeId × Value → H} {W : World} {sp : Nat → Bool} {held : Bool} {v : Value} {y : DataW H × List MemPlace} {fuel : Nat} (hf : DataW.trod enc Tryz.prog W 0 sp held fuel 44 [v] = some y) : ∃ l : IRow, IntsAt W v l := by
  rcases open_slice Tryz.underlying44 hf with ⟨hcs, hx⟩ | ⟨a, len, cap, m, n, D, Pl, hcs, _, hl, hm, hmm, hx, hi⟩
  · obtain rfl := (List.cons.inj hcs).1
    exact ⟨[], .inl ⟨none, 0, rfl, fun _ => rfl, by decide, rfl⟩⟩
  · obtain rfl := (List.cons.inj hcs).1
    have hlm : len ≤ m := by rw [hmm]; split <;> omega
    by_cases h0 : len = 0
    · subst h0
      exact ⟨[], .inl ⟨some a, cap, rfl, (fun h => by cases h), hm, rfl⟩⟩
    · have hI : Tryz.prog.cellsOf 3 = 1 := by kernel_rfl
      have hel : ∀ i, i < m → ∃ z : Int, W.cell? (a.add (i * 1)) = some (.int .i64 z) := by
        intro i hin
        obtain ⟨cs', hc, htr⟩ := hi i hin
        rw [hI] at hc
        obtain ⟨_, hcl, hat⟩ := World.cells?_some hc
        match cs', hcl with
        | [u0], _ =>
          obtain ⟨z, hz1, hz2, _⟩ := DataW.trod_int Tryz.underlying3 htr
          have e0 : u0 = .int .i64 z := by simpa using hz1
          have a0 := hat 0 (by omega)
          rw [add_add] at a0
          exact ⟨z, by rw [e0] at a0; simpa using a0⟩
      obtain ⟨b, o, spot⟩ := a
      obtain ⟨s0, hs0⟩ := hel 0 (by omega)
      have hspot : spot = none := by simpa [Addr.add] using World.cell?_spot hs0
      subst hspot
      have hblk : b < W.heap.size := World.block_lt_of_cell? W _ hs0
      have hel2 : ∀ i, i < m → ∃ z : Int, W.cell? ⟨b, o + i, none⟩ = some (.int .i64 z) := by
        intro i hin
        obtain ⟨z, h1⟩ := hel i hin
        rw [add_plain, Nat.mul_one] at h1
        exact ⟨z, h1⟩
      let F : Nat → Int := fun i => if h : i < m then Classical.choose (hel2 i h) else 0
      have hF : ∀ i, i < m → W.cell? ⟨b, o + i, none⟩ = some (.int .i64 (F i)) := by
        intro i hin
        have h1 := Classical.choose_spec (hel2 i hin)
        simp only [F, dif_pos hin]
        exact h1
      refine ⟨(List.range len).map F, .inr ⟨b, o, cap, by simp, by simp; exact hl, hm, hblk, fun i hin => ?_⟩⟩
      have hil : i < len := by simpa using hin
      have e : ((List.range len).map F)[i]! = F i := by
        rw [List.getElem!_eq_getElem?_getD, List.getElem?_map, List.getElem?_range hil]; rfl
      rw [e]
      exact hF i (by omega)
theorem ints_of_arg {H : Type} {enc : TypeId × Value → H} {W : World} {sp : Nat → Bool} {held : Bool} {v : Value} {d : DataW H} {p : List MemPlace} (h : DataW.Trod enc Tryz.prog W 0 sp held 44 v d p) (hsl : ∃ a n c, v = .slice a n c) : ∃ l : IRow, IntsAt W v l := by
  obtain ⟨a0, n0, c0, rfl⟩ := hsl
  obtain ⟨fuel, hf⟩ := h
  exact ints_of_trod (v := .slice a0 n0 c0) hf

theorem slice_of_trod {H : Type} {enc : TypeId × Value → H} {W : World} {sp : Nat → Bool} {held : Bool} {v : Value} {y : DataW H × List MemPlace} {fuel : Nat} (hf : DataW.trod enc Tryz.prog W 0 sp held fuel 43 [v] = some y) : ∃ a n c, v = .slice a n c := by
  rcases open_slice Tryz.underlying43 hf with ⟨hcs, hx⟩ | ⟨a, len, cap, m, n, D, Pl, hcs, _⟩
  · exact ⟨_, _, _, (List.cons.inj hcs).1⟩
  · exact ⟨_, _, _, (List.cons.inj hcs).1⟩

set_option maxRecDepth 20000 in
/-- It is read as a line; each text in it has a length that Go gives. -/
theorem line_of_arg {H : Type} {enc : TypeId × Value → H} {W : World} {sp : Nat → Bool} {held : Bool} {v : Value} {d : DataW H} {p : List MemPlace} {ts : List TypeId} {ds : List (DataW H)} {j b0 : Nat} {r : Reach}
    (hval : Value.okWide Tryz.prog W r b0 46 v) (h : DataW.Trod enc Tryz.prog W 0 sp held 46 v d p) (hw : (DataW.weightsEach Tryz.prog ts ds).all (· ≤ reachBytes) = true) (ht : ts[j]? = some 46) (hd : ds[j]? = some d) :
    ∃ (q k : Int) (sl sc : Value) (ls : IRow) (cs : Row), v = .agg #[.int .i64 q, sl, .int .i64 k, sc] ∧ LnAt W sl sc ls cs ∧ Sized cs := by
  obtain ⟨v0, v1, v2, v3, y0, y1, y2, y3, n, rfl, rfl, _, f0, f1, f2, f3⟩ := open_agg4 Tryz.underlying46 (by kernel_rfl) (by kernel_rfl) hval h
  obtain ⟨q, hq1, _, _⟩ := DataW.trod_int Tryz.underlying3 f0
  obtain ⟨k, hk1, _, _⟩ := DataW.trod_int Tryz.underlying3 f2
  have e0 : v0 = .int .i64 q := by simpa using hq1
  have e2 : v2 = .int .i64 k := by simpa using hk1
  subst e0 e2
  obtain ⟨ls, hls⟩ := ints_of_trod f1
  obtain ⟨a, m, c, e3⟩ := slice_of_trod f3
  have f3' : DataW.Trod enc Tryz.prog W 0 sp held 43 v3 y3.1 y3.2 := ⟨n, by subst e3; exact f3⟩
  have hw2 : (DataW.weightsEach Tryz.prog [3, 44, 3, 43] [y0.1, y1.1, y2.1, y3.1]).all (· ≤ reachBytes) = true := by
    rw [List.all_eq_true] at hw ⊢
    intro x hx
    refine hw x (DataW.weights_mem_each ht hd x ?_)
    simp only [DataW.weights, Tryz.underlying46]
    exact hx
  obtain ⟨cs, hcs, hsz⟩ := row_of_arg (j := 3) f3' ⟨_, _, _, e3⟩ hw2 rfl rfl
  exact ⟨q, k, v1, v3, ls, cs, rfl, ⟨hls, hcs⟩, hsz⟩

end Go.Proofs.YtafincmcmgedbaaGreatDoor
