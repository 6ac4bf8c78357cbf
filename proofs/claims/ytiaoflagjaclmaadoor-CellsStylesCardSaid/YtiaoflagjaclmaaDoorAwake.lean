/-
  The chapter's examples that every statement of the layer asks for.
-/
import Derived.Test.YtiaoflagjaclmaaDoorSet
import Derived.Test.YtiaoflagjaclmaaDoorText
import Derived.Test.YtiaoflagjaclmaaDoorIter
namespace Go.Proofs.YtiaoflagjaclmaaDoor
open Go.RowKit Go.Lib

/-- The example's rows: two bold cells; these and a line break; a, and two of a link. -/
def rowA : Row := [(97, 1, ⟨#[]⟩), (241, 1, ⟨#[]⟩)]
def rowB : Row := [(97, 1, ⟨#[]⟩), (241, 1, ⟨#[]⟩), (10, 0, ⟨#[]⟩)]
def rowC : Row := [(97, 0, ⟨#[]⟩), (108, 0, ⟨#[120]⟩), (108, 0, ⟨#[120]⟩)]
theorem ofA : ofR (cleanD (⟨#[97, 195, 177]⟩ : ByteArray).data.toList) 1 ⟨#[]⟩ = rowA := by decide +kernel
theorem setA : turnR (setC 2 1) rowA 0 2 = [(97, 2, ⟨#[]⟩), (241, 2, ⟨#[]⟩)] := by decide +kernel
theorem runsA : runsR rowB 0 = [(0, 2, 1, ⟨#[]⟩, 0), (2, 3, 0, ⟨#[]⟩, 1)] := by decide +kernel
theorem withinA : withinR rowC 2 = (1, 3) := by decide +kernel
theorem textA : textS (charsR rowA) = ⟨#[97, 195, 177]⟩ := by decide +kernel

theorem of_known (w : World) : Calls Tryd.prog 24 #[.string ⟨#[97, 195, 177]⟩, .int .i64 1, .string ⟨#[]⟩] w fun e w' => ∃ a c, e = .returned (.slice a 2 c) ∧ RowAt w' (.slice a 2 c) rowA ∧ Below w.heap.size w w' := by
  have h := of_any ⟨#[97, 195, 177]⟩ 1 ⟨#[]⟩ w (by decide)
  rw [ofA] at h
  refine h.mono ?_
  rintro e w' ⟨v, rfl, hown, hb⟩
  obtain ⟨a, c, rfl⟩ := own_len hown
  exact ⟨a, c, rfl, rowAt_of_own hown, hb⟩
theorem set_known (v : Value) (w : World) (hv : RowAt w v rowA) : Calls Tryd.prog 15 #[v, .int .i64 0, .int .i64 2, .int .i64 2, .int .i64 1] w fun e w' => ∃ g c, e = .returned (.tuple #[.slice (some ⟨g, 0, none⟩) 2 c, .int .i64 0]) ∧ w'.cell? ⟨g, 4, none⟩ = some (.int .i64 2) ∧ g < w'.heap.size ∧ 2 ≤ c ∧ c ≤ 2 ^ 63 - 1 ∧ Below w.heap.size w w' := by
  have h := set_on v rowA 0 2 2 1 w hv (by decide) (by decide) (by decide)
  rw [setA] at h
  refine h.mono ?_
  rintro e w' ⟨v, rfl, hown, hb⟩
  obtain ⟨b, o, c, rfl, hlc, hcm, hbl, hcs⟩ := (rowAt_of_own hown).lies (by decide)
  rcases hown.2 with ⟨e, _⟩ | ⟨g, cap, cur, e, _⟩
  · simp at e
  · simp only [Value.slice.injEq, Option.some.injEq, Addr.mk.injEq, and_true, true_and] at e
    obtain ⟨⟨rfl, rfl⟩, rfl⟩ := e
    exact ⟨b, c, rfl, (hcs 1 (by decide)).2.1, hbl, hlc, hcm, hb⟩
theorem runs_known (v : Value) (w : World) (hv : RowAt w v rowB) : Calls Tryd.prog 25 #[v] w fun e w' => ∃ g c, e = .returned (.slice (some ⟨g, 0, none⟩) 2 c) ∧ w'.cell? ⟨g, 9, none⟩ = some (.int .i64 1) ∧ g < w'.heap.size ∧ 2 ≤ c ∧ c ≤ 2 ^ 63 - 1 ∧ Below w.heap.size w w' := by
  have h := Runs_any v rowB w hv (by decide)
  rw [runsA] at h
  refine h.mono ?_
  rintro e w' ⟨v, rfl, hown, hb⟩
  have h0 := hown
  rcases hown.2 with ⟨_, hn⟩ | ⟨g, cap, cur, rfl, hg, hc, hnc, hcm, _⟩
  · simp at hn
  · exact ⟨g, cap, rfl, (h0.cellAt 9 (by decide)).trans rfl, (Array.getElem?_eq_some_iff.1 hc).1, hnc, hcm, hb⟩
theorem cut_known (v : Value) (w : World) (hv : RowAt w v rowA) : Calls Tryd.prog 26 #[v, .int .i64 1, .int .i64 0] w fun e w' => e = .returned (.tuple #[.slice none 0 0, .int .i64 1]) ∧ Below w.heap.size w w' :=
  cut_off v rowA 1 0 w hv (by decide)
theorem within_known (v : Value) (w : World) (hv : RowAt w v rowC) : Calls Tryd.prog 27 #[v, .int .i64 2] w fun e w' => e = .returned (.tuple #[.int .i64 1, .int .i64 3]) ∧ Below w.heap.size w w' := by
  have h := within_any v rowC 2 w hv (by decide)
  have e : placeN rowC.length 2 = 2 := by decide
  rw [e] at h
  unfold withinV at h
  rw [withinA] at h
  exact h
theorem text_known (v : Value) (w : World) (hv : RowAt w v rowA) : Calls Tryd.prog 10 #[v] w fun e w' => e = .returned (.string ⟨#[97, 195, 177]⟩) ∧ Below w.heap.size w w' := by
  have h := text_any v rowA w hv (by decide)
  rw [textA] at h
  exact h

theorem lit_row (w : World) (l : Row) (cs : Array Value) (n : Nat) (hcs : cs.toList = cellsR l) (hn : l.length = n) (hl : n ≤ 1000) (t : TypeId) : RowAt (w.alloc (.cells cs t)) (.slice (some ⟨w.heap.size, 0, none⟩) n n) l := by
  subst hn
  refine .inr ⟨w.heap.size, 0, l.length, rfl, Nat.le_refl _, by unfold maxLen; omega, by simp, Cells.of_flat (fun j u hu => ?_)⟩
  rw [Nat.zero_add]
  exact cell_blk (World.alloc_heap_new w _) j u (by rw [← Array.getElem?_toList, hcs]; exact hu)

theorem within_lit (w : World) : Calls Tryd.prog 27 #[.slice (some ⟨w.heap.size, 0, none⟩) 3 3, .int .i64 2] (w.alloc (.cells #[.int .i32 97, .int .i64 0, .string ⟨#[]⟩, .int .i32 108, .int .i64 0, .string ⟨#[120]⟩, .int .i32 108, .int .i64 0, .string ⟨#[120]⟩] 37)) fun e w' => e = .returned (.tuple #[.int .i64 1, .int .i64 3]) ∧ Below w.heap.size w w' := by
  refine (within_known _ _ (lit_row w rowC _ 3 rfl rfl (by decide) _)).mono ?_
  rintro e w' ⟨rfl, hb⟩
  exact ⟨rfl, ((Below.refl _ w).alloc (Nat.le_refl _) _).trans (hb.mono (by simp))⟩

set_option maxHeartbeats 8000000 in
theorem awake_any (w : World) : Calls Tryd.prog 7 #[] w fun e w' => e = .returned (.bool true) ∧ Below w.heap.size w w' := by
  have hof := of_known w
  have hst := fun v w => set_known v w
  have hru := fun v w => runs_known v w
  have hcu := fun v w => cut_known v w
  have hwi := fun w => within_lit w
  have htx := fun v w => text_known v w
  go_enter Tryd.func7, Tryd.ntmps7
  go_wp2_with (first
    | (go_at_call 24; ((with_reducible refine hof.mono ?_); rintro e w1 ⟨a1, c1, rfl, r1, hb⟩; have R1 := Lib.hid r1; clear r1))
    | (go_at_call 15; ((with_reducible refine (hst _ _ R1.out).mono ?_); rintro e w2 ⟨g2, c2, rfl, p1, p2, p3, p4, hb2⟩; have P1 := Lib.hid p1; clear p1; replace R1 := Lib.hid (R1.out.below hb2); replace hb := hb.trans (hb2.mono hb.size); have hc := Below.refl w2.heap.size w2))
    | (at_builtin; refine wpList_append_row rfl _ _ rfl w2.heap.size _ [] rfl (World.ownsRow_made w2 #[] 0 (Nat.le_refl _) (Nat.zero_le _) (by simp)) _ rowA rfl (R1.out.below ((Below.refl _ w2).alloc (Nat.le_refl _) _)) (by decide) (by simp) ?_; intro v3 w3 own3 grow3; replace hc := (hc.alloc hc.size _).grown grow3 (by simp) (fun k e => by cases e; exact Nat.le_refl _))
    | (at_builtin; refine wpList_append_row rfl _ _ rfl w2.heap.size _ ([] ++ rowA) rfl (own3.alloc _) _ [(10, 0, ⟨#[]⟩)] rfl (one_row _ _ _ _ _) (by decide) (by have := hc.size; simp; omega) ?_; intro v4 w4 own4 grow4; replace hc := (hc.alloc hc.size _).grown grow4 (by have := hc.size; simp; omega) (fun k e => (own3.lt k e).1); have R4 := Lib.hid (show RowAt w4 v4 rowB from rowAt_of_own own4))
    | (go_at_call 25; ((with_reducible refine (hru _ _ R4.out).mono ?_); rintro e w5 ⟨g5, c5, rfl, q1, q2, q3, q4, hb5⟩; have Q1 := Lib.hid q1; clear q1; replace hc := hc.trans (hb5.mono hc.size); have hd := Below.refl w5.heap.size w5; replace R1 := Lib.hid (R1.out.below hc)))
    | (go_at_call 26; ((with_reducible refine (hcu _ _ R1.out).mono ?_); rintro e w6 ⟨rfl, hb6⟩; replace hc := hc.trans (hb6.mono hc.size); replace hd := hd.trans (hb6.mono hd.size); replace R1 := Lib.hid (R1.out.below hb6)))
    | (go_at_call 27; ((with_reducible refine (hwi _).mono ?_); rintro e w7 ⟨rfl, hb7⟩; replace hc := hc.trans (hb7.mono hc.size); replace hd := hd.trans (hb7.mono hd.size); replace R1 := Lib.hid (R1.out.below hb7)))
    | (go_at_call 10; ((with_reducible refine (htx _ _ R1.out).mono ?_); rintro e w8 ⟨rfl, hb8⟩; replace hc := hc.trans (hb8.mono hc.size); replace hd := hd.trans (hb8.mono hd.size); have p1 := (hc.cell (p := ⟨g2, 4, none⟩) p2).trans P1.out; have q1 := (hd.cell (p := ⟨g5, 9, none⟩) q2).trans Q1.out)))
  go_ret
  exact ⟨rfl, hb.trans (hc.mono hb.size)⟩

end Go.Proofs.YtiaoflagjaclmaaDoor
