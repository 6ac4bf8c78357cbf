/-
  What is done to a line of its own: outdent, list, Format's, free.
-/
import Derived.Test.YtmlipcedkgfmiaaDoorMine
import Derived.Test.YtmlipcedkgfmiaaDoorAsk
import Derived.IntWalk
namespace Go.Proofs.YtmlipcedkgfmiaaDoor
open Go.RowKit Go.Lib

def outdentS (L : Ln) : Int × Ln := if 0 < L.ls.length then (0, { L with ls := L.ls.take (L.ls.length - 1) }) else if 0 < L.q then (0, { L with q := L.q - 1 }) else (7, ln0)
def listS (kind : Int) (L : Ln) : Int × Ln := if L.ls.length = 0 then (0, { L with ls := [kind], k := 0 }) else if L.ls[L.ls.length - 1]! = kind then (7, ln0) else (0, { L with ls := L.ls.set (L.ls.length - 1) kind })
def formatS (kind : Int) (L : Ln) : Int × Ln := if 0 < L.ls.length ∨ L.k = kind then (7, ln0) else (0, { L with k := kind })
def freeS (L : Ln) : Int × Ln := if L.k = 0 then outdentS L else (0, { L with k := 0 })
/-- What a call does to the line in block b. -/
def DoPost (B b : Nat) (r : Int × Ln) (w : World) (e : Ending) (w' : World) : Prop :=
  e = .returned (.int .i64 r.1) ∧ Below B w w' ∧ (r.1 = 0 → ∃ sl sc, BoxAt w' b r.2.q sl r.2.k sc ∧ MineLn B w'.heap.size w' sl sc r.2.ls r.2.cs)

theorem mineZ_take {B C : Nat} {w : World} {g o c : Nat} {ls : IRow} (h : MineZ B C w (.slice (some ⟨g, o, none⟩) ls.length c) ls) (n : Nat) (hn : n ≤ ls.length) (h0 : 0 < n) : MineZ B C w (.slice (some ⟨g, o, none⟩) n n) (ls.take n) := by
  have hl : 0 < ls.length := by omega
  obtain ⟨m1, m2, m3⟩ := h.mine hl g o _ _ rfl
  obtain ⟨b', o', c', h1, h2, h3, h4, h5⟩ := h.here.lies hl
  simp only [Value.slice.injEq, Option.some.injEq, Addr.mk.injEq, and_true, true_and] at h1
  obtain ⟨⟨rfl, rfl⟩, rfl⟩ := h1
  have hln : (ls.take n).length = n := by simp; omega
  refine ⟨.inr ⟨g, o, n, by rw [hln], by omega, by omega, h4, ?_⟩, fun _ g' o' n' c' e => ?_⟩
  · have := h5.part 0 n (by omega)
    simpa using this
  · simp only [Value.slice.injEq, Option.some.injEq, Addr.mk.injEq, and_true] at e
    obtain ⟨⟨rfl, rfl⟩, _⟩ := e
    exact ⟨m1, m2, fun j hj => m3 j (by omega)⟩
theorem mineZ_nil (B C : Nat) (w : World) (g o : Nat) : MineZ B C w (.slice (some ⟨g, o, none⟩) 0 0) [] := ⟨.inl ⟨_, _, rfl, (fun h => by cases h), by decide, rfl⟩, fun h => absurd h (by decide)⟩
theorem mineZ_zero {w : World} {B C B' C' : Nat} {v : Value} {ls : IRow} (h : MineZ B C w v ls) (h0 : ls.length = 0) : MineZ B' C' w v ls := ⟨h.here, fun hl => absurd hl (by omega)⟩

theorem BoxAt.set0 {w : World} {b : Nat} {q k : Int} {sl sc : Value} (h : BoxAt w b q sl k sc) (u : Int) : BoxAt (w.setCell ⟨b, 0, none⟩ (.int .i64 u)) b u sl k sc := by
  obtain ⟨lt, c0, c1, c2, c3, f0, f1, f2, f3⟩ := h
  refine ⟨by simpa [World.setCell] using lt, ?_, ?_, ?_, ?_, ?_, ?_, ?_, ?_⟩ <;> simp [go_sem, *]
theorem BoxAt.set1 {w : World} {b : Nat} {q k : Int} {sl sc : Value} (h : BoxAt w b q sl k sc) (u : Value) : BoxAt (w.setCell ⟨b, 1, none⟩ u) b q u k sc := by
  obtain ⟨lt, c0, c1, c2, c3, f0, f1, f2, f3⟩ := h
  refine ⟨by simpa [World.setCell] using lt, ?_, ?_, ?_, ?_, ?_, ?_, ?_, ?_⟩ <;> simp [go_sem, *]
theorem BoxAt.set2 {w : World} {b : Nat} {q k : Int} {sl sc : Value} (h : BoxAt w b q sl k sc) (u : Int) : BoxAt (w.setCell ⟨b, 2, none⟩ (.int .i64 u)) b q sl u sc := by
  obtain ⟨lt, c0, c1, c2, c3, f0, f1, f2, f3⟩ := h
  refine ⟨by simpa [World.setCell] using lt, ?_, ?_, ?_, ?_, ?_, ?_, ?_, ?_⟩ <;> simp [go_sem, *]
theorem BoxAt.set3 {w : World} {b : Nat} {q k : Int} {sl sc : Value} (h : BoxAt w b q sl k sc) (u : Value) : BoxAt (w.setCell ⟨b, 3, none⟩ u) b q sl k u := by
  obtain ⟨lt, c0, c1, c2, c3, f0, f1, f2, f3⟩ := h
  refine ⟨by simpa [World.setCell] using lt, ?_, ?_, ?_, ?_, ?_, ?_, ?_, ?_⟩ <;> simp [go_sem, *]
theorem mine_box {B C : Nat} {w : World} {b j : Nat} {sl sc : Value} {ls : IRow} {cs : Row} (h : MineLn B C w sl sc ls cs) (hC : C ≤ b) (hb : b < w.heap.size) (u : Value) : MineLn B (w.setCell ⟨b, j, none⟩ u).heap.size (w.setCell ⟨b, j, none⟩ u) sl sc ls cs :=
  (h.kept (kept_set w ⟨b, j, none⟩ u (.inr hC))).mono (Nat.le_refl _) (by simp [World.setCell]; omega)
theorem below_box {B C b j : Nat} {w : World} (hBC : B ≤ C) (hC : C ≤ b) (u : Value) : Below B w (w.setCell ⟨b, j, none⟩ u) := (Below.refl _ w).setCell (p := ⟨b, j, none⟩) (Nat.le_trans hBC hC) _

set_option maxHeartbeats 4000000 in
theorem outdent_any (q k : Int) (sl sc : Value) (ls : IRow) (cs : Row) (B C b : Nat) (w : World) (HB : BoxAt w b q sl k sc) (HM : MineLn B C w sl sc ls cs) (hBC : B ≤ C) (hC : C ≤ b) (hq : 0 ≤ q ∧ q ≤ 6) :
    Calls Tryd.prog 53 #[.pointer (some ⟨b, 0, none⟩)] w (DoPost B b (outdentS ⟨q, ls, k, cs⟩) w) := by
  have hbl := HB.lt
  have HB' := Lib.hid HB
  obtain ⟨_, x0, x1, x2, x3, y0, y1, y2, y3⟩ := HB
  obtain ⟨a, c, e1, hnc, hcm⟩ := HM.z.here.cap
  unfold maxLen at hcm
  obtain ⟨hq1, hq2⟩ := hq
  by_cases h0 : 0 < ls.length
  · obtain ⟨g, o, c', e2, _⟩ := HM.z.here.lies h0
    rw [e1] at e2
    simp only [Value.slice.injEq] at e2
    obtain ⟨rfl, _, rfl⟩ := e2
    subst e1
    have eS : outdentS ⟨q, ls, k, cs⟩ = (0, ⟨q, ls.take (ls.length - 1), k, cs⟩) := by unfold outdentS; rw [if_pos h0]
    rw [eS]
    have HZ : MineZ B C w (.slice (some ⟨g, o, none⟩) (ls.length - 1) (ls.length - 1)) (ls.take (ls.length - 1)) := by
      by_cases h1 : ls.length - 1 = 0
      · rw [h1, List.take_zero]; exact mineZ_nil _ _ _ _ _
      · exact mineZ_take HM.z _ (by omega) (by omega)
    have HM2 : MineLn B C w (.slice (some ⟨g, o, none⟩) (ls.length - 1) (ls.length - 1)) sc (ls.take (ls.length - 1)) cs := by
      refine ⟨HZ, HM.r, fun _ h2 g1 o1 n1 c1 g2 o2 n2 c2 e e' => ?_⟩
      simp only [Value.slice.injEq, Option.some.injEq, Addr.mk.injEq, and_true] at e
      obtain ⟨⟨rfl, rfl⟩, _⟩ := e
      exact HM.ap h0 h2 _ _ _ _ _ _ _ _ rfl e'
    obtain ⟨n, hn⟩ : ∃ n, ls.length = n + 1 := ⟨ls.length - 1, by omega⟩
    rw [hn, Nat.add_sub_cancel] at HM2
    have HM' := Lib.hid HM2
    rw [hn] at x1 hnc HB' ⊢
    have hw1 : IntKind.i64.wrap (((n + 1 : Nat) : Int) - 1) = (n : Int) := by rw [IntWalk.i64_in _ (by omega)]; omega
    clear HM HM2 HZ hn h0 eS
    go_enter Tryd.func53, Tryd.ntmps53
    go_wp2
    go_ret
    exact ⟨rfl, below_box hBC hC _, fun _ => ⟨_, _, HB'.out.set1 _, mine_box HM'.out hC hbl _⟩⟩
  · subst e1
    have hn : ls.length = 0 := by omega
    have HM' := Lib.hid HM
    by_cases h1 : 0 < q
    · have eS : outdentS ⟨q, ls, k, cs⟩ = (0, ⟨q - 1, ls, k, cs⟩) := by unfold outdentS; rw [if_neg h0, if_pos h1]
      rw [eS]
      rw [hn] at x1 HB' HM'
      have hw1 : IntKind.i64.wrap (q - 1) = q - 1 := IntWalk.i64_in _ (by omega)
      clear HM hn h0 eS
      go_enter Tryd.func53, Tryd.ntmps53
      go_wp2
      go_ret
      exact ⟨rfl, below_box hBC hC _, fun _ => ⟨_, _, HB'.out.set0 _, mine_box HM'.out hC hbl _⟩⟩
    · have eS : outdentS ⟨q, ls, k, cs⟩ = (7, ln0) := by unfold outdentS; rw [if_neg h0, if_neg h1]
      rw [eS]
      rw [hn] at x1
      clear HM hn h0 eS
      go_enter Tryd.func53, Tryd.ntmps53
      go_wp2
      go_ret
      exact ⟨rfl, Below.refl _ _, fun h => absurd h (by decide)⟩

set_option maxHeartbeats 4000000 in
theorem free_any (q k : Int) (sl sc : Value) (ls : IRow) (cs : Row) (B C b : Nat) (w : World) (HB : BoxAt w b q sl k sc) (HM : MineLn B C w sl sc ls cs) (hBC : B ≤ C) (hC : C ≤ b) (hq : 0 ≤ q ∧ q ≤ 6) :
    Calls Tryd.prog 57 #[.pointer (some ⟨b, 0, none⟩)] w (DoPost B b (freeS ⟨q, ls, k, cs⟩) w) := by
  have cO := outdent_any q k sl sc ls cs B C b w HB HM hBC hC hq
  have hbl := HB.lt
  have HB' := Lib.hid HB
  obtain ⟨_, x0, x1, x2, x3, y0, y1, y2, y3⟩ := HB
  by_cases h0 : k = 0
  · have eS : freeS ⟨q, ls, k, cs⟩ = outdentS ⟨q, ls, k, cs⟩ := by unfold freeS; rw [if_pos h0]
    rw [eS]
    obtain ⟨R, hR⟩ : ∃ R, outdentS ⟨q, ls, k, cs⟩ = R := ⟨_, rfl⟩
    rw [hR] at cO ⊢
    subst h0
    clear HM eS hR HB'
    go_enter Tryd.func57, Tryd.ntmps57
    go_wp2_with (go_at_call 53; ((with_reducible refine cO.mono ?_); rintro e w1 ⟨rfl, hb1, hr⟩))
    go_ret
    exact ⟨rfl, hb1, hr⟩
  · have eS : freeS ⟨q, ls, k, cs⟩ = (0, ⟨q, ls, 0, cs⟩) := by unfold freeS; rw [if_neg h0]
    rw [eS]
    have HM' := Lib.hid HM
    have h1 : (k != 0) = true := by simpa using h0
    clear HM eS cO
    go_enter Tryd.func57, Tryd.ntmps57
    go_wp2
    go_ret
    exact ⟨rfl, below_box hBC hC _, fun _ => ⟨_, _, HB'.out.set2 _, mine_box HM'.out hC hbl _⟩⟩

set_option maxHeartbeats 4000000 in
theorem format_do (q k kind : Int) (sl sc : Value) (ls : IRow) (cs : Row) (B C b K : Nat) (w : World) (HB : BoxAt w b q sl k sc) (HM : MineLn B C w sl sc ls cs) (hBC : B ≤ C) (hC : C ≤ b) (hK : w.cell? ⟨K, 0, none⟩ = some (.int .i64 kind)) :
    Calls Tryd.prog 56 #[.pointer (some ⟨b, 0, none⟩), .pointer (some ⟨K, 0, none⟩)] w (DoPost B b (if upB kind 3 = true then formatS kind ⟨q, ls, k, cs⟩ else (1, ln0)) w) := by
  have cU := upTo_any kind 3
  have hbl := HB.lt
  have HB' := Lib.hid HB
  obtain ⟨_, x0, x1, x2, x3, y0, y1, y2, y3⟩ := HB
  obtain ⟨a, c, e1, hnc, hcm⟩ := HM.z.here.cap
  subst e1
  unfold maxLen at hcm
  have HM' := Lib.hid HM
  clear HM
  cases hU : upB kind 3 with
  | false =>
    rw [hU] at cU
    rw [if_neg (by decide)]
    clear hU
    go_enter Tryd.func56, Tryd.ntmps56
    go_wp2_with (go_at_call 37; ((with_reducible refine (cU _).mono ?_); rintro e w1 ⟨rfl, rfl⟩))
    go_ret
    exact ⟨rfl, Below.refl _ _, fun h => absurd h (by decide)⟩
  | true =>
    rw [hU] at cU
    rw [if_pos rfl]
    clear hU
    unfold formatS
    obtain ⟨n, hn⟩ : ∃ n, ls.length = n := ⟨_, rfl⟩
    rw [hn] at x1 hnc HB' HM'
    dsimp only
    rw [hn]
    clear hn
    by_cases h0 : 0 < n
    · have hI : (0 : Int) < (n : Int) := by omega
      rw [if_pos (.inl h0)]
      go_enter Tryd.func56, Tryd.ntmps56
      go_wp2_with (go_at_call 37; ((with_reducible refine (cU _).mono ?_); rintro e w1 ⟨rfl, rfl⟩))
      go_quiet (fail)
      go_wp2
      go_ret
      exact ⟨rfl, below_draws _ _ |>.mono (by omega), fun h => absurd h (by decide)⟩
    · have hn : n = 0 := by omega
      subst hn
      by_cases h1 : k = kind
      · rw [if_pos (.inr h1)]
        subst h1
        go_enter Tryd.func56, Tryd.ntmps56
        go_wp2_with (go_at_call 37; ((with_reducible refine (cU _).mono ?_); rintro e w1 ⟨rfl, rfl⟩))
        go_quiet (fail)
        go_wp2
        go_ret
        exact ⟨rfl, below_draws _ _ |>.mono (by omega), fun h => absurd h (by decide)⟩
      · rw [if_neg (fun h => h.elim h0 h1)]
        have h2 : (k == kind) = false := by simpa using h1
        go_enter Tryd.func56, Tryd.ntmps56
        go_wp2_with (go_at_call 37; ((with_reducible refine (cU _).mono ?_); rintro e w1 ⟨rfl, rfl⟩))
        go_quiet (fail)
        go_wp2
        go_ret
        exact ⟨rfl, ((below_draws w _).mono (by omega)).trans (below_box hBC hC _), fun _ => ⟨_, _, (HB'.out.below (below_draws w _)).set2 _, mine_box (HM'.out.below (below_draws w _)) hC (Nat.lt_of_lt_of_le hbl (below_draws w _).size) _⟩⟩

end Go.Proofs.YtmlipcedkgfmiaaDoor
