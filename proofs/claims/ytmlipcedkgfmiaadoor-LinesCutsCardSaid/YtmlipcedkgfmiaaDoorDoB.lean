/-
  What is done to a line of its own: list, List's; Join's.
-/
import Derived.Test.YtmlipcedkgfmiaaDoorDo
namespace Go.Proofs.YtmlipcedkgfmiaaDoor
open Go.RowKit Go.Lib

theorem MineR.keptAt {B C : Nat} {w w' : World} {v : Value} {cs : Row} (h : MineR B C w v cs) (hs : w.heap.size ≤ w'.heap.size) (hk : 0 < cs.length → ∀ g o n c, v = .slice (some ⟨g, o, none⟩) n c → w'.heap[g]? = w.heap[g]?) : MineR B C w' v cs := by
  by_cases hl : 0 < cs.length
  · obtain ⟨b, o, c, h1, h2, h3, h4, h5⟩ := h.here.lies hl
    have e := hk hl b o _ c h1
    refine ⟨.inr ⟨b, o, c, h1, h2, h3, Nat.lt_of_lt_of_le h4 hs, fun j hj => ?_⟩, fun _ g' o' n' c' e' => ?_⟩
    · obtain ⟨x1, x2, x3⟩ := h5 j hj
      exact ⟨(World.cell?_of_block (w := w) (a := ⟨b, _, none⟩) e).trans x1, (World.cell?_of_block (w := w) (a := ⟨b, _, none⟩) e).trans x2, (World.cell?_of_block (w := w) (a := ⟨b, _, none⟩) e).trans x3⟩
    · obtain ⟨m1, m2, m3⟩ := h.mine hl g' o' n' c' e'
      exact ⟨m1, m2, fun j hj => (World.frozen?_of_block (w := w) (a := ⟨g', _, none⟩) (hk hl _ _ _ _ e')).trans (m3 j hj)⟩
  · rcases h.here with h1 | ⟨b, o, c, h1, h2, h3, h4, h5⟩
    · exact ⟨.inl h1, fun h => absurd h hl⟩
    · exact ⟨.inr ⟨b, o, c, h1, h2, h3, Nat.lt_of_lt_of_le h4 hs, fun j hj => absurd hj (by omega)⟩, fun h => absurd h hl⟩
theorem mineLn_set {B C : Nat} {w : World} {g o c n : Nat} {sc : Value} {ls : IRow} {cs : Row} (h : MineLn B C w (.slice (some ⟨g, o, none⟩) n c) sc ls cs) (j : Nat) (hj : j < ls.length) (u : Int) :
    MineLn B C (w.setCell ⟨g, o + j, none⟩ (.int .i64 u)) (.slice (some ⟨g, o, none⟩) n c) sc (ls.set j u) cs := by
  have hl : 0 < ls.length := by omega
  obtain ⟨m1, m2, m3⟩ := h.z.mine hl g o n c rfl
  obtain ⟨b', o', c', h1, h2, h3, h4, h5⟩ := h.z.here.lies hl
  simp only [Value.slice.injEq, Option.some.injEq, Addr.mk.injEq, and_true] at h1
  obtain ⟨⟨rfl, rfl⟩, rfl, rfl⟩ := h1
  refine ⟨⟨.inr ⟨g, o, c, by rw [List.length_set], by rw [List.length_set]; exact h2, h3, by simpa [World.setCell] using h4, fun i hi => ?_⟩, fun _ g' o' n' c' e => ?_⟩, ?_, ?_⟩
  · rw [List.length_set] at hi
    have hx := h5 i hi
    by_cases e : i = j
    · subst e
      have hgi : (ls.set i u)[i]! = u := by rw [List.getElem!_eq_getElem?_getD, List.getElem?_set_self hi]; rfl
      rw [hgi]
      simp [go_sem, hx]
    · have hgi : (ls.set j u)[i]! = ls[i]! := by rw [List.getElem!_eq_getElem?_getD, List.getElem!_eq_getElem?_getD, List.getElem?_set_ne (by omega)]
      rw [hgi, ← hx]
      first
        | (simp [go_sem]; done)
        | (simp [go_sem]; omega)
        | (simp [go_sem]; intro h; exact absurd h.symm e)
  · simp only [Value.slice.injEq, Option.some.injEq, Addr.mk.injEq, and_true] at e
    obtain ⟨⟨rfl, rfl⟩, _⟩ := e
    exact ⟨m1, m2, fun i hi => by rw [List.length_set] at hi; have := m3 i hi; simpa [go_sem] using this⟩
  · refine h.r.keptAt (by simp [World.setCell]) (fun hc g' o' n' c' e => ?_)
    exact Below.heap_setCell w _ _ _ (fun e2 => h.ap hl hc _ _ _ _ _ _ _ _ rfl e e2.symm)
  · intro h1 h2
    exact h.ap (by rw [List.length_set] at h1; exact h1) h2
theorem cell_blkZ {w : World} {g : Nat} {cs : Array Value} {t : TypeId} (h : w.heap[g]? = some (.cells cs t)) (j : Nat) (v : Value) (hv : cs[j]? = some v) : w.cell? ⟨g, j, none⟩ = some v := by
  rw [cell_of_row w g j cs t (0, 0) h]; exact hv
/-- Ints in a block that was just made. -/
theorem mineZ_new (B : Nat) (w : World) (l : IRow) (n : Nat) (cs : Array Value) (t : TypeId) (hcs : cs.toList = cellsZ l) (hn : l.length = n) (hB : B ≤ w.heap.size) (hl : n ≤ 1000) : MineZ B (w.heap.size + 1) (w.alloc (.cells cs t)) (.slice (some ⟨w.heap.size, 0, none⟩) n n) l := by
  subst hn
  refine ⟨.inr ⟨w.heap.size, 0, l.length, rfl, Nat.le_refl _, by unfold maxLen; omega, by simp, Ints.of_flat (fun j u hu => ?_)⟩, fun _ g o n c e => ?_⟩
  · rw [Nat.zero_add]
    exact cell_blkZ (World.alloc_heap_new w _) j u (by rw [← Array.getElem?_toList, hcs]; exact hu)
  · simp only [Value.slice.injEq, Option.some.injEq, Addr.mk.injEq, and_true] at e
    obtain ⟨⟨rfl, rfl⟩, _⟩ := e
    exact ⟨hB, by omega, fun j _ => frozen_cells (World.alloc_heap_new w _) _⟩

set_option maxHeartbeats 4000000 in
theorem list_any (q k kind : Int) (sl sc : Value) (ls : IRow) (cs : Row) (B C b : Nat) (w : World) (HB : BoxAt w b q sl k sc) (HM : MineLn B C w sl sc ls cs) (hBC : B ≤ C) (hC : C ≤ b) (hls : ls.length ≤ 100) :
    Calls Tryd.prog 55 #[.pointer (some ⟨b, 0, none⟩), .int .i64 kind] w (DoPost B b (listS kind ⟨q, ls, k, cs⟩) w) := by
  have hbl := HB.lt
  have HB' := Lib.hid HB
  obtain ⟨_, x0, x1, x2, x3, y0, y1, y2, y3⟩ := HB
  obtain ⟨a, c, e1, hnc, hcm⟩ := HM.z.here.cap
  subst e1
  unfold maxLen at hcm
  have HM' := Lib.hid HM
  by_cases h0 : ls.length = 0
  · have eS : listS kind ⟨q, ls, k, cs⟩ = (0, ⟨q, [kind], 0, cs⟩) := by unfold listS; rw [if_pos h0]
    rw [eS]
    have hX : ∀ w2 cs1 w1, cs1 = #[Value.int .i64 kind] → w2 = ((w.setCell ⟨b, 1, none⟩ (.slice (some ⟨w.heap.size, 0, none⟩) 1 1)).setCell ⟨b, 2, none⟩ (.int .i64 0)) → w1 = w2.alloc (.cells cs1 3) → Below B w w1 ∧ BoxAt w1 b q (.slice (some ⟨w.heap.size, 0, none⟩) 1 1) 0 sc ∧ MineLn B w1.heap.size w1 (.slice (some ⟨w.heap.size, 0, none⟩) 1 1) sc [kind] cs := by
      rintro w2 cs1 w1 rfl e2 rfl
      have hsz : w2.heap.size = w.heap.size := by rw [e2]; simp [World.setCell]
      have hz := mineZ_new B w2 [kind] 1 #[Value.int .i64 kind] 3 rfl rfl (by omega) (by decide)
      rw [hsz] at hz
      have b2 : Below w2.heap.size w2 (w2.alloc (.cells #[Value.int .i64 kind] 3)) := (Below.refl _ w2).alloc (Nat.le_refl _) _
      have hr : MineR B C w2 sc cs := by rw [e2]; exact (HM.r.kept (kept_set _ ⟨b, 1, none⟩ _ (.inr hC))).kept (kept_set _ ⟨b, 2, none⟩ _ (.inr hC))
      have hbx : BoxAt w2 b q (.slice (some ⟨w.heap.size, 0, none⟩) 1 1) 0 sc := by rw [e2]; exact (HB'.out.set1 _).set2 0
      have hbe : Below B w w2 := by rw [e2]; exact ((Below.refl B w).setCell (p := ⟨b, 1, none⟩) (Nat.le_trans hBC hC) _).setCell (p := ⟨b, 2, none⟩) (Nat.le_trans hBC hC) _
      have hs1 : (w2.alloc (.cells #[Value.int .i64 kind] 3)).heap.size = w.heap.size + 1 := by simp [hsz]
      refine ⟨hbe.trans (b2.mono (by omega)), hbx.below b2, ⟨hz.mono (Nat.le_refl _) (by omega), (hr.kept (kept_of_below b2)).mono (Nat.le_refl _) (by omega), ?_⟩⟩
      intro _ h2 g o n c g' o' n' c' e e' hgg
      simp only [Value.slice.injEq, Option.some.injEq, Addr.mk.injEq, and_true] at e
      obtain ⟨⟨rfl, _⟩, _⟩ := e
      have := (HM.r.mine h2 _ _ _ _ e').2.1
      omega
    rw [h0] at x1 hnc
    have HX := Lib.hid hX
    clear HM HM' hX h0 eS HB'
    go_enter Tryd.func55, Tryd.ntmps55
    go_wp2
    go_ret
    obtain ⟨r1, r2, r3⟩ := HX.out _ _ _ rfl rfl rfl
    exact ⟨rfl, r1, fun _ => ⟨_, _, r2, r3⟩⟩
  · obtain ⟨g, o, c', e2, _, _, hgl, hIn⟩ := HM.z.here.lies (by omega)
    simp only [Value.slice.injEq, true_and] at e2
    obtain ⟨rfl, rfl⟩ := e2
    obtain ⟨m1, m2, m3⟩ := HM.z.mine (by omega) g o _ _ rfl
    have f1 := m3 (ls.length - 1) (by omega)
    have d1 := hIn (ls.length - 1) (by omega)
    have HS := Lib.hid (mineLn_set HM (ls.length - 1) (by omega) kind)
    have eS : listS kind ⟨q, ls, k, cs⟩ = if ls[ls.length - 1]! = kind then (7, ln0) else (0, ⟨q, ls.set (ls.length - 1) kind, k, cs⟩) := by unfold listS; rw [if_neg h0]
    rw [eS]
    obtain ⟨n, hn⟩ : ∃ n, ls.length = n + 1 := ⟨ls.length - 1, by omega⟩
    rw [hn, Nat.add_sub_cancel] at f1 d1 HS ⊢
    rw [hn] at x1 hnc HB' hls
    have hgb : g ≠ b := by omega
    have hw1 : IntKind.i64.wrap (((n + 1 : Nat) : Int) - 1) = (n : Int) := by rw [IntWalk.i64_in _ (by omega)]; omega
    have hn0 : ¬ ((n : Int) < 0) := by omega
    obtain ⟨X, hX⟩ : ∃ X, ls[n]! = X := ⟨_, rfl⟩
    rw [hX] at d1 ⊢
    clear HM HM' h0 eS hn m3 hIn hX
    by_cases hk : X = kind
    · subst hk
      rw [if_pos rfl]
      go_enter Tryd.func55, Tryd.ntmps55
      go_wp2
      go_ret
      exact ⟨rfl, Below.refl _ _, fun h => absurd h (by decide)⟩
    · rw [if_neg hk]
      have hk2 : (X == kind) = false := by simpa using hk
      go_enter Tryd.func55, Tryd.ntmps55
      go_wp2
      go_ret
      exact ⟨rfl, (Below.refl _ w).setCell (p := ⟨g, _, none⟩) m1 _, fun _ => ⟨_, _, HB'.out.far hgb _, HS.out.mono (Nat.le_refl _) (by simp [World.setCell]; omega)⟩⟩
theorem list_do (q k kind : Int) (sl sc : Value) (ls : IRow) (cs : Row) (B C b K : Nat) (w : World) (HB : BoxAt w b q sl k sc) (HM : MineLn B C w sl sc ls cs) (hBC : B ≤ C) (hC : C ≤ b) (hls : ls.length ≤ 100) (hK : w.cell? ⟨K, 0, none⟩ = some (.int .i64 kind)) :
    Calls Tryd.prog 54 #[.pointer (some ⟨b, 0, none⟩), .pointer (some ⟨K, 0, none⟩)] w (DoPost B b (if upB kind 1 = true then listS kind ⟨q, ls, k, cs⟩ else (1, ln0)) w) := by
  have cU := upTo_any kind 1
  have cL := list_any q k kind sl sc ls cs B C b w HB HM hBC hC hls
  have hbl := HB.lt
  clear HB HM
  cases hU : upB kind 1 with
  | false =>
    rw [hU] at cU
    rw [if_neg (by decide)]
    clear hU cL
    go_enter Tryd.func54, Tryd.ntmps54
    go_wp2_with (go_at_call 37; ((with_reducible refine (cU _).mono ?_); rintro e w1 ⟨rfl, rfl⟩))
    go_ret
    exact ⟨rfl, Below.refl _ _, fun h => absurd h (by decide)⟩
  | true =>
    rw [hU] at cU
    rw [if_pos rfl]
    obtain ⟨R, hR⟩ : ∃ R, listS kind ⟨q, ls, k, cs⟩ = R := ⟨_, rfl⟩
    rw [hR] at cL ⊢
    clear hU hR
    go_enter Tryd.func54, Tryd.ntmps54
    go_wp2_with (first
      | (go_at_call 37; ((with_reducible refine (cU _).mono ?_); rintro e w1 ⟨rfl, rfl⟩))
      | (go_at_call 55; ((with_reducible refine cL.mono ?_); rintro e w1 ⟨rfl, hb1, hr⟩)))
    go_ret
    exact ⟨rfl, hb1, hr⟩

end Go.Proofs.YtmlipcedkgfmiaaDoor
