/-
  is: an answer is the document's; it is written over then.
-/
import Derived.Test.YtmlipcedkgfmiaaDoorLSame
import Derived.Test.YtmlipcedkgfmiaaDoorDoB
namespace Go.Proofs.YtmlipcedkgfmiaaDoor
open Go.RowKit Go.Lib

theorem MineZ.keptAt {B C : Nat} {w w' : World} {v : Value} {ls : IRow} (h : MineZ B C w v ls) (hs : w.heap.size ≤ w'.heap.size) (hk : 0 < ls.length → ∀ g o n c, v = .slice (some ⟨g, o, none⟩) n c → w'.heap[g]? = w.heap[g]?) : MineZ B C w' v ls := by
  by_cases hl : 0 < ls.length
  · obtain ⟨b, o, c, h1, h2, h3, h4, h5⟩ := h.here.lies hl
    have e := hk hl b o _ c h1
    refine ⟨.inr ⟨b, o, c, h1, h2, h3, Nat.lt_of_lt_of_le h4 hs, fun j hj => ?_⟩, fun _ g' o' n' c' e' => ?_⟩
    · exact (World.cell?_of_block (w := w) (a := ⟨b, _, none⟩) e).trans (h5 j hj)
    · obtain ⟨m1, m2, m3⟩ := h.mine hl g' o' n' c' e'
      exact ⟨m1, m2, fun j hj => (World.frozen?_of_block (w := w) (a := ⟨g', _, none⟩) (hk hl _ _ _ _ e')).trans (m3 j hj)⟩
  · rcases h.here with h1 | ⟨b, o, c, h1, h2, h3, h4, h5⟩
    · exact ⟨.inl h1, fun h => absurd h hl⟩
    · exact ⟨.inr ⟨b, o, c, h1, h2, h3, Nat.lt_of_lt_of_le h4 hs, fun j hj => absurd hj (by omega)⟩, fun h => absurd h hl⟩
theorem mineLn_setR {B C : Nat} {w : World} {g o c n : Nat} {sl : Value} {ls : IRow} {cs : Row} (h : MineLn B C w sl (.slice (some ⟨g, o, none⟩) n c) ls cs) (j : Nat) (hj : j < cs.length) (u : Int) :
    MineLn B C (w.setCell ⟨g, o + j * 3 + 1, none⟩ (.int .i64 u)) sl (.slice (some ⟨g, o, none⟩) n c) ls (cs.set j ((cs[j]!).1, u, (cs[j]!).2.2)) := by
  have hl : 0 < cs.length := by omega
  obtain ⟨m1, m2, m3⟩ := h.r.mine hl g o n c rfl
  obtain ⟨b', o', c', h1, h2, h3, h4, h5⟩ := h.r.here.lies hl
  simp only [Value.slice.injEq, Option.some.injEq, Addr.mk.injEq, and_true] at h1
  obtain ⟨⟨rfl, rfl⟩, rfl, rfl⟩ := h1
  refine ⟨?_, ⟨.inr ⟨g, o, c, by rw [List.length_set], by rw [List.length_set]; exact h2, h3, by simpa [World.setCell] using h4, fun i hi => ?_⟩, fun _ g' o' n' c' e => ?_⟩, ?_⟩
  · refine h.z.keptAt (by simp [World.setCell]) (fun hc g' o' n' c' e => ?_)
    exact Below.heap_setCell w _ _ _ (fun e2 => h.ap hc hl _ _ _ _ _ _ _ _ e rfl e2)
  · rw [List.length_set] at hi
    obtain ⟨x1, x2, x3⟩ := h5 i hi
    by_cases e : i = j
    · subst e
      have hgi : (cs.set i ((cs[i]!).1, u, (cs[i]!).2.2))[i]! = ((cs[i]!).1, u, (cs[i]!).2.2) := by rw [List.getElem!_eq_getElem?_getD (l := cs.set i _), List.getElem?_set_self hi]; rfl
      rw [hgi]
      refine ⟨?_, ?_, ?_⟩
      · rw [← x1]; simp [go_sem]
      · simp [go_sem, x2]
      · rw [← x3]; simp [go_sem]
    · have hgi : ∀ x : Ce, (cs.set j x)[i]! = cs[i]! := fun x => by rw [List.getElem!_eq_getElem?_getD, List.getElem!_eq_getElem?_getD, List.getElem?_set_ne (by omega)]
      rw [hgi]
      refine ⟨?_, ?_, ?_⟩
      · rw [← x1]; simp [go_sem]; try omega
      · rw [← x2]; simp [go_sem]; try omega
      · rw [← x3]; simp [go_sem]; try omega
  · simp only [Value.slice.injEq, Option.some.injEq, Addr.mk.injEq, and_true] at e
    obtain ⟨⟨rfl, rfl⟩, _⟩ := e
    exact ⟨m1, m2, fun i hi => by rw [List.length_set] at hi; have := m3 i hi; simpa [go_sem] using this⟩
  · intro h1 h2
    exact h.ap h1 (by rw [List.length_set] at h2; exact h2)

/-- Written over so far. -/
def IsR (B C b n1 n2 : Nat) (q k : Int) (s1 s2 : Value) (w wr : World) : Prop :=
  Twixt B C w wr ∧ BoxAt wr b q s1 k s2 ∧ ∃ ls' cs', ls'.length = n1 ∧ cs'.length = n2 ∧ MineLn B C wr s1 s2 ls' cs'

set_option maxRecDepth 20000 in
set_option maxHeartbeats 8000000 in
theorem is_any (q k er : Int) (sl sc sl' sc' : Value) (ls : IRow) (cs : Row) (B C : Nat) (w : World) (hM : MineLn B C w sl sc ls cs) (h' : LnAt w sl' sc' ls cs) (hC : C ≤ w.heap.size) (hls : ls.length ≤ 50000) (hcs : cs.length ≤ 50000) :
    Calls Tryd.prog 16 #[.agg #[.int .i64 q, sl, .int .i64 k, sc], .int .i64 er, .agg #[.int .i64 q, sl', .int .i64 k, sc'], .int .i64 er] w fun e w' => e = .returned (.bool true) ∧ Twixt B C w w' := by
  obtain ⟨a1, c1, e1, g1, g2⟩ := hM.z.here.cap
  obtain ⟨a2, c2, e2, g3, g4⟩ := hM.r.here.cap
  obtain ⟨a3, c3, e3⟩ := h'.z.len
  obtain ⟨a4, c4, e4⟩ := h'.r.len
  subst e1 e2 e3 e4
  unfold maxLen at g2 g4
  have cS : ∀ w1, Below w.heap.size w w1 → Calls Tryd.prog 15 #[.agg #[.int .i64 q, .slice a1 ls.length c1, .int .i64 k, .slice a2 cs.length c2], .agg #[.int .i64 q, .slice a3 ls.length c3, .int .i64 k, .slice a4 cs.length c4]] w1 fun e w' => e = .returned (.bool true) ∧ Below w1.heap.size w1 w' := fun w1 h1 => by
    have h := rlsame_any q k q k _ _ _ _ ls ls cs cs w1 (hM.at.below h1) (h'.below h1) hls hcs
    rwa [show sameL ⟨q, ls, k, cs⟩ ⟨q, ls, k, cs⟩ = true from decide_eq_true ⟨rfl, rfl, rfl, rfl⟩] at h
  have HX := Lib.hid (box_two w q k q k (.slice a1 ls.length c1) (.slice a2 cs.length c2) (.slice a3 ls.length c3) (.slice a4 cs.length c4))
  have HM := Lib.hid hM
  obtain ⟨n1, hn1⟩ : ∃ n, ls.length = n := ⟨_, rfl⟩
  obtain ⟨n2, hn2⟩ : ∃ n, cs.length = n := ⟨_, rfl⟩
  rw [hn1] at cS HX HM g1 hls ⊢
  rw [hn2] at cS HX HM g3 hcs ⊢
  have N1 := Lib.hid hn1
  have N2 := Lib.hid hn2
  clear hM h' hn1 hn2
  go_enter Tryd.func16, Tryd.ntmps16
  go_wp2_with (go_at_call 15; ((with_reducible refine (cS _ HX.out.1).mono ?_); rintro e w1 ⟨rfl, hb⟩; have bW := Lib.hid (HX.out.1.trans (hb.mono HX.out.1.size)); have HB0 := Lib.hid (HX.out.2.1.below hb); obtain ⟨_, x0, x1, x2, x3, _, _, _, _⟩ := HB0.out; clear hb))
  have HI : Hid (IsR B C w.heap.size n1 n2 q k (.slice a1 n1 c1) (.slice a2 n2 c2) w w1) := Lib.hid ⟨Twixt.of_below bW.out, HB0.out, ls, cs, N1.out, N2.out, HM.out.below bW.out⟩
  clear x0 x1 x2 x3
  go_loopw [10] (fun i wr => ∃ j : Nat, j ≤ n1 ∧ i = .int .i64 j ∧ Hid (IsR B C w.heap.size n1 n2 q k (.slice a1 n1 c1) (.slice a2 n2 c2) w wr)) (fun i _ => n1 - (RowKit.intOf i).toNat)
  case atStart => exact ⟨0, Nat.zero_le _, rfl, HI⟩
  case round =>
    obtain ⟨j, hj, rfl, HR⟩ := hrel
    obtain ⟨hT, hBx, ls', cs', hl1, hl2, hM⟩ := HR.out
    have hBx' := Lib.hid hBx
    obtain ⟨_, x0, x1, x2, x3, _, _, _, _⟩ := hBx
    by_cases hlt : j < n1
    · obtain ⟨g, o, c', e, hlc, hcm, hgl, hIn⟩ := hM.z.here.lies (by omega)
      rw [hl1] at e
      simp only [Value.slice.injEq, true_and] at e
      obtain ⟨rfl, rfl⟩ := e
      obtain ⟨m1, m2, m3⟩ := hM.z.mine (by omega) g o _ _ rfl
      have f1 := m3 j (by omega)
      have d1 := hIn j (by omega)
      have hgb : g ≠ w.heap.size := by omega
      have hkI : (j : Int) < (n1 : Int) := by omega
      have HS : Hid (IsR B C w.heap.size n1 n2 q k (.slice (some ⟨g, o, none⟩) n1 c1) (.slice a2 n2 c2) w (wr.setCell ⟨g, o + j, none⟩ (.int .i64 77))) :=
        Lib.hid ⟨hT.set m1 m2 _, hBx'.out.far hgb _, ls'.set j 77, cs', by rw [List.length_set]; exact hl1, hl2, mineLn_set hM j (by omega) 77⟩
      clear hM hT HR hIn m3 hl1 hl2 hBx'
      go_wp2
      go_roundw
      case rel => exact ⟨j + 1, hlt, by go_num, HS⟩
      case measure => simp [RowKit.intOf]; omega
    · have hjn : n1 = j := by omega
      subst hjn
      clear hM hT hBx' hl1
      go_wp2
      go_loopw [11] (fun i wr => ∃ j : Nat, j ≤ n2 ∧ i = .int .i64 j ∧ Hid (IsR B C w.heap.size n1 n2 q k (.slice a1 n1 c1) (.slice a2 n2 c2) w wr)) (fun i _ => n2 - (RowKit.intOf i).toNat)
      case atStart => exact ⟨0, Nat.zero_le _, rfl, HR⟩
      case round =>
        obtain ⟨i, hi, rfl, HR⟩ := hrel
        obtain ⟨hT, hBx, ls', cs', hl1, hl2, hM⟩ := HR.out
        have hBx' := Lib.hid hBx
        obtain ⟨_, x0, x1, x2, x3, _, _, _, _⟩ := hBx
        by_cases hlt : i < n2
        · obtain ⟨g, o, c', e, hlc, hcm, hgl, hIn⟩ := hM.r.here.lies (by omega)
          rw [hl2] at e
          simp only [Value.slice.injEq, true_and] at e
          obtain ⟨rfl, rfl⟩ := e
          obtain ⟨m1, m2, m3⟩ := hM.r.mine (by omega) g o _ _ rfl
          have f1 := m3 i (by omega)
          have d1 := (hIn i (by omega)).2.1
          have hgb : g ≠ w.heap.size := by omega
          have hkI : (i : Int) < (n2 : Int) := by omega
          have HS : Hid (IsR B C w.heap.size n1 n2 q k (.slice a1 n1 c1) (.slice (some ⟨g, o, none⟩) n2 c2) w (wr.setCell ⟨g, o + i * 3 + 1, none⟩ (.int .i64 77))) :=
            Lib.hid ⟨hT.set m1 m2 _, hBx'.out.far hgb _, ls', _, hl1, by rw [List.length_set]; exact hl2, mineLn_setR hM i (by omega) 77⟩
          clear hM hT HR hIn m3 hl1 hl2 hBx'
          go_wp2
          go_roundw
          case rel => exact ⟨i + 1, hlt, by go_num, HS⟩
          case measure => simp [RowKit.intOf]; omega
        · have hin : n2 = i := by omega
          subst hin
          have HT := Lib.hid hT
          clear hM hT HR hBx' hl1 hl2
          go_wp2
          go_ret
          exact ⟨rfl, HT.out⟩

end Go.Proofs.YtmlipcedkgfmiaaDoor
