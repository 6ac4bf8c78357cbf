/-
  The program's Join.
  The program's cut: a line's cells behind a place, as a line of their own.
-/
import Derived.Test.YtafincmcmgedbaaGreatDoorCAsking
import Derived.Test.YtafincmcmgedbaaGreatDoorCFit

namespace Go.Proofs.YtafincmcmgedbaaGreatDoor
open Go.RowKit Go.Lib

def joinS (M L : Ln) : Int × Ln := if mayS M = true then (0, { L with cs := L.cs ++ M.cs }) else (1, ln0)
theorem joinS_err (M L : Ln) : (joinS M L).1 ≠ 0 → (joinS M L).2 = ln0 := by unfold joinS; split <;> simp
/-- New cells are laid into the line's box. -/
theorem mine_newR {B C D b j : Nat} {w w' : World} {sl v sc : Value} {ls : IRow} {cs cs' : Row} (h : MineLn B C w sl sc ls cs) (hbw : Below w.heap.size w w') (ho : w'.ownsRow D 66 3 v cs'.length (cellsR cs')) (hD : w.heap.size ≤ D) (hC : C ≤ b) (hb : b < w.heap.size) (hB : B ≤ C) (u : Value) :
    MineLn B (w'.setCell ⟨b, j, none⟩ u).heap.size (w'.setCell ⟨b, j, none⟩ u) sl v ls cs' := by
  have hs := hbw.size
  have hz := (mineR_of_own ho).mono hD (Nat.le_refl _)
  refine ⟨((h.z.kept (kept_of_below hbw)).kept (kept_set w' ⟨b, j, none⟩ u (.inr hC))).mono (Nat.le_refl _) (by simp [World.setCell]; omega), (hz.kept (kept_set w' ⟨b, j, none⟩ u (.inl hb))).mono (by omega) (by simp [World.setCell]), ?_⟩
  intro h1 h2 g o n c g' o' n' c' e e' hgg
  have k1 := (hz.mine h2 _ _ _ _ e').1
  have k2 := (h.z.mine h1 _ _ _ _ e).2.1
  omega

theorem box_threeL (w : World) (q k q' k' q2 k2 : Int) (sl sc sl' sc' sl2 sc2 : Value) :
    Below w.heap.size w (((w.alloc (.cells #[.int .i64 q, sl, .int .i64 k, sc] 46)).alloc (.cells #[.int .i64 q2, sl2, .int .i64 k2, sc2] 46)).alloc (.cells #[.int .i64 q', sl', .int .i64 k', sc'] 46)) ∧
    BoxAt (((w.alloc (.cells #[.int .i64 q, sl, .int .i64 k, sc] 46)).alloc (.cells #[.int .i64 q2, sl2, .int .i64 k2, sc2] 46)).alloc (.cells #[.int .i64 q', sl', .int .i64 k', sc'] 46)) w.heap.size q sl k sc ∧
    BoxAt (((w.alloc (.cells #[.int .i64 q, sl, .int .i64 k, sc] 46)).alloc (.cells #[.int .i64 q2, sl2, .int .i64 k2, sc2] 46)).alloc (.cells #[.int .i64 q', sl', .int .i64 k', sc'] 46)) (w.heap.size + 1 + 1) q' sl' k' sc' ∧
    BoxAt (((w.alloc (.cells #[.int .i64 q, sl, .int .i64 k, sc] 46)).alloc (.cells #[.int .i64 q2, sl2, .int .i64 k2, sc2] 46)).alloc (.cells #[.int .i64 q', sl', .int .i64 k', sc'] 46)) (w.heap.size + 1) q2 sl2 k2 sc2 := by
  obtain ⟨h1, h2, h3⟩ := box_two w q k q2 k2 sl sc sl2 sc2
  have hs : ((w.alloc (.cells #[.int .i64 q, sl, .int .i64 k, sc] 46)).alloc (.cells #[.int .i64 q2, sl2, .int .i64 k2, sc2] 46)).heap.size = w.heap.size + 1 + 1 := by simp
  have h := box_new ((w.alloc (.cells #[.int .i64 q, sl, .int .i64 k, sc] 46)).alloc (.cells #[.int .i64 q2, sl2, .int .i64 k2, sc2] 46)) q' k' sl' sc'
  rw [hs] at h
  exact ⟨h1.alloc (by omega) _, h2.below ((Below.refl _ _).alloc (Nat.le_refl _) _), h, h3.below ((Below.refl _ _).alloc (Nat.le_refl _) _)⟩

end Go.Proofs.YtafincmcmgedbaaGreatDoor

namespace Go.Proofs.YtafincmcmgedbaaGreatDoor
open Go.RowKit Go.Lib

def zeroV : Value := .agg #[.int .i64 0, .slice none 0 0, .int .i64 0, .slice none 0 0]

set_option maxRecDepth 20000 in
set_option maxHeartbeats 4000000 in
theorem cutL_off (q k : Int) (sl sc : Value) (cs : Row) (b : Nat) (z : Int) (w : World) (HB : BoxAt w b q sl k sc) (hr : RowAt w sc cs) (h : fitB cs.length 0 z = false) :
    Calls Tryz.prog 115 #[.pointer (some ⟨b, 0, none⟩), .int .i64 z] w fun e w' => e = .returned (.tuple #[zeroV, .int .i64 1]) ∧ Below w.heap.size w w' := by
  obtain ⟨a2, c2, rfl⟩ := hr.len
  have cP : ∀ w1, Below w.heap.size w w1 → Calls Tryz.prog 72 #[.slice a2 cs.length c2, .int .i64 0, .int .i64 z] w1 fun e w' => e = .returned errV ∧ Below w1.heap.size w1 w' := fun w1 h1 => part_off _ cs 0 z w1 (hr.below h1) h
  unfold errV at cP
  unfold zeroV
  obtain ⟨n2, hn2⟩ : ∃ n, cs.length = n := ⟨_, rfl⟩
  rw [hn2] at cP HB
  obtain ⟨l0, x0, x1, x2, x3, _, _, _, _⟩ := HB
  have HR := Lib.hid (box_new w 0 0 (.slice none 0 0) (.slice none 0 0))
  have ba : ∀ o, Below w.heap.size w (w.alloc o) := fun o => (Below.refl _ w).alloc (Nat.le_refl _) _
  clear hr h hn2
  go_enter Tryz.func115, Tryz.ntmps115
  go_wp2_with (go_at_call 72; ((with_reducible refine (cP _ (ba _)).mono ?_); rintro e w2 ⟨rfl, hb⟩; obtain ⟨l1, u0, u1, u2, u3, v0, v1, v2, v3⟩ := HR.out.below hb; have hbw := Lib.hid ((ba _).trans (hb.mono (ba _).size))))
  exact bodyPost_ret (v := .tuple #[.agg #[.int .i64 0, .slice none 0 0, .int .i64 0, .slice none 0 0], .int .i64 1]) (by simp [results, Tryz.results115, go_sem, *]) rfl ⟨rfl, put4_below hbw.out (Nat.le_refl _)⟩

/-- What a cut answers, and leaves in the line's box. -/
def CutPost (B b : Nat) (at_ : Nat) (L : Ln) (sl : Value) (w : World) (e : Ending) (w' : World) : Prop :=
  ∃ D sc1 sl2 sc2, e = .returned (.tuple #[.agg #[.int .i64 L.q, sl2, .int .i64 (if at_ = L.cs.length then 0 else L.k), sc2], .int .i64 0]) ∧ BoxAt w' b L.q sl L.k sc1 ∧ MineLn B D w' sl sc1 L.ls (L.cs.take at_) ∧ MineLn D w'.heap.size w' sl2 sc2 L.ls (L.cs.drop at_) ∧ Below B w w' ∧ w.heap.size ≤ D ∧ D ≤ w'.heap.size

/-- The worlds of a cut, one behind the other: what stands in the end. -/
theorem cut_ends {B C b : Nat} {w w2 w3 w4 : World} {q k kk : Int} {sl sc v1 sl2 sc0 v2 : Value} {ls : IRow} {cs c1 c2 : Row} (HB : BoxAt w b q sl k sc) (HM : MineLn B C w sl sc ls cs) (hBC : B ≤ C) (hC : C ≤ b)
    (b2 : Below w.heap.size w w2) (s2 : w.heap.size < w2.heap.size) (o1 : w2.ownsRow (w.heap.size + 1) 66 3 v1 c1.length (cellsR c1)) (b3 : Below w2.heap.size w2 w3) (o2 : OwnLn w2.heap.size w3 sl2 sc0 ls [])
    (b4 : Below w3.heap.size w3 w4) (s4 : w3.heap.size < w4.heap.size) (o3 : w4.ownsRow (w3.heap.size + 1) 66 3 v2 c2.length (cellsR c2)) (w5 : World) (h5 : w5 = w4.setCell ⟨w3.heap.size, 3, none⟩ v2 ∨ w5 = (w4.setCell ⟨w3.heap.size, 3, none⟩ v2).setCell ⟨w3.heap.size, 2, none⟩ (.int .i64 0)) :
    BoxAt (put4 (w5.setCell ⟨b, 3, none⟩ v1) w.heap.size q sl2 kk v2) b q sl k v1 ∧ MineLn B w2.heap.size (put4 (w5.setCell ⟨b, 3, none⟩ v1) w.heap.size q sl2 kk v2) sl v1 ls c1 ∧
    MineLn w2.heap.size (put4 (w5.setCell ⟨b, 3, none⟩ v1) w.heap.size q sl2 kk v2).heap.size (put4 (w5.setCell ⟨b, 3, none⟩ v1) w.heap.size q sl2 kk v2) sl2 v2 ls c2 ∧ Below B w (put4 (w5.setCell ⟨b, 3, none⟩ v1) w.heap.size q sl2 kk v2) ∧ w2.heap.size ≤ (put4 (w5.setCell ⟨b, 3, none⟩ v1) w.heap.size q sl2 kk v2).heap.size := by
  have hb := HB.lt
  have hs3 := b3.size
  have hs4 := b4.size
  have b23 : Below w2.heap.size w2 w4 := b3.trans (b4.mono hs3)
  have bw4 : Below w.heap.size w w4 := b2.trans (b23.mono (by omega))
  have e5 : w5.heap.size = w4.heap.size := by rcases h5 with rfl | rfl <;> simp [World.setCell]
  have k5 : ∀ A E, (w3.heap.size < A ∨ E ≤ w3.heap.size) → Kept A E w4 w5 := by
    intro A E h
    rcases h5 with rfl | rfl
    · exact kept_set _ _ _ h
    · exact ⟨by simp [World.setCell], fun i h1 h2 h3 => ((kept_set (B := A) (C := E) (w4.setCell ⟨w3.heap.size, 3, none⟩ v2) ⟨w3.heap.size, 2, none⟩ (.int .i64 0) h).2 i h1 h2 (by simpa [World.setCell] using h3)).trans ((kept_set (B := A) (C := E) w4 ⟨w3.heap.size, 3, none⟩ v2 h).2 i h1 h2 h3)⟩
  have q5 : Below w3.heap.size w4 w5 := by
    rcases h5 with rfl | rfl
    · exact (Below.refl _ _).setCell (p := ⟨w3.heap.size, 3, none⟩) (Nat.le_refl _) _
    · exact ((Below.refl _ _).setCell (p := ⟨w3.heap.size, 3, none⟩) (Nat.le_refl _) _).setCell (p := ⟨w3.heap.size, 2, none⟩) (Nat.le_refl _) _
  have bw5 : Below w.heap.size w w5 := bw4.trans (q5.mono (by omega))
  have kk5 : ∀ A E, (w3.heap.size < A ∨ E ≤ w3.heap.size) → (b < A ∨ E ≤ b) → (w.heap.size < A ∨ E ≤ w.heap.size) → Kept A E w4 (put4 (w5.setCell ⟨b, 3, none⟩ v1) w.heap.size q sl2 kk v2) := by
    intro A E h1 h2 h3
    have a1 := k5 A E h1
    have a2 := kept_set (B := A) (C := E) w5 ⟨b, 3, none⟩ v1 h2
    have a3 := put4_kept (B := A) (C := E) (w := w5.setCell ⟨b, 3, none⟩ v1) (r := w.heap.size) (q := q) (k := kk) (sl := sl2) (sc := v2) h3
    have z1 := a1.1
    have z2 := a2.1
    have z3 := a3.1
    exact ⟨by omega, fun i p1 p2 p3 => (a3.2 i p1 p2 (by omega)).trans ((a2.2 i p1 p2 (by omega)).trans (a1.2 i p1 p2 p3))⟩
  have sz : (put4 (w5.setCell ⟨b, 3, none⟩ v1) w.heap.size q sl2 kk v2).heap.size = w4.heap.size := by rw [put4_size]; simp [World.setCell]; exact e5
  refine ⟨put4_far ((HB.below bw5).set3 v1) (by omega), ⟨?_, ?_, ?_⟩, ⟨?_, ?_, ?_⟩, ?_, by rw [sz]; omega⟩
  · exact ((HM.z.kept (kept_of_below bw4)).kept (kk5 B C (.inr (by omega)) (.inr hC) (.inr (by omega)))).mono (Nat.le_refl _) (by omega)
  · have m1 := mineR_of_own o1
    exact ((m1.kept (kept_of_below b23)).kept (kk5 _ _ (.inr hs3) (.inl (by omega)) (.inl (by omega)))).mono (by omega) (Nat.le_refl _)
  · intro h1 h2 g o n c g' o' n' c' e e' hgg
    have m1 := (mineR_of_own o1).mine h2 _ _ _ _ e'
    have m2 := HM.z.mine h1 _ _ _ _ e
    omega
  · have m2 := mineZ_of_own o2.1
    exact ((m2.kept (kept_of_below b4)).kept (kk5 _ _ (.inr (Nat.le_refl _)) (.inl (by omega)) (.inl (by omega)))).mono (Nat.le_refl _) (by omega)
  · have m3 := mineR_of_own o3
    exact (m3.kept (kk5 _ _ (.inl (by omega)) (.inl (by omega)) (.inl (by omega)))).mono (by omega) (by omega)
  · intro h1 h2 g o n c g' o' n' c' e e' hgg
    have m1 := (mineR_of_own o3).mine h2 _ _ _ _ e'
    have m2 := (mineZ_of_own o2.1).mine h1 _ _ _ _ e
    omega
  · exact put4_below ((bw5.mono (by omega)).setCell (p := ⟨b, 3, none⟩) (show B ≤ b by omega) _) (by omega)

set_option maxRecDepth 20000 in
set_option maxHeartbeats 8000000 in
theorem cutL_on (q k : Int) (sl sc : Value) (ls : IRow) (cs : Row) (B C b at_ : Nat) (w : World) (HB : BoxAt w b q sl k sc) (HM : MineLn B C w sl sc ls cs) (hBC : B ≤ C) (hC : C ≤ b) (hls : ls.length ≤ 50000) (hcs : cs.length ≤ 50000) (hat : at_ ≤ cs.length) :
    Calls Tryz.prog 115 #[.pointer (some ⟨b, 0, none⟩), .int .i64 (at_ : Int)] w (CutPost B b at_ ⟨q, ls, k, cs⟩ sl w) := by
  have HBo := Lib.hid HB
  have HMo := Lib.hid HM
  obtain ⟨a1, c1, rfl⟩ := HM.z.here.len
  obtain ⟨a2, c2, rfl⟩ := HM.r.here.len
  have hbl := HB.lt
  have cP1 : ∀ w1, Below w.heap.size w w1 → Calls Tryz.prog 72 #[.slice a2 cs.length c2, .int .i64 0, .int .i64 (at_ : Int)] w1 (RowPost (cs.take at_) w1) := fun w1 h1 => by
    have := part_on _ cs 0 at_ w1 (HM.r.here.below h1) hcs (Nat.zero_le _) hat
    rw [List.drop_zero, Nat.sub_zero] at this
    exact this
  have cP2 : ∀ w1, Below w.heap.size w w1 → Calls Tryz.prog 72 #[.slice a2 cs.length c2, .int .i64 (at_ : Int), .int .i64 (cs.length : Int)] w1 (RowPost (cs.drop at_) w1) := fun w1 h1 => by
    have := part_on _ cs at_ cs.length w1 (HM.r.here.below h1) hcs hat (Nat.le_refl _)
    rw [List.take_of_length_le (by rw [List.length_drop]; omega)] at this
    exact this
  have cF : ∀ w1, Below w.heap.size w w1 → Calls Tryz.prog 76 #[.agg #[.int .i64 q, .slice a1 ls.length c1, .int .i64 k, .slice a2 cs.length c2]] w1 fun e w' => ∃ sl' sc', e = .returned (.agg #[.int .i64 q, sl', .int .i64 k, sc']) ∧ OwnLn w1.heap.size w' sl' sc' ls [] ∧ Below w1.heap.size w1 w' := fun w1 h1 => lframe_any q k _ _ ls cs w1 ⟨HM.z.here.below h1, HM.r.here.below h1⟩ hls
  have e1 : (cs.take at_).length = at_ := by rw [List.length_take]; omega
  have e2 : (cs.drop at_).length = cs.length - at_ := List.length_drop
  unfold CutPost
  dsimp only
  obtain ⟨n1, hn1⟩ : ∃ n, ls.length = n := ⟨_, rfl⟩
  obtain ⟨n2, hn2⟩ : ∃ n, cs.length = n := ⟨_, rfl⟩
  rw [hn1] at cF HBo HMo
  rw [hn2] at cP1 cP2 cF hat e2 HBo HMo
  rw [hn1, hn2]
  have E1 := Lib.hid e1
  have E2 := Lib.hid e2
  have N1 := Lib.hid hn1
  have HR := Lib.hid (box_new w 0 0 (.slice none 0 0) (.slice none 0 0))
  have ba : ∀ o, Below w.heap.size w (w.alloc o) := fun o => (Below.refl _ w).alloc (Nat.le_refl _) _
  clear HB HM hls hcs hn1 hn2 e1 e2
  obtain ⟨_, x0, x1, x2, x3, _, _, _, _⟩ := HBo.out
  by_cases hk : at_ = n2
  · have hz : n2 - at_ = 0 := by omega
    rw [if_pos hk]
    rw [hz] at E2
    clear hz
    subst hk
    go_enter Tryz.func115, Tryz.ntmps115
    go_wp2_with (first
      | (go_at_call 72; ((with_reducible refine (cP1 _ (ba _)).mono ?_); rintro e w2 ⟨v1, rfl, o1, hb⟩; rw [E1.out] at o1; obtain ⟨a5, c5, e5⟩ := own_len o1; subst e5; have O1 := Lib.hid (show w2.ownsRow (w.heap.size + 1) 66 3 _ _ _ from o1.mono (by simp)); have hs2 : w.heap.size < w2.heap.size := (Nat.lt_of_lt_of_le (show w.heap.size < _ by simp) hb.size); have HR2 := Lib.hid (HR.out.below hb); have W2 := Lib.hid ((ba _).trans (hb.mono (ba _).size)); obtain ⟨_, z0, z1, z2, z3, _, _, _, _⟩ := HBo.out.below W2.out; clear o1 hb cP1))
      | (go_at_call 76; ((with_reducible refine (cF _ W2.out).mono ?_); rintro e w3 ⟨sl3, sc3, rfl, o2, hb3⟩; have O2 := Lib.hid o2; obtain ⟨a6, c6, e6⟩ := own_len o2.1; obtain ⟨a7, c7, e7⟩ := own_len o2.2; rw [N1.out] at e6; subst e6 e7; have hs3 := hb3.size; have W3 := Lib.hid (W2.out.trans (hb3.mono (by omega))); have B3 := Lib.hid hb3; have HR3 := Lib.hid (HR2.out.below hb3); obtain ⟨_, z0, z1, z2, z3, _, _, _, _⟩ := HBo.out.below W3.out; have HP := Lib.hid (box_new w3 q k (.slice a6 n1 c6) (.slice a7 0 c7)); clear o2 hb3 cF)))
    go_region_with (go_at_call 72; ((with_reducible refine (cP2 _ ?hb).mono ?_); (case hb => exact W3.out.trans (Below.mono (show Below w3.heap.size w3 _ by (repeat (first | (with_reducible exact Below.refl _ _) | assumption | (with_reducible refine Below.drew ?_) | (with_reducible refine Below.alloc ?_ ?_ _) | omega | (simp <;> omega)))) (by omega))); rintro e w4 ⟨v2, rfl, o3, hb4⟩; rw [E2.out] at o3; obtain ⟨a8, c8, e8⟩ := own_len o3; subst e8; have O3 := Lib.hid (show w4.ownsRow (w3.heap.size + 1) 66 3 _ _ _ from o3.mono (by simp)); have B4 := Lib.hid ((show Below w3.heap.size w3 _ by (repeat (first | (with_reducible exact Below.refl _ _) | assumption | (with_reducible refine Below.drew ?_) | (with_reducible refine Below.alloc ?_ ?_ _) | omega | (simp <;> omega)))).trans (hb4.mono (show w3.heap.size ≤ _ by simp))); have hs4 : w3.heap.size < w4.heap.size := (Nat.lt_of_lt_of_le (show w3.heap.size < _ by simp) hb4.size); have W4 := Lib.hid (W3.out.trans (B4.out.mono (by omega))); obtain ⟨_, t0, t1, t2, t3, t4, t5, t6, t7⟩ := HBo.out.below W4.out; obtain ⟨_, u0, u1, u2, u3, u4, u5, u6, u7⟩ := HR3.out.below B4.out; obtain ⟨_, g0, g1, g2, g3, g4, g5, g6, g7⟩ := HP.out.below ((show Below (w3.heap.size + 1) (w3.alloc (.cells #[.int .i64 q, .slice a6 n1 c6, .int .i64 k, .slice a7 0 c7] 46)) _ by (repeat (first | (with_reducible exact Below.refl _ _) | assumption | (with_reducible refine Below.drew ?_) | (with_reducible refine Below.alloc ?_ ?_ _) | omega | (simp <;> omega)))).trans (hb4.mono (by simp)) |>.mono (by simp)); clear o3 hb4))
    all_goals clear cP2
    all_goals go_wp2
    all_goals have hE := cut_ends (kk := 0) (c1 := cs.take at_) (c2 := cs.drop at_) HBo.out HMo.out hBC hC W2.out hs2 (by rw [E1.out]; exact O1.out) B3.out O2.out B4.out hs4 (by rw [E2.out]; exact O3.out) _ (.inr rfl)
    all_goals exact bodyPost_ret (v := .tuple #[.agg #[.int .i64 q, .slice a6 n1 c6, .int .i64 0, .slice a8 0 c8], .int .i64 0]) (by simp [results, Tryz.results115, go_sem, *]) rfl ⟨_, _, _, _, rfl, hE.1, hE.2.1, hE.2.2.1, hE.2.2.2.1, Nat.le_of_lt hs2, hE.2.2.2.2⟩
  · have hz : ¬ (n2 - at_ = 0) := by omega
    have hz2 : (((n2 - at_ : Nat) : Int) == 0) = false := by simpa using hz
    rw [if_neg hk]
    clear hk hz
    go_enter Tryz.func115, Tryz.ntmps115
    go_wp2_with (first
      | (go_at_call 72; ((with_reducible refine (cP1 _ (ba _)).mono ?_); rintro e w2 ⟨v1, rfl, o1, hb⟩; rw [E1.out] at o1; obtain ⟨a5, c5, e5⟩ := own_len o1; subst e5; have O1 := Lib.hid (show w2.ownsRow (w.heap.size + 1) 66 3 _ _ _ from o1.mono (by simp)); have hs2 : w.heap.size < w2.heap.size := (Nat.lt_of_lt_of_le (show w.heap.size < _ by simp) hb.size); have HR2 := Lib.hid (HR.out.below hb); have W2 := Lib.hid ((ba _).trans (hb.mono (ba _).size)); obtain ⟨_, z0, z1, z2, z3, _, _, _, _⟩ := HBo.out.below W2.out; clear o1 hb cP1))
      | (go_at_call 76; ((with_reducible refine (cF _ W2.out).mono ?_); rintro e w3 ⟨sl3, sc3, rfl, o2, hb3⟩; have O2 := Lib.hid o2; obtain ⟨a6, c6, e6⟩ := own_len o2.1; obtain ⟨a7, c7, e7⟩ := own_len o2.2; rw [N1.out] at e6; subst e6 e7; have hs3 := hb3.size; have W3 := Lib.hid (W2.out.trans (hb3.mono (by omega))); have B3 := Lib.hid hb3; have HR3 := Lib.hid (HR2.out.below hb3); obtain ⟨_, z0, z1, z2, z3, _, _, _, _⟩ := HBo.out.below W3.out; have HP := Lib.hid (box_new w3 q k (.slice a6 n1 c6) (.slice a7 0 c7)); clear o2 hb3 cF)))
    go_region_with (go_at_call 72; ((with_reducible refine (cP2 _ ?hb).mono ?_); (case hb => exact W3.out.trans (Below.mono (show Below w3.heap.size w3 _ by (repeat (first | (with_reducible exact Below.refl _ _) | assumption | (with_reducible refine Below.drew ?_) | (with_reducible refine Below.alloc ?_ ?_ _) | omega | (simp <;> omega)))) (by omega))); rintro e w4 ⟨v2, rfl, o3, hb4⟩; rw [E2.out] at o3; obtain ⟨a8, c8, e8⟩ := own_len o3; subst e8; have O3 := Lib.hid (show w4.ownsRow (w3.heap.size + 1) 66 3 _ _ _ from o3.mono (by simp)); have B4 := Lib.hid ((show Below w3.heap.size w3 _ by (repeat (first | (with_reducible exact Below.refl _ _) | assumption | (with_reducible refine Below.drew ?_) | (with_reducible refine Below.alloc ?_ ?_ _) | omega | (simp <;> omega)))).trans (hb4.mono (show w3.heap.size ≤ _ by simp))); have hs4 : w3.heap.size < w4.heap.size := (Nat.lt_of_lt_of_le (show w3.heap.size < _ by simp) hb4.size); have W4 := Lib.hid (W3.out.trans (B4.out.mono (by omega))); obtain ⟨_, t0, t1, t2, t3, t4, t5, t6, t7⟩ := HBo.out.below W4.out; obtain ⟨_, u0, u1, u2, u3, u4, u5, u6, u7⟩ := HR3.out.below B4.out; obtain ⟨_, g0, g1, g2, g3, g4, g5, g6, g7⟩ := HP.out.below ((show Below (w3.heap.size + 1) (w3.alloc (.cells #[.int .i64 q, .slice a6 n1 c6, .int .i64 k, .slice a7 0 c7] 46)) _ by (repeat (first | (with_reducible exact Below.refl _ _) | assumption | (with_reducible refine Below.drew ?_) | (with_reducible refine Below.alloc ?_ ?_ _) | omega | (simp <;> omega)))).trans (hb4.mono (by simp)) |>.mono (by simp)); clear o3 hb4))
    all_goals clear cP2
    all_goals go_wp2
    all_goals have hE := cut_ends (kk := k) (c1 := cs.take at_) (c2 := cs.drop at_) HBo.out HMo.out hBC hC W2.out hs2 (by rw [E1.out]; exact O1.out) B3.out O2.out B4.out hs4 (by rw [E2.out]; exact O3.out) _ (.inl rfl)
    all_goals exact bodyPost_ret (v := .tuple #[.agg #[.int .i64 q, .slice a6 n1 c6, .int .i64 k, .slice a8 (n2 - at_) c8], .int .i64 0]) (by simp [results, Tryz.results115, go_sem, *]) rfl ⟨_, _, _, _, rfl, hE.1, hE.2.1, hE.2.2.1, hE.2.2.2.1, Nat.le_of_lt hs2, hE.2.2.2.2⟩

end Go.Proofs.YtafincmcmgedbaaGreatDoor
