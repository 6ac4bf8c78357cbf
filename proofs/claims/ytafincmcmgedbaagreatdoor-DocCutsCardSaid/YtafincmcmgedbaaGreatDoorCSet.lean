/-
  The program's Set: the bits of some cells.
-/
import Derived.Test.YtafincmcmgedbaaGreatDoorCFit
import Derived.Deep.RegionWith
import Derived.Deep.RegionHeld3
import Derived.Deep.DrawnRows

namespace Go.Proofs.YtafincmcmgedbaaGreatDoor
open Go.RowKit Go.Lib

/-- The low four bits; Go's bits &^ clear | set. -/
def lowZ (x : Int) : Int := bits .and .i64 x 15
def overZ (x s c : Int) : Int := bits .or .i64 (bits .andNot .i64 x c) s

set_option maxHeartbeats 1000000 in
theorem over_any (x s c : Int) (w : World) :
    Calls Tryz.prog 118 #[.int .i64 x, .int .i64 s, .int .i64 c] w fun e w' => e = .returned (.int .i64 (overZ x s c)) ∧ w = w' := by
  unfold overZ
  go_enter Tryz.func118, Tryz.ntmps118
  go_wp2
  go_ret
  exact ⟨rfl, rfl⟩

set_option maxHeartbeats 4000000 in
theorem setFn_any (g o B : Nat) (x s c : Int) (w : World) (h1 : w.cell? ⟨g, o + 1, none⟩ = some (.int .i64 x)) (f1 : w.frozen? ⟨g, o + 1, none⟩ = false) (h2 : w.cell? ⟨B, 0, none⟩ = some (.int .i64 s)) (h3 : w.cell? ⟨B + 1, 0, none⟩ = some (.int .i64 c)) :
    Calls Tryz.prog 117 #[.pointer (some ⟨g, o, none⟩), .pointer (some ⟨B, 0, none⟩), .pointer (some ⟨B + 1, 0, none⟩)] w fun e w' => (∃ r, e = .returned r) ∧ w' = (w.setCell ⟨g, o + 1, none⟩ (.int .i64 (overZ x (lowZ s) (lowZ c)))).drew := by
  unfold lowZ
  have hc := over_any x (bits .and .i64 s 15) (bits .and .i64 c 15)
  go_enter Tryz.func117, Tryz.ntmps117
  go_wp2
  go_region_with (go_at_call 118; ((with_reducible refine (hc _).mono ?_); rintro e w' ⟨rfl, rfl⟩))
  all_goals go_wp2
  all_goals go_end0
  all_goals exact ⟨⟨_, rfl⟩, rfl⟩

/-- Some cells of a row, turned. -/
def turnR (u : Ce → Ce) (l : Row) (f t : Nat) : Row := l.mapIdx fun i c => if f ≤ i ∧ i < t then u c else c
theorem turnR_length (u : Ce → Ce) (l : Row) (f t : Nat) : (turnR u l f t).length = l.length := by unfold turnR; simp
theorem turnR_get (u : Ce → Ce) (l : Row) (f t i : Nat) : (turnR u l f t)[i]? = l[i]?.map fun c => if f ≤ i ∧ i < t then u c else c := by
  unfold turnR
  rw [List.getElem?_mapIdx]
theorem turnR_none (u : Ce → Ce) (l : Row) (f : Nat) : turnR u l f f = l := by
  apply List.ext_getElem?
  intro i
  rw [turnR_get]
  have : (fun c : Ce => if f ≤ i ∧ i < f then u c else c) = id := by
    funext c
    rw [if_neg (by omega)]; rfl
  rw [this, Option.map_id]; rfl
theorem turnR_at {u : Ce → Ce} {l : Row} {f t k : Nat} (hkt : t ≤ k) : (turnR u l f t)[k]! = l[k]! := by
  rw [List.getElem!_eq_getElem?_getD, List.getElem!_eq_getElem?_getD, turnR_get]
  have : (fun c : Ce => if f ≤ k ∧ k < t then u c else c) = id := by
    funext c
    rw [if_neg (by omega)]; rfl
  rw [this, Option.map_id]; rfl
theorem turnR_next {u : Ce → Ce} {l : Row} {f k : Nat} (hk : k < l.length) (hf : f ≤ k) : turnR u l f (k + 1) = (turnR u l f k).set k (u l[k]!) := by
  apply List.ext_getElem?
  intro i
  rw [turnR_get, List.getElem?_set, turnR_length, turnR_get]
  by_cases e : k = i
  · subst e
    rw [if_pos rfl, if_pos hk, List.getElem!_eq_getElem?_getD, List.getElem?_eq_getElem hk]
    simp only [Option.map_some, Option.getD_some]
    rw [if_pos ⟨hf, by omega⟩]
  · rw [if_neg e]
    congr 1
    funext c
    by_cases e2 : f ≤ i ∧ i < k
    · rw [if_pos e2, if_pos ⟨e2.1, by omega⟩]
    · rw [if_neg e2, if_neg (by omega)]
/-- One cell's bits, its href, written over. -/
theorem cellsR_set_b : ∀ (l : Row) (k : Nat) (b : Int), k < l.length → cellsR (l.set k ((l[k]!).1, b, (l[k]!).2.2)) = (cellsR l).set (k * 3 + 1) (.int .i64 b)
  | [], k, b, h => by simp at h
  | a :: l, 0, b, _ => rfl
  | a :: l, k + 1, b, h => by
    have ih := cellsR_set_b l k b (by simpa using h)
    have e1 : (a :: l)[k + 1]! = l[k]! := by simp
    have e2 : (a :: l).set (k + 1) ((l[k]!).1, b, (l[k]!).2.2) = a :: l.set k ((l[k]!).1, b, (l[k]!).2.2) := rfl
    have e3 : (k + 1) * 3 + 1 = k * 3 + 1 + 1 + 1 + 1 := by omega
    have e4 : ∀ m : Row, cellsR (a :: m) = .int .i32 a.1 :: .int .i64 a.2.1 :: .string a.2.2 :: cellsR m := fun _ => rfl
    rw [e1, e2, e4, e4, ih, e3]
    rfl
theorem cellsR_set_h : ∀ (l : Row) (k : Nat) (x : ByteArray), k < l.length → cellsR (l.set k ((l[k]!).1, (l[k]!).2.1, x)) = (cellsR l).set (k * 3 + 2) (.string x)
  | [], k, b, h => by simp at h
  | a :: l, 0, b, _ => rfl
  | a :: l, k + 1, x, h => by
    have ih := cellsR_set_h l k x (by simpa using h)
    have e1 : (a :: l)[k + 1]! = l[k]! := by simp
    have e2 : (a :: l).set (k + 1) ((l[k]!).1, (l[k]!).2.1, x) = a :: l.set k ((l[k]!).1, (l[k]!).2.1, x) := rfl
    have e3 : (k + 1) * 3 + 2 = k * 3 + 2 + 1 + 1 + 1 := by omega
    have e4 : ∀ m : Row, cellsR (a :: m) = .int .i32 a.1 :: .int .i64 a.2.1 :: .string a.2.2 :: cellsR m := fun _ => rfl
    rw [e1, e2, e4, e4, ih, e3]
    rfl
def setC (s c : Int) (x : Ce) : Ce := (x.1, overZ x.2.1 (lowZ s) (lowZ c), x.2.2)

set_option maxHeartbeats 2000000 in
theorem each_off (v F : Value) (l : Row) (f t : Int) (w : World) (hv : RowAt w v l) (h : fitB l.length f t = false) :
    Calls Tryz.prog 116 #[v, .int .i64 f, .int .i64 t, F] w fun e w' => e = .returned errV ∧ Below w.heap.size w w' := by
  have hc := fit_any v l f t w hv
  rw [h] at hc
  unfold errV
  clear hv h
  go_enter Tryz.func116, Tryz.ntmps116
  go_wp2_with (go_at_call 109; ((with_reducible refine hc.mono ?_); rintro e w1 ⟨rfl, rfl⟩))
  go_ret2
  exact ⟨rfl, Below.refl _ _⟩

set_option maxHeartbeats 8000000 in
theorem eachSet_on (v : Value) (l : Row) (f t B : Nat) (s c : Int) (w : World) (hv : RowAt w v l) (hl : l.length ≤ 50000) (hft : f ≤ t) (ht : t ≤ l.length) (h2 : w.cell? ⟨B, 0, none⟩ = some (.int .i64 s)) (h3 : w.cell? ⟨B + 1, 0, none⟩ = some (.int .i64 c)) :
    Calls Tryz.prog 116 #[v, .int .i64 (f : Int), .int .i64 (t : Int), .func (.func 117) #[] #[.pointer (some ⟨B, 0, none⟩), .pointer (some ⟨B + 1, 0, none⟩)]] w (RowPost (turnR (setC s c) l f t) w) := by
  have hc := fit_any v l f t w hv
  have hB : fitB l.length f t = true := decide_eq_true (by omega)
  rw [hB] at hc
  have hbl2 : B + 1 < w.heap.size := lt_of_cell' h3
  have H2 := Lib.hid h2
  have H3 := Lib.hid h3
  obtain ⟨a1, c1, e1⟩ := hv.len
  have q1 := Lib.hid hv
  obtain ⟨n, hn⟩ : ∃ n, l.length = n := ⟨_, rfl⟩
  rw [hn] at e1 hl ht
  subst e1
  have N := Lib.hid hn
  clear hv hB h2 h3 hn
  have ba : ∀ o, Below w.heap.size w (w.alloc o) := fun o => (Below.refl _ w).alloc (Nat.le_refl _) _
  go_enter Tryz.func116, Tryz.ntmps116
  go_wp2_with (first
    | (go_at_call 109; ((with_reducible refine hc.mono ?_); rintro e w1 ⟨rfl, rfl⟩))
    | (go_at_call 77; ((with_reducible refine (concat1 w.heap.size _ l _ (by simp) (q1.out.below (ba _)) (by rw [N.out]; omega)).mono ?_); rintro e w2 ⟨v', rfl, hown, hb2⟩; rw [N.out] at hown; obtain ⟨a2, c2, e2⟩ := own_len hown; subst e2; have O := Lib.hid hown; have hb0 := Lib.hid ((ba _).trans (hb2.mono (ba _).size)); clear hown hb2 hc q1 ba))
  )
  go_loopw [11] (fun i wr => ∃ k : Nat, f ≤ k ∧ k ≤ t ∧ i = .int .i64 k ∧ Hid (wr.ownsRow w.heap.size 66 3 (.slice a2 n c2) n (cellsR (turnR (setC s c) l f k))) ∧ Hid (Below w.heap.size w wr)) (fun i _ => t - (RowKit.intOf i).toNat)
  case atStart => exact ⟨f, Nat.le_refl _, hft, rfl, Lib.hid (by rw [turnR_none]; exact O.out.mono (by simp)), hb0⟩
  case round =>
    obtain ⟨k, hfk, hkt, rfl, O2, hb⟩ := hrel
    by_cases hlt : k < t
    · have hkl : k < l.length := by rw [N.out]; omega
      obtain ⟨g, rfl⟩ : ∃ g, a2 = some ⟨g, 0, none⟩ := by
        rcases O2.out.2 with ⟨e, _⟩ | ⟨g, cap, cur, e, _⟩
        · simp only [Value.slice.injEq] at e; omega
        · simp only [Value.slice.injEq] at e; exact ⟨g, e.1⟩
      have hlt3 := (O2.out.lt g rfl)
      obtain ⟨_, o2, _⟩ := cellsR_at (turnR (setC s c) l f k) k (by rw [turnR_length]; exact hkl)
      rw [turnR_at (Nat.le_refl _)] at o2
      have hts := turnR_next (u := setC s c) hkl hfk
      have e5 := cellsR_set_b (turnR (setC s c) l f k) k (setC s c l[k]!).2.1 (by rw [turnR_length]; exact hkl)
      rw [turnR_at (Nat.le_refl _)] at e5
      obtain ⟨X, hX⟩ : ∃ X, l[k]! = X := ⟨_, rfl⟩
      rw [hX] at o2 hts e5
      clear hX
      have hcl : wr.cell? ⟨g, k * 3 + 1, none⟩ = some (.int .i64 X.2.1) := (O2.out.cellAt _ (by omega)).trans o2
      have hfr := O2.out.frozenAt (k * 3 + 1)
      have hset := setFn_any g (k * 3) B X.2.1 s c wr hcl hfr ((hb.out.cell (p := ⟨B, 0, none⟩) (show B < w.heap.size by omega)).trans H2.out) ((hb.out.cell (p := ⟨B + 1, 0, none⟩) hbl2).trans H3.out)
      have hnx := O2.out.stored (k * 3 + 1) (.int .i64 (setC s c X).2.1)
      have hnc : n ≤ c2 ∧ c2 ≤ maxLen := by
        rcases O2.out.2 with ⟨e, _⟩ | ⟨g, cap, cur, e, _, _, h5, h6, _⟩
        · simp at e
        · simp only [Value.slice.injEq, true_and] at e; obtain ⟨_, rfl⟩ := e; exact ⟨h5, h6⟩
      unfold maxLen at hnc
      obtain ⟨hnc1, hnc2⟩ := hnc
      have hkI : (k : Int) < (t : Int) := by omega
      have hkn : (k : Int) < (n : Int) := by omega
      have NX := Lib.hid hnx
      have HTS := Lib.hid hts
      have E5 := Lib.hid e5
      clear hnx hcl hfr o2 hts e5
      go_wp2_with (go_at_call 117; ((with_reducible refine hset.mono ?_); rintro e w3 ⟨⟨r, rfl⟩, rfl⟩))
      go_roundw
      case rel =>
        refine ⟨k + 1, by omega, hlt, by go_num, Lib.hid ?_, Lib.hid ?_⟩
        · have h := NX.out.1
          rw [HTS.out]
          have e6 : setC s c X = (X.1, (setC s c X).2.1, X.2.2) := rfl
          rw [e6, E5.out]
          exact h.drew
        · exact (hb.out.setCell (p := ⟨g, k * 3 + 1, none⟩) hlt3.1 _).drew
      case measure => simp [RowKit.intOf]; omega
    · have hkt2 : k = t := by omega
      subst hkt2
      go_wp2
      go_ret2
      exact ⟨_, rfl, by rw [turnR_length, N.out]; exact O2.out, hb.out⟩

theorem two_box (w : World) (a b : Int) (t u : TypeId) : ((w.alloc (.cells #[.int .i64 a] t)).alloc (.cells #[.int .i64 b] u)).cell? ⟨w.heap.size, 0, none⟩ = some (.int .i64 a) ∧ ((w.alloc (.cells #[.int .i64 a] t)).alloc (.cells #[.int .i64 b] u)).cell? ⟨w.heap.size + 1, 0, none⟩ = some (.int .i64 b) := by
  constructor <;> simp

set_option maxHeartbeats 2000000 in
theorem set_on (v : Value) (l : Row) (f t : Nat) (s c : Int) (w : World) (hv : RowAt w v l) (hl : l.length ≤ 50000) (hft : f ≤ t) (ht : t ≤ l.length) :
    Calls Tryz.prog 85 #[v, .int .i64 (f : Int), .int .i64 (t : Int), .int .i64 s, .int .i64 c] w (RowPost (turnR (setC s c) l f t) w) := by
  have hb0 : Below w.heap.size w ((w.alloc (.cells #[.int .i64 s] 3)).alloc (.cells #[.int .i64 c] 3)) := ((Below.refl _ w).alloc (Nat.le_refl _) _).alloc (by simp) _
  obtain ⟨k1, k2⟩ := two_box w s c 3 3
  have hc := eachSet_on v l f t w.heap.size s c _ (hv.below hb0) hl hft ht k1 k2
  unfold RowPost at hc
  obtain ⟨R, hR⟩ : ∃ R, turnR (setC s c) l f t = R := ⟨_, rfl⟩
  rw [hR] at hc ⊢
  clear hR hv k1 k2
  have H0 := Lib.hid hb0
  clear hb0
  go_enter Tryz.func85, Tryz.ntmps85
  go_wp2_with (go_at_call 116; ((with_reducible refine hc.mono ?_); rintro e w4 ⟨v', rfl, hown, hb4⟩))
  go_ret2
  exact ⟨_, rfl, hown.mono H0.out.size, H0.out.trans (hb4.mono H0.out.size)⟩
set_option maxHeartbeats 2000000 in
theorem set_off (v : Value) (l : Row) (f t : Int) (s c : Int) (w : World) (hv : RowAt w v l) (h : fitB l.length f t = false) :
    Calls Tryz.prog 85 #[v, .int .i64 f, .int .i64 t, .int .i64 s, .int .i64 c] w fun e w' => e = .returned errV ∧ Below w.heap.size w w' := by
  have hb0 : Below w.heap.size w ((w.alloc (.cells #[.int .i64 s] 3)).alloc (.cells #[.int .i64 c] 3)) := ((Below.refl _ w).alloc (Nat.le_refl _) _).alloc (by simp) _
  have hc := fun F => each_off v F l f t _ (hv.below hb0) h
  unfold errV at hc ⊢
  have H0 := Lib.hid hb0
  clear hb0 hv h
  go_enter Tryz.func85, Tryz.ntmps85
  go_wp2_with (go_at_call 116; ((with_reducible refine (hc _).mono ?_); rintro e w4 ⟨rfl, hb4⟩))
  go_ret2
  exact ⟨rfl, H0.out.trans (hb4.mono H0.out.size)⟩

end Go.Proofs.YtafincmcmgedbaaGreatDoor
