/-
  The program's Link: the href of some cells.
  The document's Set, Links, All, Some, Text. (Written by gen_docsets.py.)
-/
import Derived.Test.YtafincmcmgedbaaGreatDoorCSet
import Derived.Test.YtafincmcmgedbaaGreatDoorCMay
import Derived.Test.YtafincmcmgedbaaGreatDoorCAllSome

namespace Go.Proofs.YtafincmcmgedbaaGreatDoor
open Go.RowKit Go.Lib

def linkC (h : ByteArray) (x : Ce) : Ce := (x.1, x.2.1, h)

set_option maxHeartbeats 4000000 in
theorem linkFn_any (g o B : Nat) (x h : ByteArray) (w : World) (h1 : w.cell? ⟨g, o + 2, none⟩ = some (.string x)) (f1 : w.frozen? ⟨g, o + 2, none⟩ = false) (h2 : w.cell? ⟨B, 0, none⟩ = some (.string h)) :
    Calls Tryz.prog 120 #[.pointer (some ⟨g, o, none⟩), .pointer (some ⟨B, 0, none⟩)] w fun e w' => (∃ r, e = .returned r) ∧ w' = w.setCell ⟨g, o + 2, none⟩ (.string h) := by
  go_enter Tryz.func120, Tryz.ntmps120
  go_wp2
  all_goals go_end0
  all_goals exact ⟨⟨_, rfl⟩, rfl⟩

set_option maxHeartbeats 8000000 in
theorem eachLink_on (v : Value) (l : Row) (f t B : Nat) (s : ByteArray) (w : World) (hv : RowAt w v l) (hl : l.length ≤ 50000) (hft : f ≤ t) (ht : t ≤ l.length) (h2 : w.cell? ⟨B, 0, none⟩ = some (.string s)) :
    Calls Tryz.prog 116 #[v, .int .i64 (f : Int), .int .i64 (t : Int), .func (.func 120) #[] #[.pointer (some ⟨B, 0, none⟩)]] w (RowPost (turnR (linkC s) l f t) w) := by
  have hc := fit_any v l f t w hv
  have hB : fitB l.length f t = true := decide_eq_true (by omega)
  rw [hB] at hc
  have hbl2 : B < w.heap.size := lt_of_cell' h2
  have H2 := Lib.hid h2
  obtain ⟨a1, c1, e1⟩ := hv.len
  have q1 := Lib.hid hv
  obtain ⟨n, hn⟩ : ∃ n, l.length = n := ⟨_, rfl⟩
  rw [hn] at e1 hl ht
  subst e1
  have N := Lib.hid hn
  clear hv hB h2 hn
  have ba : ∀ o, Below w.heap.size w (w.alloc o) := fun o => (Below.refl _ w).alloc (Nat.le_refl _) _
  go_enter Tryz.func116, Tryz.ntmps116
  go_wp2_with (first
    | (go_at_call 109; ((with_reducible refine hc.mono ?_); rintro e w1 ⟨rfl, rfl⟩))
    | (go_at_call 77; ((with_reducible refine (concat1 w.heap.size _ l _ (by simp) (q1.out.below (ba _)) (by rw [N.out]; omega)).mono ?_); rintro e w2 ⟨v', rfl, hown, hb2⟩; rw [N.out] at hown; obtain ⟨a2, c2, e2⟩ := own_len hown; subst e2; have O := Lib.hid hown; have hb0 := Lib.hid ((ba _).trans (hb2.mono (ba _).size)); clear hown hb2 hc q1 ba))
  )
  go_loopw [11] (fun i wr => ∃ k : Nat, f ≤ k ∧ k ≤ t ∧ i = .int .i64 k ∧ Hid (wr.ownsRow w.heap.size 66 3 (.slice a2 n c2) n (cellsR (turnR (linkC s) l f k))) ∧ Hid (Below w.heap.size w wr)) (fun i _ => t - (RowKit.intOf i).toNat)
  case atStart => exact ⟨f, Nat.le_refl _, hft, rfl, Lib.hid (by rw [turnR_none]; exact O.out.mono (by simp)), hb0⟩
  case round =>
    obtain ⟨k, hfk, hkt, rfl, O2, hb⟩ := hrel
    by_cases hlt : k < t
    · have hkl : k < l.length := by rw [N.out]; omega
      obtain ⟨g, rfl⟩ : ∃ g, a2 = some ⟨g, 0, none⟩ := by
        rcases O2.out.2 with ⟨e, _⟩ | ⟨g, cap, cur, e, _⟩
        · simp only [Value.slice.injEq] at e; omega
        · simp only [Value.slice.injEq] at e; exact ⟨g, e.1⟩
      have hlt3 := (O2.out.lt g rfl)
      obtain ⟨_, _, o2⟩ := cellsR_at (turnR (linkC s) l f k) k (by rw [turnR_length]; exact hkl)
      rw [turnR_at (Nat.le_refl _)] at o2
      have hts := turnR_next (u := linkC s) hkl hfk
      have e5 := cellsR_set_h (turnR (linkC s) l f k) k s (by rw [turnR_length]; exact hkl)
      rw [turnR_at (Nat.le_refl _)] at e5
      obtain ⟨X, hX⟩ : ∃ X, l[k]! = X := ⟨_, rfl⟩
      rw [hX] at o2 hts e5
      clear hX
      have hcl : wr.cell? ⟨g, k * 3 + 2, none⟩ = some (.string X.2.2) := (O2.out.cellAt _ (by omega)).trans o2
      have hfr := O2.out.frozenAt (k * 3 + 2)
      have hset := linkFn_any g (k * 3) B X.2.2 s wr hcl hfr ((hb.out.cell (p := ⟨B, 0, none⟩) (show B < w.heap.size by omega)).trans H2.out)
      have hnx := O2.out.stored (k * 3 + 2) (.string s)
      have hnc : n ≤ c2 ∧ c2 ≤ maxLen := by
        rcases O2.out.2 with ⟨e, _⟩ | ⟨g, cap, cur, e, _, _, h5, h6, _⟩
        · simp at e
        · simp only [Value.slice.injEq, true_and] at e; obtain ⟨_, rfl⟩ := e; exact ⟨h5, h6⟩
      unfold maxLen at hnc
      obtain ⟨hnc1, hnc2⟩ := hnc
      have hkI : (k : Int) < (t : Int) := by omega
      have hkn : (k : Int) < (n : Int) := by omega
      have NX := Lib.hid hnx
      have HTS := Lib.hid hts
      have E5 := Lib.hid e5
      clear hnx hcl hfr o2 hts e5
      go_wp2_with (go_at_call 120; ((with_reducible refine hset.mono ?_); rintro e w3 ⟨⟨r, rfl⟩, rfl⟩))
      go_roundw
      case rel =>
        refine ⟨k + 1, by omega, hlt, by go_num, Lib.hid ?_, Lib.hid ?_⟩
        · have h := NX.out.1
          rw [HTS.out]
          have e6 : linkC s X = (X.1, X.2.1, s) := rfl
          rw [e6, E5.out]
          exact h
        · exact hb.out.setCell (p := ⟨g, k * 3 + 2, none⟩) hlt3.1 _
      case measure => simp [RowKit.intOf]; omega
    · have hkt2 : k = t := by omega
      subst hkt2
      go_wp2
      go_ret2
      exact ⟨_, rfl, by rw [turnR_length, N.out]; exact O2.out, hb.out⟩

set_option maxHeartbeats 2000000 in
theorem link_on (v : Value) (l : Row) (f t : Nat) (s : ByteArray) (w : World) (hv : RowAt w v l) (hl : l.length ≤ 50000) (hft : f ≤ t) (ht : t ≤ l.length) (hs : s.size ≤ 1000000) (hE : Tg.Env w) (hL : linkS s = true) :
    Calls Tryz.prog 89 #[v, .int .i64 (f : Int), .int .i64 (t : Int), .string s] w (RowPost (turnR (linkC s) l f t) w) := by
  have ba : ∀ o, Below w.heap.size w (w.alloc o) := fun o => (Below.refl _ w).alloc (Nat.le_refl _) _
  have HE := Lib.hid hE
  have V := Lib.hid hv
  have cL := fun o => mayLink_any s (w.alloc o) hs (HE.out.below (ba o))
  rw [hL] at cL
  have cE : ∀ w1, Below w.heap.size w w1 → w1.cell? ⟨w.heap.size, 0, none⟩ = some (.string s) → Calls Tryz.prog 116 #[v, .int .i64 (f : Int), .int .i64 (t : Int), .func (.func 120) #[] #[.pointer (some ⟨w.heap.size, 0, none⟩)]] w1 (RowPost (turnR (linkC s) l f t) w1) := fun w1 h1 h2 => eachLink_on v l f t w.heap.size s w1 (V.out.below h1) hl hft ht h2
  unfold RowPost at cE
  obtain ⟨R, hR⟩ : ∃ R, turnR (linkC s) l f t = R := ⟨_, rfl⟩
  rw [hR] at cE ⊢
  clear hR hv hE hL
  go_enter Tryz.func89, Tryz.ntmps89
  go_wp2_with (first
    | (go_at_call 119; ((with_reducible refine (cL _).mono ?_); rintro e w1 ⟨rfl, hb⟩; have hk : w1.cell? ⟨w.heap.size, 0, none⟩ = some (.string s) := (hb.cell (p := ⟨w.heap.size, 0, none⟩) (by simp)).trans (by simp); have hb0 := (ba _).trans (hb.mono (ba _).size)))
    | (go_at_call 116; ((with_reducible refine (cE _ hb0 hk).mono ?_); rintro e w4 ⟨v', rfl, hown, hb4⟩)))
  go_ret2
  exact ⟨_, rfl, hown.mono hb0.size, hb0.trans (hb4.mono hb0.size)⟩
set_option maxHeartbeats 2000000 in
theorem link_off (v : Value) (l : Row) (f t : Int) (s : ByteArray) (w : World) (hv : RowAt w v l) (hs : s.size ≤ 1000000) (hE : Tg.Env w) (h : (linkS s && fitB l.length f t) = false) :
    Calls Tryz.prog 89 #[v, .int .i64 f, .int .i64 t, .string s] w fun e w' => e = .returned errV ∧ Below w.heap.size w w' := by
  have ba : ∀ o, Below w.heap.size w (w.alloc o) := fun o => (Below.refl _ w).alloc (Nat.le_refl _) _
  have HE := Lib.hid hE
  have V := Lib.hid hv
  have cL := fun o => mayLink_any s (w.alloc o) hs (HE.out.below (ba o))
  have cE := fun F w1 hb hf => each_off v F l f t w1 (V.out.below hb) hf
  unfold errV at cE ⊢
  cases hL : linkS s with
  | true =>
    rw [hL] at cL
    have hf : fitB l.length f t = false := by rw [hL, Bool.true_and] at h; exact h
    clear hL h hv hE
    go_enter Tryz.func89, Tryz.ntmps89
    go_wp2_with (first
      | (go_at_call 119; ((with_reducible refine (cL _).mono ?_); rintro e w1 ⟨rfl, hb⟩; have hb0 := (ba _).trans (hb.mono (ba _).size)))
      | (go_at_call 116; ((with_reducible refine (cE _ _ hb0 hf).mono ?_); rintro e w4 ⟨rfl, hb4⟩)))
    go_ret2
    exact ⟨rfl, hb0.trans (hb4.mono hb0.size)⟩
  | false =>
    rw [hL] at cL
    clear hL h hv hE
    go_enter Tryz.func89, Tryz.ntmps89
    go_wp2_with (go_at_call 119; ((with_reducible refine (cL _).mono ?_); rintro e w1 ⟨rfl, hb⟩))
    go_ret2
    exact ⟨rfl, (ba _).trans (hb.mono (ba _).size)⟩

end Go.Proofs.YtafincmcmgedbaaGreatDoor

namespace Go.Proofs.YtafincmcmgedbaaGreatDoor
open Go.RowKit Go.Lib

set_option maxHeartbeats 8000000 in
theorem rset_on (v : Value) (l : Row) (f t : Nat) (s c : Int) (w : World) (hv : RowAt w v l) (hl : l.length ≤ 50000) (hft : f ≤ t) (ht : t ≤ l.length) :
    Calls Tryz.prog 87 #[v, .int .i64 (f : Int), .int .i64 (t : Int), .int .i64 s, .int .i64 c] w (RowPost (turnR (setC s c) l f t) w) := by
  have hc := rspan_any v l f t w hv
  have hB : fitB l.length f t = true := decide_eq_true (by omega)
  rw [hB] at hc
  have V := Lib.hid hv
  have cO := fun w1 h => rown_any v l w1 h (by omega)
  unfold OwnPost at cO
  obtain ⟨n, hn⟩ : ∃ n, l.length = n := ⟨_, rfl⟩
  rw [hn] at hl ht cO
  have N := Lib.hid hn
  clear hv hB hn
  go_enter Tryz.func87, Tryz.ntmps87
  go_wp2_with (first
    | (go_at_call 95; ((with_reducible refine hc.mono ?_); rintro e w1 ⟨rfl, rfl⟩))
    | (go_at_call 35; ((with_reducible refine (cO _ V.out).mono ?_); rintro e w2 ⟨v', rfl, hown, hb2⟩; obtain ⟨a2, c2, e2⟩ := own_len hown; subst e2; have O := Lib.hid (hown.mono (Nat.le_refl _)); have hb0 := Lib.hid (hb2); clear hown hb2 hc)))
  go_loopw [13] (fun i wr => ∃ k : Nat, f ≤ k ∧ k ≤ t ∧ i = .int .i64 k ∧ Hid (wr.ownsRow w.heap.size 66 3 (.slice a2 n c2) n (cellsR (turnR (setC s c) l f k))) ∧ Hid (Below w.heap.size w wr)) (fun i _ => t - (RowKit.intOf i).toNat)
  case atStart => exact ⟨f, Nat.le_refl _, hft, rfl, Lib.hid (by rw [turnR_none]; exact O.out), hb0⟩
  case round =>
    obtain ⟨k, hfk, hkt, rfl, O2, hb⟩ := hrel
    by_cases hlt : k < t
    · have hkl : k < l.length := by rw [N.out]; omega
      obtain ⟨g, rfl⟩ : ∃ g, a2 = some ⟨g, 0, none⟩ := by
        rcases O2.out.2 with ⟨e, _⟩ | ⟨g, cap, cur, e, _⟩
        · simp only [Value.slice.injEq] at e; omega
        · simp only [Value.slice.injEq] at e; exact ⟨g, e.1⟩
      have hlt3 := (O2.out.lt g rfl)
      obtain ⟨_, o2, o3⟩ := cellsR_at (turnR (setC s c) l f k) k (by rw [turnR_length]; exact hkl)
      rw [turnR_at (Nat.le_refl _)] at o2 o3
      have hts := turnR_next (u := setC s c) hkl hfk
      have e5 := cellsR_set_b (turnR (setC s c) l f k) k (overZ (l[k]!).2.1 (lowZ s) (lowZ c)) (by rw [turnR_length]; exact hkl)
      rw [turnR_at (Nat.le_refl _)] at e5
      obtain ⟨X, hX⟩ : ∃ X, l[k]! = X := ⟨_, rfl⟩
      rw [hX] at o2 o3 hts e5
      clear hX
      have hcl : wr.cell? ⟨g, k * 3 + 1, none⟩ = some (.int .i64 X.2.1) := (O2.out.cellAt _ (by omega)).trans o2
      have hfr := O2.out.frozenAt (k * 3 + 1)
      have hnx := O2.out.stored (k * 3 + 1) (.int .i64 (overZ X.2.1 (lowZ s) (lowZ c)))
      have hnc : n ≤ c2 ∧ c2 ≤ maxLen := by
        rcases O2.out.2 with ⟨e, _⟩ | ⟨g, cap, cur, e, _, _, h5, h6, _⟩
        · simp at e
        · simp only [Value.slice.injEq, true_and] at e; obtain ⟨_, rfl⟩ := e; exact ⟨h5, h6⟩
      unfold maxLen at hnc
      obtain ⟨hnc1, hnc2⟩ := hnc
      have hkI : (k : Int) < (t : Int) := by omega
      have hkn : (k : Int) < (n : Int) := by omega
      have NX := Lib.hid hnx
      have HTS := Lib.hid hts
      have E5 := Lib.hid e5
      clear hnx o2 o3 hts e5
      go_wp2
      go_roundw
      case rel =>
        refine ⟨k + 1, by omega, hlt, by go_num, Lib.hid ?_, Lib.hid ?_⟩
        · have h := NX.out.1
          rw [HTS.out]
          have e6 : (setC s c) X = (X.1, overZ X.2.1 (lowZ s) (lowZ c), X.2.2) := rfl
          rw [e6, E5.out]
          exact h
        · exact hb.out.setCell (p := ⟨g, k * 3 + 1, none⟩) hlt3.1 _
      case measure => simp [RowKit.intOf]; omega
    · have hkt2 : k = t := by omega
      subst hkt2
      go_wp2
      go_ret2
      exact ⟨_, rfl, by rw [turnR_length, N.out]; exact O2.out, hb.out⟩

set_option maxHeartbeats 8000000 in
theorem rlinks_on (v : Value) (l : Row) (f t : Nat) (s : ByteArray) (w : World) (hv : RowAt w v l) (hl : l.length ≤ 50000) (hft : f ≤ t) (ht : t ≤ l.length) (hs : s.size ≤ 1000000) (hL : linkS s = true) :
    Calls Tryz.prog 91 #[v, .int .i64 (f : Int), .int .i64 (t : Int), .string s] w (RowPost (turnR (linkC s) l f t) w) := by
  have hc := rspan_any v l f t w hv
  have hB : fitB l.length f t = true := decide_eq_true (by omega)
  rw [hB] at hc
  have V := Lib.hid hv
  have cK := rlink_any s w hs
  rw [hL] at cK
  clear hL
  have cO := fun w1 h => rown_any v l w1 h (by omega)
  unfold OwnPost at cO
  obtain ⟨n, hn⟩ : ∃ n, l.length = n := ⟨_, rfl⟩
  rw [hn] at hl ht cO
  have N := Lib.hid hn
  clear hv hB hn
  go_enter Tryz.func91, Tryz.ntmps91
  go_wp2_with (first
    | (go_at_call 95; ((with_reducible refine hc.mono ?_); rintro e w1 ⟨rfl, rfl⟩))
    | (go_at_call 90; ((with_reducible refine cK.mono ?_); rintro e w1 ⟨rfl, hb1⟩; replace V := Lib.hid (V.out.below hb1)))
    | (go_at_call 35; ((with_reducible refine (cO _ V.out).mono ?_); rintro e w2 ⟨v', rfl, hown, hb2⟩; obtain ⟨a2, c2, e2⟩ := own_len hown; subst e2; have O := Lib.hid (hown.mono (hb1.size)); have hb0 := Lib.hid (hb1.trans (hb2.mono hb1.size)); clear hown hb2 hc)))
  go_loopw [11] (fun i wr => ∃ k : Nat, f ≤ k ∧ k ≤ t ∧ i = .int .i64 k ∧ Hid (wr.ownsRow w.heap.size 66 3 (.slice a2 n c2) n (cellsR (turnR (linkC s) l f k))) ∧ Hid (Below w.heap.size w wr)) (fun i _ => t - (RowKit.intOf i).toNat)
  case atStart => exact ⟨f, Nat.le_refl _, hft, rfl, Lib.hid (by rw [turnR_none]; exact O.out), hb0⟩
  case round =>
    obtain ⟨k, hfk, hkt, rfl, O2, hb⟩ := hrel
    by_cases hlt : k < t
    · have hkl : k < l.length := by rw [N.out]; omega
      obtain ⟨g, rfl⟩ : ∃ g, a2 = some ⟨g, 0, none⟩ := by
        rcases O2.out.2 with ⟨e, _⟩ | ⟨g, cap, cur, e, _⟩
        · simp only [Value.slice.injEq] at e; omega
        · simp only [Value.slice.injEq] at e; exact ⟨g, e.1⟩
      have hlt3 := (O2.out.lt g rfl)
      obtain ⟨_, o2, o3⟩ := cellsR_at (turnR (linkC s) l f k) k (by rw [turnR_length]; exact hkl)
      rw [turnR_at (Nat.le_refl _)] at o2 o3
      have hts := turnR_next (u := linkC s) hkl hfk
      have e5 := cellsR_set_h (turnR (linkC s) l f k) k (s) (by rw [turnR_length]; exact hkl)
      rw [turnR_at (Nat.le_refl _)] at e5
      obtain ⟨X, hX⟩ : ∃ X, l[k]! = X := ⟨_, rfl⟩
      rw [hX] at o2 o3 hts e5
      clear hX
      have hcl : wr.cell? ⟨g, k * 3 + 2, none⟩ = some (.string X.2.2) := (O2.out.cellAt _ (by omega)).trans o3
      have hfr := O2.out.frozenAt (k * 3 + 2)
      have hnx := O2.out.stored (k * 3 + 2) (.string s)
      have hnc : n ≤ c2 ∧ c2 ≤ maxLen := by
        rcases O2.out.2 with ⟨e, _⟩ | ⟨g, cap, cur, e, _, _, h5, h6, _⟩
        · simp at e
        · simp only [Value.slice.injEq, true_and] at e; obtain ⟨_, rfl⟩ := e; exact ⟨h5, h6⟩
      unfold maxLen at hnc
      obtain ⟨hnc1, hnc2⟩ := hnc
      have hkI : (k : Int) < (t : Int) := by omega
      have hkn : (k : Int) < (n : Int) := by omega
      have NX := Lib.hid hnx
      have HTS := Lib.hid hts
      have E5 := Lib.hid e5
      clear hnx o2 o3 hts e5
      go_wp2
      go_roundw
      case rel =>
        refine ⟨k + 1, by omega, hlt, by go_num, Lib.hid ?_, Lib.hid ?_⟩
        · have h := NX.out.1
          rw [HTS.out]
          have e6 : (linkC s) X = (X.1, X.2.1, s) := rfl
          rw [e6, E5.out]
          exact h
        · exact hb.out.setCell (p := ⟨g, k * 3 + 2, none⟩) hlt3.1 _
      case measure => simp [RowKit.intOf]; omega
    · have hkt2 : k = t := by omega
      subst hkt2
      go_wp2
      go_ret2
      exact ⟨_, rfl, by rw [turnR_length, N.out]; exact O2.out, hb.out⟩

set_option maxHeartbeats 2000000 in
theorem rset_off (v : Value) (l : Row) (f t s c : Int) (w : World) (hv : RowAt w v l) (h : fitB l.length f t = false) :
    Calls Tryz.prog 87 #[v, .int .i64 f, .int .i64 t, .int .i64 s, .int .i64 c] w fun e w' => e = .returned errV ∧ Below w.heap.size w w' := by
  have hc := rspan_any v l f t w hv
  rw [h] at hc
  unfold errV
  clear hv h
  go_enter Tryz.func87, Tryz.ntmps87
  go_wp2_with (go_at_call 95; ((with_reducible refine hc.mono ?_); rintro e w1 ⟨rfl, rfl⟩))
  go_ret2
  exact ⟨rfl, Below.refl _ _⟩
set_option maxHeartbeats 2000000 in
theorem rlinks_off (v : Value) (l : Row) (f t : Int) (s : ByteArray) (w : World) (hv : RowAt w v l) (hs : s.size ≤ 1000000) (h : (linkS s && fitB l.length f t) = false) :
    Calls Tryz.prog 91 #[v, .int .i64 f, .int .i64 t, .string s] w fun e w' => e = .returned errV ∧ Below w.heap.size w w' := by
  have hc := rspan_any v l f t w hv
  have cK := rlink_any s w hs
  unfold errV
  cases hf : fitB l.length f t with
  | false =>
    rw [hf] at hc
    clear hv h hf cK
    go_enter Tryz.func91, Tryz.ntmps91
    go_wp2_with (go_at_call 95; ((with_reducible refine hc.mono ?_); rintro e w1 ⟨rfl, rfl⟩))
    go_ret2
    exact ⟨rfl, Below.refl _ _⟩
  | true =>
    rw [hf] at hc
    have hL : linkS s = false := by rw [hf, Bool.and_true] at h; exact h
    rw [hL] at cK
    clear hv h hf hL
    go_enter Tryz.func91, Tryz.ntmps91
    go_wp2_with (first
      | (go_at_call 95; ((with_reducible refine hc.mono ?_); rintro e w1 ⟨rfl, rfl⟩))
      | (go_at_call 90; ((with_reducible refine cK.mono ?_); rintro e w1 ⟨rfl, hb1⟩)))
    go_ret2
    exact ⟨rfl, hb1⟩

theorem any_part {P : Ce → Bool} {l : Row} {k t : Nat} (hk : k < t) (ht : t ≤ l.length) : ((l.drop k).take (t - k)).any P = (P l[k]! || ((l.drop (k + 1)).take (t - (k + 1))).any P) := by
  have hkl : k < l.length := by omega
  have e : l.drop k = l[k]! :: l.drop (k + 1) := by
    rw [List.drop_eq_getElem_cons hkl, List.getElem!_eq_getElem?_getD, List.getElem?_eq_getElem hkl]; rfl
  have e2 : t - k = (t - (k + 1)) + 1 := by omega
  rw [e, e2, List.take_succ_cons]
  rfl

set_option maxHeartbeats 4000000 in
theorem rall_any (v : Value) (l : Row) (f t q : Int) (w : World) (hv : RowAt w v l) (hl : l.length ≤ 100000) :
    Calls Tryz.prog 51 #[v, .int .i64 f, .int .i64 t, .int .i64 q] w fun e w' => e = .returned (.bool (allO l f t q)) ∧ w = w' := by
  have hc := rspan_any v l f t w hv
  unfold allO
  by_cases hB : fitB l.length f t = true
  · have h' := of_decide_eq_true hB
    obtain ⟨i, rfl⟩ := Int.eq_ofNat_of_zero_le h'.1
    obtain ⟨j, rfl⟩ := Int.eq_ofNat_of_zero_le (show 0 ≤ t by omega)
    rw [hB] at hc ⊢
    rw [Bool.true_and, Int.toNat_natCast, Int.toNat_natCast]
    obtain ⟨R, hR⟩ : ∃ R, ((l.drop i).take (j - i)).any (lacksB q) = R := ⟨_, rfl⟩
    rw [hR]
    have HR := Lib.hid hR
    have hij : i ≤ j := by omega
    have hjl : j ≤ l.length := by omega
    have V := Lib.hid hv
    obtain ⟨a, c, rfl⟩ := hv.len
    obtain ⟨n, hn⟩ : ∃ n, l.length = n := ⟨_, rfl⟩
    rw [hn] at V hl hc hjl ⊢
    have N := Lib.hid hn
    obtain ⟨Z, hZ⟩ : ∃ Z, (decide ((i : Int) < (j : Int)) && !R) = Z := ⟨_, rfl⟩
    rw [hZ]
    have HZ := Lib.hid hZ
    clear hv hB h' hR hn hZ
    go_enter Tryz.func51, Tryz.ntmps51
    go_wp2_with (go_at_call 95; ((with_reducible refine hc.mono ?_); rintro e w1 ⟨rfl, rfl⟩))
    go_loop [9] (fun m => ∃ k : Nat, i ≤ k ∧ k ≤ j ∧ m = .int .i64 k ∧ Hid (((l.drop k).take (j - k)).any (lacksB q) = R)) (fun m => j - (RowKit.intOf m).toNat)
    case atStart => exact ⟨i, Nat.le_refl _, hij, rfl, HR⟩
    case round =>
      obtain ⟨k, hik, hkj, rfl, HK⟩ := hrel
      by_cases hlt : k < j
      · obtain ⟨b, o, c2, e, hlc, hcm, hbl, hcs⟩ := V.out.lies (by rw [N.out]; omega)
        rw [N.out] at e hlc
        obtain ⟨rfl, _, rfl⟩ := Value.slice.inj e
        unfold maxLen at hcm
        obtain ⟨x1, x2, x3⟩ := hcs k (by rw [N.out]; omega)
        have hst := any_part (P := lacksB q) hlt (by rw [N.out]; exact hjl)
        rw [HK.out] at hst
        obtain ⟨X, hX⟩ : ∃ X, l[k]! = X := ⟨_, rfl⟩
        rw [hX] at x2 hst
        have hP : lacksB q X = (bits .and .i64 X.2.1 q != q) := by unfold lacksB andZ; rw [Bool.eq_iff_iff]; simp
        rw [hP] at hst
        obtain ⟨Y, hY⟩ : ∃ Y, bits .and .i64 X.2.1 q = Y := ⟨_, rfl⟩
        rw [hY] at hst
        have HS := Lib.hid hst
        have hkI : (k : Int) < (j : Int) := by omega
        have hkn : (k : Int) < (n : Int) := by omega
        clear hst HK hX hcs e x1 x3 hP
        by_cases hq : Y = q
        · have hqb : (Y != q) = false := by simpa using hq
          have HS2 : Hid (((l.drop (k + 1)).take (j - (k + 1))).any (lacksB q) = R) := Lib.hid (by have := HS.out; rw [hqb, Bool.false_or] at this; exact this.symm)
          clear HS
          go_wp2
          go_round
          case rel => exact ⟨k + 1, by omega, hlt, by go_num, HS2⟩
          case measure => simp [RowKit.intOf]; omega
        · have hqb : (Y != q) = true := by simpa using hq
          have HS2 : Hid (R = true) := Lib.hid (by have := HS.out; rw [hqb, Bool.true_or] at this; exact this)
          clear HS hq
          go_wp2
          go_ret
          exact ⟨ret_bool (by rw [← HZ.out, HS2.out]; simp), rfl⟩
      · have hkj2 : k = j := by omega
        subst hkj2
        have hR2 : R = false := by rw [← HK.out, Nat.sub_self]; rfl
        have HR2 := Lib.hid hR2
        clear hR2
        go_wp2
        all_goals go_ret
        exact ⟨ret_bool (by rw [← HZ.out, HR2.out]; simp), rfl⟩
  · have hB2 : fitB l.length f t = false := by simpa using hB
    rw [hB2] at hc ⊢
    rw [Bool.false_and, Bool.false_and]
    clear hB hB2 hv
    go_enter Tryz.func51, Tryz.ntmps51
    go_wp2_with (go_at_call 95; ((with_reducible refine hc.mono ?_); rintro e w1 ⟨rfl, rfl⟩))
    go_ret
    exact ⟨rfl, rfl⟩

set_option maxHeartbeats 4000000 in
theorem rsome_any (v : Value) (l : Row) (f t q : Int) (w : World) (hv : RowAt w v l) (hl : l.length ≤ 100000) :
    Calls Tryz.prog 53 #[v, .int .i64 f, .int .i64 t, .int .i64 q] w fun e w' => e = .returned (.bool (someO l f t q)) ∧ w = w' := by
  have hc := rspan_any v l f t w hv
  unfold someO
  by_cases hB : fitB l.length f t = true
  · have h' := of_decide_eq_true hB
    obtain ⟨i, rfl⟩ := Int.eq_ofNat_of_zero_le h'.1
    obtain ⟨j, rfl⟩ := Int.eq_ofNat_of_zero_le (show 0 ≤ t by omega)
    rw [hB] at hc ⊢
    rw [Bool.true_and, Int.toNat_natCast, Int.toNat_natCast]
    obtain ⟨R, hR⟩ : ∃ R, ((l.drop i).take (j - i)).any (hasB q) = R := ⟨_, rfl⟩
    rw [hR]
    have HR := Lib.hid hR
    have hij : i ≤ j := by omega
    have hjl : j ≤ l.length := by omega
    have V := Lib.hid hv
    obtain ⟨a, c, rfl⟩ := hv.len
    obtain ⟨n, hn⟩ : ∃ n, l.length = n := ⟨_, rfl⟩
    rw [hn] at V hl hc hjl ⊢
    have N := Lib.hid hn
    obtain ⟨Z, hZ⟩ : ∃ Z, R = Z := ⟨_, rfl⟩
    rw [hZ]
    have HZ := Lib.hid hZ
    clear hv hB h' hR hn hZ
    go_enter Tryz.func53, Tryz.ntmps53
    go_wp2_with (go_at_call 95; ((with_reducible refine hc.mono ?_); rintro e w1 ⟨rfl, rfl⟩))
    go_loop [9] (fun m => ∃ k : Nat, i ≤ k ∧ k ≤ j ∧ m = .int .i64 k ∧ Hid (((l.drop k).take (j - k)).any (hasB q) = R)) (fun m => j - (RowKit.intOf m).toNat)
    case atStart => exact ⟨i, Nat.le_refl _, hij, rfl, HR⟩
    case round =>
      obtain ⟨k, hik, hkj, rfl, HK⟩ := hrel
      by_cases hlt : k < j
      · obtain ⟨b, o, c2, e, hlc, hcm, hbl, hcs⟩ := V.out.lies (by rw [N.out]; omega)
        rw [N.out] at e hlc
        obtain ⟨rfl, _, rfl⟩ := Value.slice.inj e
        unfold maxLen at hcm
        obtain ⟨x1, x2, x3⟩ := hcs k (by rw [N.out]; omega)
        have hst := any_part (P := hasB q) hlt (by rw [N.out]; exact hjl)
        rw [HK.out] at hst
        obtain ⟨X, hX⟩ : ∃ X, l[k]! = X := ⟨_, rfl⟩
        rw [hX] at x2 hst
        have hP : hasB q X = (bits .and .i64 X.2.1 q != 0) := by unfold hasB andZ; rw [Bool.eq_iff_iff]; simp
        rw [hP] at hst
        obtain ⟨Y, hY⟩ : ∃ Y, bits .and .i64 X.2.1 q = Y := ⟨_, rfl⟩
        rw [hY] at hst
        have HS := Lib.hid hst
        have hkI : (k : Int) < (j : Int) := by omega
        have hkn : (k : Int) < (n : Int) := by omega
        clear hst HK hX hcs e x1 x3 hP
        by_cases hq : Y = 0
        · have hqb : (Y != 0) = false := by simpa using hq
          have HS2 : Hid (((l.drop (k + 1)).take (j - (k + 1))).any (hasB q) = R) := Lib.hid (by have := HS.out; rw [hqb, Bool.false_or] at this; exact this.symm)
          clear HS
          go_wp2
          go_round
          case rel => exact ⟨k + 1, by omega, hlt, by go_num, HS2⟩
          case measure => simp [RowKit.intOf]; omega
        · have hqb : (Y != 0) = true := by simpa using hq
          have HS2 : Hid (R = true) := Lib.hid (by have := HS.out; rw [hqb, Bool.true_or] at this; exact this)
          clear HS hq
          go_wp2
          go_ret
          exact ⟨ret_bool (by rw [← HZ.out, HS2.out]), rfl⟩
      · have hkj2 : k = j := by omega
        subst hkj2
        have hR2 : R = false := by rw [← HK.out, Nat.sub_self]; rfl
        have HR2 := Lib.hid hR2
        clear hR2
        go_wp2
        all_goals go_ret
        exact ⟨ret_bool (by rw [← HZ.out, HR2.out]), rfl⟩
  · have hB2 : fitB l.length f t = false := by simpa using hB
    rw [hB2] at hc ⊢
    rw [Bool.false_and]
    clear hB hB2 hv
    go_enter Tryz.func53, Tryz.ntmps53
    go_wp2_with (go_at_call 95; ((with_reducible refine hc.mono ?_); rintro e w1 ⟨rfl, rfl⟩))
    go_ret
    exact ⟨rfl, rfl⟩

end Go.Proofs.YtafincmcmgedbaaGreatDoor
