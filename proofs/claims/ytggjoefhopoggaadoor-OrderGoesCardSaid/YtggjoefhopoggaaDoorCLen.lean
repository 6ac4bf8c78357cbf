/-
  Length, May, Clamp.
  May, Clamp: a place in a box. Written by gen_place.py.
-/
import Derived.Test.YtggjoefhopoggaaDoorCRead
import Derived.Lib.TrimU
import Derived.Deep.RegionHeld3
import Derived.Deep.QuietTactic

namespace Go.Proofs.YtggjoefhopoggaaDoor
open Go.RowKit Go.Lib

def charsN (s : ByteArray) : Nat := (runesI s s.size 0).length
def ShortS (L : Sk) : Prop := ∀ id, (toldS L id).size ≤ 8192
theorem charsN_le (s : ByteArray) : charsN s ≤ s.size := runesI_len s s.size 0
theorem shortS_nil : ShortS [] := fun id => by rw [toldS_nil]; decide

set_option maxRecDepth 20000 in
set_option maxHeartbeats 4000000 in
theorem characters_any (s : ByteArray) (hs : s.size ≤ 1000000000) (w : World) :
    Calls Tryd.prog 38 #[.string s] w fun e w' => e = .returned (.int .i64 (charsN s : Int)) ∧ Below w.heap.size w w' := by
  have hle := charsN_le s
  obtain ⟨N, hN⟩ : ∃ N, charsN s = N := ⟨_, rfl⟩
  rw [hN] at hle ⊢
  have H0 : Hid (0 + (runesI s s.size 0).length = N) := Lib.hid (by rw [Nat.zero_add]; exact hN)
  clear hN
  go_enter Tryd.func38, Tryd.ntmps38
  go_wp2
  go_loopg [3] s.size (fun gk s3 wx => ∃ pos c : Nat, s3 = .int .i64 (c : Int) ∧ wx.heap[w.heap.size]? = some (.stringIter s pos) ∧ Below w.heap.size w wx ∧ Hid (c + (runesI s gk pos).length = N) ∧ s.size ≤ pos + gk ∧ c ≤ s.size)
  case atStart =>
    exact ⟨0, 0, rfl, World.iter_heap w s 0, (Below.refl _ w).alloc (Nat.le_refl _) _, H0, by omega, by omega⟩
  case round =>
    obtain ⟨pos, c, rfl, hit, hbw, hsp, hfu, hps⟩ := hrel
    by_cases hlt : pos < s.size
    · obtain ⟨g', rfl⟩ : ∃ g', gk = g' + 1 := ⟨gk - 1, by omega⟩
      have hnx : ∀ ty, (Instr.next (.pointer (some ⟨w.heap.size, 0, none⟩)) true ty).run Tryd.prog wr = _ := fun ty => Lib.run_next_any_at wr w.heap.size s pos ty hit hlt
      have hwd := Lib.width_pos s pos
      have hstep := hsp.out
      rw [runesI, if_pos hlt] at hstep
      obtain ⟨R, hR⟩ : ∃ R, (Utf8.decode s pos).1 = R := ⟨_, rfl⟩
      obtain ⟨K, hK⟩ : ∃ K, (Utf8.decode s pos).2 = K := ⟨_, rfl⟩
      rw [hR, hK] at hnx hstep
      rw [hK] at hwd
      have hit2 := Lib.iterAt_heap wr w.heap.size s pos (pos + K) hit
      have hbw2 := Lib.below_iterAt hbw (k := w.heap.size) (Nat.le_refl _) s (pos + K)
      obtain ⟨W, hWd⟩ : ∃ W, wr.iterAt w.heap.size s (pos + K) = W := ⟨_, rfl⟩
      rw [hWd] at hnx hit2 hbw2
      have HS : Hid (c + 1 + (runesI s g' (pos + K)).length = N) := Lib.hid (by rw [List.length_cons] at hstep; omega)
      have hcN : c + 1 ≤ s.size := by rw [List.length_cons] at hstep; omega
      clear hit hbw hWd hstep hsp hR hK
      go_wp2
      go_roundg g'
      case measure => omega
      case rel => exact ⟨pos + K, c + 1, by go_num, hit2, hbw2, HS, by omega, hcN⟩
    · have hnx : ∀ ty, (Instr.next (.pointer (some ⟨w.heap.size, 0, none⟩)) true ty).run Tryd.prog wr = _ := fun ty => Lib.run_next_end_at wr w.heap.size s pos ty hit hlt
      have e0 : runesI s gk pos = [] := by cases gk <;> simp [runesI, hlt]
      have HS : Hid (c = N) := Lib.hid (by have := hsp.out; rw [e0] at this; simpa using this)
      clear hit hsp e0
      go_wp2
      go_ret
      exact ⟨by rw [HS.out]; rfl, hbw⟩

def lengthS (L : Sk) (id : Int) : Int := if hasS L id then (if tagS L id = 0 then (charsN (toldS L id) : Int) else ((kidsS L id).length : Int)) else -1
theorem lengthS_nil (id : Int) : lengthS [] id = -1 := by unfold lengthS; rw [hasS_nil]; rfl
theorem lengthS_pos {L : Sk} {id : Int} (h : hasS L id = true) : 0 ≤ lengthS L id := by unfold lengthS; rw [if_pos h]; split <;> omega
theorem lengthS_le {w : World} {v : Value} {L : Sk} (h : Tv w v L) (hS : ShortS L) (id : Int) : -1 ≤ lengthS L id ∧ lengthS L id ≤ 8192 := by
  have h1 := h.len.2 id
  have h2 := hS id
  have h3 := charsN_le (toldS L id)
  unfold lengthS
  split
  · split <;> omega
  · omega
set_option maxRecDepth 20000 in
set_option maxHeartbeats 4000000 in
theorem length_v {w : World} {a : Option Addr} {L : Sk} (h : Tv w (.pointer a) L) (hS : ShortS L) (id : Int) :
    Calls Tryd.prog 16 #[.pointer a, .int .i64 id] w fun e w' => e = .returned (.int .i64 (lengthS L id)) ∧ Below w.heap.size w w' := by
  have cH := has_v h id
  have cT := tag_v h id
  have cO := told_v h id
  have cK := kids_v h id
  have cC := characters_any (toldS L id) (by have := hS id; omega)
  unfold lengthS
  cases hh : hasS L id with
  | false =>
    rw [hh] at cH
    rw [if_neg (by decide)]
    clear hh h hS
    go_enter Tryd.func16, Tryd.ntmps16
    go_wp2_with (go_at_call 22; ((with_reducible refine (cH).mono ?_); rintro e w1 ⟨rfl, rfl⟩))
    go_ret
    exact ⟨rfl, Below.refl _ _⟩
  | true =>
    rw [hh] at cH
    rw [if_pos rfl]
    obtain ⟨S, hS2⟩ : ∃ S, toldS L id = S := ⟨_, rfl⟩
    obtain ⟨K, hK⟩ : ∃ K, kidsS L id = K := ⟨_, rfl⟩
    rw [hS2] at cO cC ⊢
    rw [hK] at cK ⊢
    by_cases ht : tagS L id = 0
    · rw [if_pos ht]
      rw [ht] at cT
      clear hh h hS ht hK hS2
      go_enter Tryd.func16, Tryd.ntmps16
      go_wp2_with (first
        | (go_at_call 22; ((with_reducible refine (cH).mono ?_); rintro e w1 ⟨rfl, rfl⟩))
        | (go_at_call 37; ((with_reducible refine (cT).mono ?_); rintro e w1 ⟨rfl, rfl⟩))
        | (go_at_call 39; ((with_reducible refine (cO).mono ?_); rintro e w1 ⟨rfl, rfl⟩))
        | (go_at_call 38; ((with_reducible refine (cC _).mono ?_); rintro e w1 ⟨rfl, hb⟩)))
      go_ret
      exact ⟨rfl, hb⟩
    · rw [if_neg ht]
      obtain ⟨t, ht2⟩ : ∃ t, tagS L id = t := ⟨_, rfl⟩
      rw [ht2] at cT ht
      have htb : (t == 0) = false := by simpa using ht
      clear hh h hS ht2 hK hS2
      go_enter Tryd.func16, Tryd.ntmps16
      go_wp2_with (first
        | (go_at_call 22; ((with_reducible refine (cH).mono ?_); rintro e w1 ⟨rfl, rfl⟩))
        | (go_at_call 37; ((with_reducible refine (cT).mono ?_); rintro e w1 ⟨rfl, rfl⟩))
        | (go_at_call 32; ((with_reducible refine (cK).mono ?_); rintro e w1 hO; obtain ⟨ka, kc, rfl, _, _, hb⟩ := hO.open)))
      go_ret
      exact ⟨rfl, hb⟩

end Go.Proofs.YtggjoefhopoggaaDoor

namespace Go.Proofs.YtggjoefhopoggaaDoor
open Go.RowKit Go.Lib

theorem Tv.later {w W W' : World} {v : Value} {L : Sk} (h : Tv w v L) (h1 : Below w.heap.size w W) (h2 : Below W.heap.size W W') : Tv W' v L := (h.below h1).below h2
def mayS (L : Sk) (n at_ : Int) : Bool := decide (0 ≤ at_) && decide (at_ ≤ lengthS L n)

set_option maxRecDepth 20000 in
set_option maxHeartbeats 4000000 in
theorem omay_v {w : World} {a : Option Addr} {L : Sk} (h : Tv w (.pointer a) L) (hS : ShortS L) (n at_ : Int) :
    Calls Tryd.prog 17 #[.pointer a, .agg #[.int .i64 n, .int .i64 at_]] w fun e w' => e = .returned (.bool (mayS L n at_)) ∧ Below w.heap.size w w' := by
  have hb1 : Below w.heap.size w (w.alloc (.cells #[.int .i64 n, .int .i64 at_] 23)) := (Below.refl _ _).alloc (Nat.le_refl _) _
  have cL := fun W' (hb : Below (w.alloc (.cells #[.int .i64 n, .int .i64 at_] 23)).heap.size (w.alloc (.cells #[.int .i64 n, .int .i64 at_] 23)) W') => length_v (h.later hb1 hb) hS n
  unfold mayS
  obtain ⟨z, hz⟩ : ∃ z, lengthS L n = z := ⟨_, rfl⟩
  rw [hz] at cL ⊢
  obtain ⟨W, hW⟩ : ∃ W, w.alloc (.cells #[.int .i64 n, .int .i64 at_] 23) = W := ⟨_, rfl⟩
  have hsz : W.heap.size = w.heap.size + 1 := by rw [← hW]; simp
  have x0 : W.cell? ⟨w.heap.size, 0, none⟩ = some (.int .i64 n) := by rw [← hW]; simp [go_sem]
  have x1 : W.cell? ⟨w.heap.size, 1, none⟩ = some (.int .i64 at_) := by rw [← hW]; simp [go_sem]
  rw [hW] at cL hb1
  have KS : Hid (∀ w', Below W.heap.size W w' → (w'.cell? ⟨w.heap.size, 0, none⟩ = some (.int .i64 n) ∧ w'.cell? ⟨w.heap.size, 1, none⟩ = some (.int .i64 at_))) := Lib.hid (fun w' h => ⟨(h.cell (lt_of_cell' x0)).trans x0, (h.cell (lt_of_cell' x1)).trans x1⟩)
  have HB1 := Lib.hid hb1
  have hb := Lib.hid (Below.refl W.heap.size W)
  have HSZ := Lib.hid hsz
  clear h hS hz hb1 x0 x1 hsz
  by_cases h0 : at_ < 0
  · have hn0 : ¬ 0 ≤ at_ := by omega
    rw [decide_eq_false hn0, Bool.false_and]
    go_enter Tryd.func17, Tryd.ntmps17
    go_upto_region 1 with (fail)
    try rw [hW]
    clear hW
    have k0 := (KS.out W (Below.refl _ _)).1
    have k1 := (KS.out W (Below.refl _ _)).2
    go_quiet (fail)
    all_goals go_wp2
    all_goals go_ret
    all_goals exact ⟨rfl, HB1.out.trans ((bdraws W _).mono (by have := HSZ.out; omega))⟩
  · have h1 : 0 ≤ at_ := by omega
    rw [decide_eq_true h1, Bool.true_and]
    go_enter Tryd.func17, Tryd.ntmps17
    go_upto_region 1 with (fail)
    try rw [hW]
    clear hW
    go_region_held3 (fun W' => (W'.cell? ⟨w.heap.size, 0, none⟩ = some (.int .i64 n) ∧ W'.cell? ⟨w.heap.size, 1, none⟩ = some (.int .i64 at_))) (first | (with_reducible exact KS.out _ hb.out) | (refine KS.out _ ?_; (repeat (first | (with_reducible exact hb.out) | (with_reducible exact Below.refl _ _) | (with_reducible refine Below.drew ?_) | (with_reducible refine Below.alloc ?_ ?_ _) | (with_reducible refine Below.setCell ?_ ?_ _) | omega | (simp <;> omega))); done)) (first
    | (go_at_call 16; ((with_reducible refine (cL _ (show Below W.heap.size W _ by (repeat (first | (with_reducible exact hb.out) | (with_reducible exact Below.refl _ _) | (with_reducible refine Below.drew ?_) | (with_reducible refine Below.alloc ?_ ?_ _) | (with_reducible refine Below.setCell ?_ ?_ _) | omega | (simp <;> omega))))).mono ?_); rintro e w5 ⟨rfl, hb5⟩; have hd2 := Lib.hid ((show Below W.heap.size W _ by (repeat (first | (with_reducible exact hb.out) | (with_reducible exact Below.refl _ _) | (with_reducible refine Below.drew ?_) | (with_reducible refine Below.alloc ?_ ?_ _) | (with_reducible refine Below.setCell ?_ ?_ _) | omega | (simp <;> omega)))).trans (hb5.mono (by first | exact hb.out.size | (simp; exact hb.out.size) | (simp; omega)))); clear hb hb5; have hb := hd2; clear hd2)))
    all_goals go_wp2
    all_goals go_ret
    all_goals exact ⟨rfl, HB1.out.trans ((show Below W.heap.size W _ by (repeat (first | (with_reducible exact hb.out) | (with_reducible exact Below.refl _ _) | (with_reducible refine Below.drew ?_) | (with_reducible refine Below.alloc ?_ ?_ _) | (with_reducible refine Below.setCell ?_ ?_ _) | omega | (simp <;> omega)))).mono (by have := HSZ.out; omega))⟩

end Go.Proofs.YtggjoefhopoggaaDoor
