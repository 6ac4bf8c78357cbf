/-
  The document's Insert, Cut, Part.
-/
import Derived.Test.YtafincmcmgedbaaGreatDoorCFit
import Derived.Test.YtafincmcmgedbaaGreatDoorCConcat
import Derived.Test.YtafincmcmgedbaaGreatDoorCDocFit
import Derived.Test.YtafincmcmgedbaaGreatDoorCAppG

namespace Go.Proofs.YtafincmcmgedbaaGreatDoor
open Go.RowKit Go.Lib

set_option maxHeartbeats 2000000 in
theorem rinsert_off (v u : Value) (l : Row) (k : Int) (w : World) (hv : RowAt w v l) (h : fitB l.length k k = false) :
    Calls Tryz.prog 80 #[v, .int .i64 k, u] w fun e w' => e = .returned errV ∧ Below w.heap.size w w' := by
  have hc := rspan_any v l k k w hv
  rw [h] at hc
  unfold errV
  clear hv h
  go_enter Tryz.func80, Tryz.ntmps80
  go_wp2_with (go_at_call 95; ((with_reducible refine hc.mono ?_); rintro e w1 ⟨rfl, rfl⟩))
  go_ret2
  exact ⟨rfl, Below.refl _ _⟩

set_option maxHeartbeats 4000000 in
theorem rinsert_on (v u : Value) (l m : Row) (k : Nat) (w : World) (hv : RowAt w v l) (hu : RowAt w u m) (hl : l.length ≤ 50000) (hm : m.length ≤ 50000) (hk : k ≤ l.length) :
    Calls Tryz.prog 80 #[v, .int .i64 (k : Int), u] w (RowPost (l.take k ++ m ++ l.drop k) w) := by
  have hc := rspan_any v l k k w hv
  have hB : fitB l.length k k = true := decide_eq_true (by omega)
  rw [hB] at hc
  obtain ⟨v1, r1, s1⟩ := slice_h hv k hk
  obtain ⟨v2, r2, s2⟩ := slice_l hv k hk
  have hz1 : (l.take k).length ≤ 50000 := by rw [List.length_take]; omega
  have hz2 : (l.drop k).length ≤ 50000 := by rw [List.length_drop]; omega
  obtain ⟨R1, hR1⟩ : ∃ R, l.take k = R := ⟨_, rfl⟩
  obtain ⟨R2, hR2⟩ : ∃ R, l.drop k = R := ⟨_, rfl⟩
  rw [hR1] at r1 hz1 ⊢
  rw [hR2] at r2 hz2 ⊢
  have q2 := Lib.hid r2
  have q3 := Lib.hid hu
  have cO := rown_any v1 R1 w r1 (by omega)
  unfold OwnPost at cO
  clear hv hu hB r1 r2 hl hk hR1 hR2
  go_enter Tryz.func80, Tryz.ntmps80
  go_wp2_with (first
    | (go_at_call 95; ((with_reducible refine hc.mono ?_); rintro e w1 ⟨rfl, rfl⟩))
    | (go_at_call 35; ((with_reducible refine cO.mono ?_); rintro e w1 ⟨v', rfl, hown, hb⟩))
    | (at_builtin; refine wpList_append_row rfl _ _ rfl w.heap.size _ R1 rfl hown _ m rfl (q3.out.below hb) (by omega) hb.size ?_; intro v3 w3 own3 grow3; replace hb := hb.grown grow3 hb.size (fun k e => (hown.lt k e).1))
    | (at_builtin; refine wpList_append_row rfl _ _ rfl w.heap.size _ (R1 ++ m) rfl own3 _ R2 rfl (q2.out.below hb) (by rw [List.length_append]; omega) hb.size ?_; intro v4 w4 own4 grow4; replace hb := hb.grown grow4 hb.size (fun k e => (own3.lt k e).1)))
  go_ret2
  exact ⟨_, rfl, own4, hb⟩

end Go.Proofs.YtafincmcmgedbaaGreatDoor
