/-
  The walk of the statement AttrsSame.
-/
import Derived.Test.YtcccaaleekednaaDoorWalksH
import Derived.Test.YtcccaaleekednaaDoorWalksI
import Derived.Test.YtcccaaleekednaaDoorWalksJ
namespace Go.Proofs.YtcccaaleekednaaDoor
open Go.RowKit Go.Lib

theorem sameR_comm (l m : Row) : sameR m l = sameR l m := by
  unfold sameR
  rw [decide_eq_decide]
  exact eq_comm
theorem sameR_self (l : Row) : sameR l l = true := decide_eq_true rfl

set_option maxHeartbeats 4000000 in
theorem lawSame_walk (v1 v2 : Value) (l m : Row) (w : World) (hE : Env w) (h1 : RowAt w v1 l) (h2 : RowAt w v2 m)
    (hz1 : ∀ a ∈ l, a.1.size ≤ 140737488355328 ∧ a.2.size ≤ 140737488355328) (hz2 : ∀ a ∈ m, a.1.size ≤ 140737488355328 ∧ a.2.size ≤ 140737488355328) :
    Calls Tryd.prog 5 #[v1, v2] w fun e w' => e = .returned (.bool true) ∧ Below w.heap.size w w' := by
  have cW := fun wx hx => awake_any wx hx
  have hb := Below.refl w.heap.size w
  go_enter Tryd.func5, Tryd.ntmps5
  go_wp2_with fail
  refine (long_any v1 _ l [] _ h1 (.inl ⟨rfl, rfl⟩) hz1 (by decide) (by simp)).mono ?_
  rintro e w1 ⟨b, rfl, hs1, hb1⟩
  replace hb := hb.trans (hb1.mono hb.size)
  clear hb1
  cases b with
  | true =>
    clear hs1
    go_wp2_with (go_at_call 9; ((with_reducible refine (cW _ (hE.below hb)).mono ?_); rintro e wn ⟨rfl, hbn⟩; replace hb := hb.trans (hbn.mono hb.size)))
    go_ret
    exact ⟨rfl, hb⟩
  | false =>
    have HS1 := Lib.hid (hs1 rfl)
    clear hs1
    go_wp2_with fail
    refine (long_any v2 _ m [] _ (h2.below hb) (.inl ⟨rfl, rfl⟩) hz2 (by decide) (by simp)).mono ?_
    rintro e w2 ⟨b, rfl, hs2, hb2⟩
    replace hb := hb.trans (hb2.mono hb.size)
    clear hb2
    cases b with
    | true =>
      clear hs2
      go_wp2_with (go_at_call 9; ((with_reducible refine (cW _ (hE.below hb)).mono ?_); rintro e wn ⟨rfl, hbn⟩; replace hb := hb.trans (hbn.mono hb.size)))
      go_ret
      exact ⟨rfl, hb⟩
    | false =>
      obtain ⟨hl1, _⟩ := HS1.out
      clear HS1 hs2
      have c12 := fun wx ha hb => same_any v1 v2 l m wx ha hb
      have c21 := fun wx ha hb => same_any v2 v1 m l wx ha hb
      have c11 := fun wx ha hb => same_any v1 v1 l l wx ha hb
      have r12 := fun wx ha hb => rsame_any v1 v2 l m wx ha hb (by omega)
      obtain ⟨S, hS⟩ : ∃ S, sameR l m = S := ⟨_, rfl⟩
      simp only [sameR_comm l m, sameR_self, hS] at c12 c21 c11 r12
      clear hS
      cases S with
      | true =>
        go_wp2_with (first
          | (go_at_call 29; ((with_reducible refine (c12 _ (h1.below hb) (h2.below hb)).mono ?_); rintro e wn ⟨rfl, hbn⟩; replace hb := hb.trans (hbn.mono hb.size)))
          | (go_at_call 29; ((with_reducible refine (c21 _ (h2.below hb) (h1.below hb)).mono ?_); rintro e wn ⟨rfl, hbn⟩; replace hb := hb.trans (hbn.mono hb.size)))
          | (go_at_call 29; ((with_reducible refine (c11 _ (h1.below hb) (h1.below hb)).mono ?_); rintro e wn ⟨rfl, hbn⟩; replace hb := hb.trans (hbn.mono hb.size)))
          | (go_at_call 27; ((with_reducible refine (r12 _ (h1.below hb) (h2.below hb)).mono ?_); rintro e wn ⟨rfl, hbn⟩; replace hb := hb.trans (hbn.mono hb.size)))
          | (go_at_call 9; ((with_reducible refine (cW _ (hE.below hb)).mono ?_); rintro e wn ⟨rfl, hbn⟩; replace hb := hb.trans (hbn.mono hb.size))))
        go_ret
        exact ⟨rfl, hb⟩
      | false =>
        go_wp2_with (first
          | (go_at_call 29; ((with_reducible refine (c12 _ (h1.below hb) (h2.below hb)).mono ?_); rintro e wn ⟨rfl, hbn⟩; replace hb := hb.trans (hbn.mono hb.size)))
          | (go_at_call 29; ((with_reducible refine (c21 _ (h2.below hb) (h1.below hb)).mono ?_); rintro e wn ⟨rfl, hbn⟩; replace hb := hb.trans (hbn.mono hb.size)))
          | (go_at_call 29; ((with_reducible refine (c11 _ (h1.below hb) (h1.below hb)).mono ?_); rintro e wn ⟨rfl, hbn⟩; replace hb := hb.trans (hbn.mono hb.size)))
          | (go_at_call 27; ((with_reducible refine (r12 _ (h1.below hb) (h2.below hb)).mono ?_); rintro e wn ⟨rfl, hbn⟩; replace hb := hb.trans (hbn.mono hb.size)))
          | (go_at_call 9; ((with_reducible refine (cW _ (hE.below hb)).mono ?_); rintro e wn ⟨rfl, hbn⟩; replace hb := hb.trans (hbn.mono hb.size))))
        go_ret
        exact ⟨rfl, hb⟩

end Go.Proofs.YtcccaaleekednaaDoor
