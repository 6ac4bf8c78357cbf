/-
  The walk of the statement AttrsTell.
-/
import Derived.Test.YtcccaaleekednaaDoorWalksH
import Derived.Test.YtcccaaleekednaaDoorWalksI
import Derived.Test.YtcccaaleekednaaDoorWalksL
namespace Go.Proofs.YtcccaaleekednaaDoor
open Go.RowKit Go.Lib

theorem texts_one (w : World) (s : ByteArray) (t : TypeId) : TextsAt (w.alloc (.cells #[.string s] t)) (.slice (some ⟨w.heap.size, 0, none⟩) 1 1) [s] := by
  refine .inr ⟨w.heap.size, 1, rfl, by simp, by simp, fun j hj => ?_⟩
  obtain rfl : j = 0 := by simpa using hj
  simp

set_option maxHeartbeats 4000000 in
theorem lawTell_walk (s : ByteArray) (w : World) (hE : Env w) (hs : s.size ≤ 140737488355328) :
    Calls Tryd.prog 3 #[.string s] w fun e w' => e = .returned (.bool true) ∧ Below w.heap.size w w' := by
  have cW := fun wx hx => awake_any wx hx
  have hb := (Below.refl w.heap.size w).alloc (Nat.le_refl _) (.cells #[.string s] 9)
  go_enter Tryd.func3, Tryd.ntmps3
  go_wp2_with fail
  refine (long_any _ _ [] [s] _ (.inl ⟨none, 0, rfl, fun _ => rfl, rfl⟩) (texts_one w s 9) (fun a ha => by cases ha) (by simp [tot]; omega) (by simp)).mono ?_
  rintro e w1 ⟨b, rfl, hs1, hb1⟩
  replace hb := hb.trans (hb1.mono hb.size)
  clear hb1
  cases b with
  | true =>
    clear hs1
    go_wp2_with (go_at_call 9; ((with_reducible refine (cW _ (hE.below hb)).mono ?_); rintro e wn ⟨rfl, hbn⟩; replace hb := hb.trans (hbn.mono hb.size)))
    go_ret
    exact ⟨rfl, hb⟩
  | false =>
    have hs2 := (hs1 rfl).2
    have hs3 : s.size ≤ 20000 := by simp [tot, totR] at hs2; exact hs2
    clear hs1 hs2 hs
    have cN := fun wx => name_any s wx (by omega)
    have rN := fun wx => rname_any s wx (by omega)
    have cV := fun wx hx => value_any s wx (by omega) hx
    have rV := fun wx => rvalue_any s wx (by omega)
    have cT := fun wx hx => target_any s wx (by omega) hx
    have rT := fun wx => rtarget_any s wx (by omega)
    obtain ⟨N, hN⟩ : ∃ N, nameS s = N := ⟨_, rfl⟩
    obtain ⟨V, hV⟩ : ∃ V, valueS s = V := ⟨_, rfl⟩
    obtain ⟨T, hT⟩ : ∃ T, targetS s = T := ⟨_, rfl⟩
    simp only [hN, hV, hT] at cN rN cV rV cT rT
    clear hN hV hT
    cases N <;> cases V <;> cases T
    all_goals
      go_wp2_with (first
        | (go_at_call 10; ((with_reducible refine (cN _).mono ?_); rintro e wn ⟨rfl, hbn⟩; replace hb := hb.trans (hbn.mono hb.size)))
        | (go_at_call 11; ((with_reducible refine (rN _).mono ?_); rintro e wn ⟨rfl, rfl⟩))
        | (go_at_call 12; ((with_reducible refine (cV _ (hE.below hb)).mono ?_); rintro e wn ⟨rfl, hbn⟩; replace hb := hb.trans (hbn.mono hb.size)))
        | (go_at_call 13; ((with_reducible refine (rV _).mono ?_); rintro e wn ⟨rfl, hbn⟩; replace hb := hb.trans (hbn.mono hb.size)))
        | (go_at_call 14; ((with_reducible refine (cT _ (hE.below hb)).mono ?_); rintro e wn ⟨rfl, hbn⟩; replace hb := hb.trans (hbn.mono hb.size)))
        | (go_at_call 15; ((with_reducible refine (rT _).mono ?_); rintro e wn ⟨rfl, hbn⟩; replace hb := hb.trans (hbn.mono hb.size)))
        | (go_at_call 9; ((with_reducible refine (cW _ (hE.below hb)).mono ?_); rintro e wn ⟨rfl, hbn⟩; replace hb := hb.trans (hbn.mono hb.size))))
      go_ret
      exact ⟨rfl, hb⟩

end Go.Proofs.YtcccaaleekednaaDoor
