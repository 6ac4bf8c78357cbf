/-
  The contract of the program's Drop.
-/
import Derived.Test.YtcccaaleekednaaDoorWalksF
import Derived.StillTailTactics
import Derived.IntWalk
namespace Go.Proofs.YtcccaaleekednaaDoor
open Go.RowKit Go.Lib

theorem rowAt_take {w : World} {b o c k N : Nat} {l : Row} (hcs : Cells w b o l) (hN : l.length = N) (hk : k ≤ N) (hc : k ≤ c) (hcm : c ≤ maxLen) (hb : b < w.heap.size) : RowAt w (.slice (some ⟨b, o, none⟩) k c) (l.take k) := by
  have e : (l.take k).length = k := by rw [List.length_take]; omega
  refine .inr ⟨b, o, c, by rw [e], by omega, hcm, hb, fun j hj => ?_⟩
  rw [e] at hj
  rw [getElem!_take l k j hj]
  exact hcs j (by omega)
theorem rowAt_drop {w : World} {b o c k N : Nat} {l : Row} (hcs : Cells w b o l) (hN : l.length = N) (hc : N ≤ c) (hcm : c ≤ maxLen) (hb : b < w.heap.size) : RowAt w (.slice (some ⟨b, o + k * 2, none⟩) (N - k) (c - k)) (l.drop k) := by
  have e : (l.drop k).length = N - k := by rw [List.length_drop]; omega
  refine .inr ⟨b, o + k * 2, c - k, by rw [e], by omega, by omega, hb, fun j hj => ?_⟩
  rw [e] at hj
  have e2 : (l.drop k)[j]! = l[k + j]! := by simp [List.getElem!_eq_getElem?_getD]
  have h := hcs (k + j) (by omega)
  rw [e2, show o + k * 2 + j * 2 = o + (k + j) * 2 by omega]
  exact h
theorem rowAt_end {w : World} {b o c k N : Nat} {l : Row} (hN : l.length = N) (hk : N ≤ k) (hcm : c ≤ maxLen) (hb : b < w.heap.size) : RowAt w (.slice (some ⟨b, o, none⟩) (N - k) c) (l.drop k) := by
  have e0 : l.drop k = [] := List.drop_eq_nil_of_le (by omega)
  have e1 : N - k = 0 := by omega
  rw [e0, e1]
  exact .inr ⟨b, o, c, rfl, Nat.zero_le _, hcm, hb, fun j hj => by simp at hj⟩

/-- What Drop answers where there is none. -/
def noneV : Value := .tuple #[.slice none 0 0, .int .i64 2]

set_option maxHeartbeats 1000000 in
theorem drop_no (v : Value) (l : Row) (n : ByteArray) (w : World) (hv : RowAt w v l) (h : hasR l n = false) :
    Calls Tryd.prog 23 #[v, .string n] w fun e w' => e = .returned noneV ∧ Below w.heap.size w w' := by
  unfold noneV
  have cF := find_any v l n w hv
  unfold findZ at cF
  rw [hasR_iff] at h
  have hk : ¬ findR l n < l.length := by simpa using h
  rw [if_neg hk] at cF
  clear h hk
  go_enter Tryd.func23, Tryd.ntmps23
  go_wp2_with (go_at_call 40; ((with_reducible refine cF.mono ?_); rintro e w1 ⟨rfl, hb1⟩))
  go_ret2
  exact ⟨rfl, hb1⟩

set_option maxHeartbeats 4000000 in
theorem drop_yes (v : Value) (l : Row) (n : ByteArray) (w : World) (hv : RowAt w v l) (hl : l.length ≤ 10000) (h : hasR l n = true) :
    Calls Tryd.prog 23 #[v, .string n] w (PutPost (dropR l n) w) := by
  have cF := find_any v l n w hv
  unfold findZ at cF
  rw [hasR_iff] at h
  have hk : findR l n < l.length := by simpa using h
  rw [if_pos hk] at cF
  have hP := dropR_at l n hk
  clear h
  obtain ⟨k, hK⟩ : ∃ k, findR l n = k := ⟨_, rfl⟩
  rw [hK] at cF hk hP
  clear hK
  have HP := Lib.hid hP
  clear hP
  have h0 : ¬ (k : Int) < 0 := by omega
  rcases hv with ⟨a, c, rfl, _, rfl⟩ | ⟨b, o, c, rfl, hlc, hcm, hbb, hcs⟩
  · simp at hk
  · obtain ⟨N, hN⟩ : ∃ N, l.length = N := ⟨_, rfl⟩
    rw [hN] at cF hk hlc hl ⊢
    have HN := Lib.hid hN
    clear hN
    unfold maxLen at hcm
    have hk2 : (k : Int) < (N : Int) := by omega
    have hk3 : (k : Int) + 1 ≤ (N : Int) := by omega
    have hk4 : (N : Int) ≤ (c : Int) := by omega
    have hk5 : (k : Int) ≤ (c : Int) := by omega
    have hk6 : k ≤ c := by omega
    have hk7 : k + 1 ≤ N := hk
    go_enter Tryd.func23, Tryd.ntmps23
    go_wp2_with (go_at_call 40; ((with_reducible refine cF.mono ?_); rintro e w1 ⟨rfl, hb1⟩))
    have hw1 : IntKind.i64.wrap ((k : Int) + 1) = (k : Int) + 1 := IntWalk.i64_in _ (by omega)
    have hw2 : (0 : Int) ≤ (k : Int) + 1 := by omega
    have hw3 : ((k : Int) + 1).toNat = k + 1 := by omega
    go_still_tail 7, (by kernel_rfl)
    change wpList _ _ _ _ _ w1.drew
    have hb2 := hb1.drew
    obtain ⟨w2, hw⟩ : ∃ w2, w1.drew = w2 := ⟨_, rfl⟩
    rw [hw] at hb2 ⊢
    clear hw hb1 hw1 hw2 hw3
    have hbb2 : b < w2.heap.size := Nat.lt_of_lt_of_le hbb hb2.size
    have C2 := hcs.below hbb hb2
    have hbl : ∀ o, Below w.heap.size w (w2.alloc o) := fun o => hb2.alloc hb2.size o
    go_wp2_with fail
    · refine (concat_any w2.heap.size (.slice (some ⟨b, o, none⟩) k (k + 1)) (.slice (some ⟨b, o, none⟩) (N - (k + 1)) 0) (l.take k) (l.drop (k + 1)) _
        ((rowAt_take C2 HN.out (by omega) (by omega) (by first | exact hcm | (unfold maxLen; omega)) hbb2).below ((Below.refl _ _).alloc (Nat.le_refl _) _)) ((rowAt_end HN.out (by omega) (Nat.zero_le _) hbb2).below ((Below.refl _ _).alloc (Nat.le_refl _) _)) (by rw [List.length_take]; omega) (by rw [List.length_drop, HN.out]; omega) (by simp) (by simp) (by simp)).mono ?_
      rintro e w4 ⟨v', rfl, hown, hb4⟩
      go_wp2
      go_ret2
      exact PutPost.mk (hbl _).size hown HP.out.symm ((hbl _).trans (hb4.mono (hbl _).size))
    · refine (concat_any w2.heap.size (.slice (some ⟨b, o, none⟩) k c) (.slice (some ⟨b, o + (k + 1) * 2, none⟩) (N - (k + 1)) (c - (k + 1))) (l.take k) (l.drop (k + 1)) _
        ((rowAt_take C2 HN.out (by omega) hk6 hcm hbb2).below ((Below.refl _ _).alloc (Nat.le_refl _) _)) ((rowAt_drop C2 HN.out hlc hcm hbb2).below ((Below.refl _ _).alloc (Nat.le_refl _) _)) (by rw [List.length_take]; omega) (by rw [List.length_drop, HN.out]; omega) (by simp) (by simp) (by simp)).mono ?_
      rintro e w4 ⟨v', rfl, hown, hb4⟩
      go_wp2
      go_ret2
      exact PutPost.mk (hbl _).size hown HP.out.symm ((hbl _).trans (hb4.mono (hbl _).size))

end Go.Proofs.YtcccaaleekednaaDoor
