/-
  The contracts of the program's Put and Drop.
-/
import Derived.Test.YtcccaaleekednaaDoorWalksE
import Derived.Deep.AppendLies
import Derived.StillTailTactics
namespace Go.Proofs.YtcccaaleekednaaDoor
open Go.RowKit Go.Lib

theorem cellsR_set : ∀ (l : Row) (k : Nat) (x : ByteArray), k < l.length → (cellsR l).set (k * 2 + 1) (.string x) = cellsR (l.set k ((l[k]!).1, x))
  | [], k, x, h => by simp at h
  | a :: l, 0, x, _ => rfl
  | a :: l, k + 1, x, h => by
    have ih := cellsR_set l k x (by simpa using h)
    have e : cellsR (a :: l) = .string a.1 :: .string a.2 :: cellsR l := rfl
    have e1 : (k + 1) * 2 + 1 = k * 2 + 1 + 1 + 1 := by omega
    have e2 : (a :: l)[k + 1]! = l[k]! := by simp
    rw [e, e1, List.set_cons_succ, List.set_cons_succ, ih, e2, List.set_cons_succ]
    rfl

theorem rowAt_one (w : World) (n x : ByteArray) (t : TypeId) (o : Obj) : RowAt ((w.alloc (.cells #[.string n, .string x] t)).alloc o) (.slice (some ⟨w.heap.size, 0, none⟩) 1 1) [(n, x)] := by
  refine .inr ⟨_, 0, 1, rfl, by simp, by unfold maxLen; omega, by simp; omega, fun j hj => ?_⟩
  obtain rfl : j = 0 := by simpa using hj
  exact ⟨by simp, by simp⟩

/-- What Put answers where it does not. -/
def refusedV : Value := .tuple #[.slice none 0 0, .int .i64 1]

set_option maxHeartbeats 1000000 in
theorem put_no (v : Value) (n x : ByteArray) (w : World) (hE : Env w) (hn : n.size ≤ 1000000) (hx : x.size ≤ 1000000) (h : (nameS n && valueS x) = false) :
    Calls Tryd.prog 21 #[v, .string n, .string x] w fun e w' => e = .returned refusedV ∧ Below w.heap.size w w' := by
  unfold refusedV
  have cN := name_any n w (by omega)
  have cX : ∀ wx, Env wx → _ := fun wx hEx => value_any x wx (by omega) hEx
  obtain ⟨N, hN⟩ : ∃ N, nameS n = N := ⟨_, rfl⟩
  obtain ⟨X, hX⟩ : ∃ X, valueS x = X := ⟨_, rfl⟩
  rw [hN] at cN h
  rw [hX] at cX h
  clear hN hX
  cases N with
  | false =>
    clear h
    go_enter Tryd.func21, Tryd.ntmps21
    go_wp2_with (go_at_call 10; ((with_reducible refine cN.mono ?_); rintro e w1 ⟨rfl, hb1⟩))
    go_ret2
    exact ⟨rfl, hb1⟩
  | true =>
    cases X with
    | true => cases h
    | false =>
      clear h
      go_enter Tryd.func21, Tryd.ntmps21
      go_wp2_with (first
        | (go_at_call 10; ((with_reducible refine cN.mono ?_); rintro e w1 ⟨rfl, hb1⟩; have hE1 := hE.below hb1))
        | (go_at_call 12; ((with_reducible refine (cX _ hE1).mono ?_); rintro e w2 ⟨rfl, hb2⟩)))
      go_ret2
      exact ⟨rfl, hb1.trans (hb2.mono hb1.size)⟩

theorem own_mono {w : World} {B B' e size : Nat} {v : Value} {n : Nat} {xs : List Value} (h : w.ownsRow B e size v n xs) (hb : B' ≤ B) : w.ownsRow B' e size v n xs :=
  ⟨h.1, h.2.imp id fun ⟨g, cap, cur, h1, h2, h3⟩ => ⟨g, cap, cur, h1, Nat.le_trans hb h2, h3⟩⟩

/-- What Put answers where it does. -/
def PutPost (l : Row) (w : World) (e : Ending) (w' : World) : Prop := ∃ v, e = .returned (.tuple #[v, .int .i64 0]) ∧ w'.ownsRow w.heap.size 32 2 v l.length (cellsR l) ∧ Below w.heap.size w w'
theorem PutPost.mk {l m : Row} {w w' : World} {v : Value} {B : Nat} (hB : w.heap.size ≤ B) (h : w'.ownsRow B 32 2 v m.length (cellsR m)) (e : m = l) (hb : Below w.heap.size w w') : PutPost l w (.returned (.tuple #[v, .int .i64 0])) w' := by
  subst e
  exact ⟨v, rfl, own_mono h hB, hb⟩

set_option maxHeartbeats 4000000 in
theorem put_yes (v : Value) (l : Row) (n x : ByteArray) (w : World) (hE : Env w) (hv : RowAt w v l) (hl : l.length ≤ 10000) (hn : n.size ≤ 1000000) (hx : x.size ≤ 1000000) (h : (nameS n && valueS x) = true) :
    Calls Tryd.prog 21 #[v, .string n, .string x] w (PutPost (putR l n x) w) := by
  have cN := name_any n w (by omega)
  have cX : ∀ wx, Env wx → _ := fun wx hEx => value_any x wx (by omega) hEx
  rw [Bool.and_eq_true] at h
  rw [h.1] at cN
  rw [h.2] at cX
  have cF : ∀ wx, RowAt wx v l → _ := fun wx hvx => find_any v l n wx hvx
  unfold findZ at cF
  clear h
  by_cases hk : findR l n < l.length
  · rw [if_pos hk] at cF
    have hP := putR_at l n x hk
    obtain ⟨k, hK⟩ : ∃ k, findR l n = k := ⟨_, rfl⟩
    rw [hK] at cF hk hP
    clear hK
    have HP := Lib.hid hP
    clear hP
    have h0 : ¬ (k : Int) < 0 := by omega
    have cC : ∀ wx, RowAt wx v l → _ := fun wx hvx => clone_any v l wx hvx (by omega)
    unfold OwnPost at cC
    go_enter Tryd.func21, Tryd.ntmps21
    go_wp2_with (first
      | (go_at_call 10; ((with_reducible refine cN.mono ?_); rintro e w1 ⟨rfl, hb1⟩; have hE1 := hE.below hb1; have hv1 := hv.below hb1))
      | (go_at_call 12; ((with_reducible refine (cX _ hE1).mono ?_); rintro e w2 ⟨rfl, hb2⟩; have hv2 := hv1.below hb2))
      | (go_at_call 40; ((with_reducible refine (cF _ hv2).mono ?_); rintro e w3 ⟨rfl, hb3⟩; have hv3 := hv2.below hb3))
      | (go_at_call 42; ((with_reducible refine (cC _ hv3).mono ?_); rintro e w4 ⟨v', rfl, hown, hb4⟩; fail)))
    with_reducible refine (cC _ hv3).mono ?_
    rintro e w4 ⟨v', rfl, hown, hb4⟩
    obtain ⟨N, hN⟩ : ∃ N, l.length = N := ⟨_, rfl⟩
    rw [hN] at hown hk
    obtain ⟨g, cap, rfl, hg1, hg2⟩ := hown.form (by omega)
    have hcl := hown.cellAt (k * 2 + 1) (by omega)
    rw [(cellsR_at l k (by omega)).2] at hcl
    have hfr := hown.frozenAt (k * 2 + 1)
    have hst := (hown.stored (k * 2 + 1) (.string x)).1
    rw [cellsR_set l k x (by omega), ← HP.out] at hst
    have HN := Lib.hid hN
    have hk2 : (k : Int) < (N : Int) := by omega
    clear hN
    have hB := (hb1.trans (hb2.mono hb1.size)).trans (hb3.mono (Nat.le_trans hb1.size hb2.size))
    have hB4 := hB.trans (hb4.mono hB.size)
    go_wp2
    go_ret2
    refine PutPost.mk (m := putR l n x) (B := w3.heap.size) hB.size ?_ rfl ?_
    · have e1 : (putR l n x).length = N := by rw [HP.out, List.length_set, HN.out]
      rw [e1]
      exact hst
    · exact hB4.setCell (by show w.heap.size ≤ g; have := hB.size; omega) _
  · rw [if_neg hk] at cF
    have hP := putR_none l n x hk
    have HP := Lib.hid hP
    clear hP hk
    obtain ⟨a0, c0, rfl⟩ := hv.len
    go_enter Tryd.func21, Tryd.ntmps21
    go_wp2_with (first
      | (go_at_call 10; ((with_reducible refine cN.mono ?_); rintro e w1 ⟨rfl, hb1⟩; have hE1 := hE.below hb1; have hv1 := hv.below hb1))
      | (go_at_call 12; ((with_reducible refine (cX _ hE1).mono ?_); rintro e w2 ⟨rfl, hb2⟩; have hv2 := hv1.below hb2))
      | (go_at_call 40; ((with_reducible refine (cF _ hv2).mono ?_); rintro e w3 ⟨rfl, hb3⟩; have hv3 := hv2.below hb3)))
    refine (concat_any (w3.heap.size + 1) (.slice a0 l.length c0) (.slice (some ⟨w3.heap.size, 0, none⟩) 1 1) l [(n, x)] ((w3.alloc (.cells #[.string n, .string x] 32)).alloc (.cells #[.slice a0 l.length c0, .slice (some ⟨w3.heap.size, 0, none⟩) 1 1] 25)) (hv3.below (((Below.refl _ _).alloc (Nat.le_refl _) _).alloc (by simp) _)) (rowAt_one w3 n x _ _) (by omega) (by simp) (by simp) (by simp) (by simp)).mono ?_
    rintro e w4 ⟨v', rfl, hown, hb4⟩
    go_wp2
    go_ret2
    have hB := (hb1.trans (hb2.mono hb1.size)).trans (hb3.mono (Nat.le_trans hb1.size hb2.size))
    have hB3 := (hB.alloc hB.size (.cells #[.string n, .string x] 32)).alloc (by have := hB.size; simp; omega) (.cells #[.slice a0 l.length c0, .slice (some ⟨w3.heap.size, 0, none⟩) 1 1] 25)
    exact PutPost.mk hB3.size hown HP.out.symm (hB3.trans (hb4.mono hB3.size))

end Go.Proofs.YtcccaaleekednaaDoor
