/-
  The contracts of the document's Put; of the statements' spoil.
-/
import Derived.Test.YtcccaaleekednaaDoorWalksO
namespace Go.Proofs.YtcccaaleekednaaDoor
open Go.RowKit Go.Lib

theorem own_len {m : Row} {w w' : World} {v : Value} {B : Nat} (h : w'.ownsRow B 32 2 v m.length (cellsR m)) (hb : Below w.heap.size w w') : PutLen m w (.returned (.tuple #[v, .int .i64 0])) w' := by
  have hr := rowAt_of_own h
  obtain ⟨a, c, rfl⟩ := hr.len
  exact ⟨a, c, rfl, hr, hb⟩

set_option maxHeartbeats 2000000 in
theorem rput_no (v : Value) (n x : ByteArray) (w : World) (hn : n.size ≤ 1000000) (hx : x.size ≤ 1000000) (h : (nameS n && valueS x) = false) :
    Calls Tryd.prog 22 #[v, .string n, .string x] w fun e w' => e = .returned refusedV ∧ Below w.heap.size w w' := by
  unfold refusedV
  have cN := fun wx => rname_any n wx (by omega)
  have cX := fun wx => rvalue_any x wx (by omega)
  obtain ⟨N, hN⟩ : ∃ N, nameS n = N := ⟨_, rfl⟩
  obtain ⟨X, hX⟩ : ∃ X, valueS x = X := ⟨_, rfl⟩
  simp only [hN] at cN h
  simp only [hX] at cX h
  clear hN hX
  cases N with
  | false =>
    clear h
    go_enter Tryd.func22, Tryd.ntmps22
    go_wp2_with (go_at_call 11; ((with_reducible refine (cN _).mono ?_); rintro e w1 ⟨rfl, rfl⟩))
    go_ret2
    exact ⟨rfl, Below.refl _ _⟩
  | true =>
    cases X with
    | true => cases h
    | false =>
      clear h
      go_enter Tryd.func22, Tryd.ntmps22
      go_wp2_with (first
        | (go_at_call 11; ((with_reducible refine (cN _).mono ?_); rintro e w1 ⟨rfl, rfl⟩))
        | (go_at_call 13; ((with_reducible refine (cX _).mono ?_); rintro e w2 ⟨rfl, hb2⟩)))
      go_ret2
      exact ⟨rfl, hb2⟩

set_option maxHeartbeats 4000000 in
theorem rput_yes (v : Value) (l : Row) (n x : ByteArray) (w : World) (hv : RowAt w v l) (hl : l.length ≤ 10000) (hn : n.size ≤ 1000000) (hx : x.size ≤ 1000000) (h : (nameS n && valueS x) = true) :
    Calls Tryd.prog 22 #[v, .string n, .string x] w (PutLen (putR l n x) w) := by
  obtain ⟨i0, hi, hz0, hz1, hz2⟩ := info_parts infoAttr
  have cN := fun wx => rname_any n wx (by omega)
  have cX := fun wx => rvalue_any x wx (by omega)
  rw [Bool.and_eq_true] at h
  simp only [h.1] at cN
  simp only [h.2] at cX
  have cF : ∀ wx, RowAt wx v l → _ := fun wx hvx => rfind_any v l n wx hvx (by omega)
  have cO : ∀ wx, RowAt wx v l → _ := fun wx hvx => rown_any v l wx hvx (by omega)
  unfold OwnPost at cO
  unfold findZ at cF
  clear h
  by_cases hk : findR l n < l.length
  · rw [if_pos hk] at cF
    have hP := putR_at l n x hk
    obtain ⟨k, hK⟩ : ∃ k, findR l n = k := ⟨_, rfl⟩
    rw [hK] at cF hk hP
    clear hK
    have HP := Lib.hid hP
    clear hP
    have h0 : ¬ (k : Int) < 0 := by omega
    go_enter Tryd.func22, Tryd.ntmps22
    go_wp2_with (first
      | (go_at_call 11; ((with_reducible refine (cN _).mono ?_); rintro e w1 ⟨rfl, rfl⟩))
      | (go_at_call 13; ((with_reducible refine (cX _).mono ?_); rintro e w2 ⟨rfl, hb2⟩; have hv2 := hv.below hb2))
      | (go_at_call 16; fail))
    refine (cO _ hv2).mono ?_
    rintro e w3 ⟨v', rfl, hown, hb3⟩
    have hv3 := hv2.below hb3
    obtain ⟨N, hN⟩ : ∃ N, l.length = N := ⟨_, rfl⟩
    rw [hN] at hown hk
    obtain ⟨g, cap, rfl, hg1, hg2⟩ := hown.form (by omega)
    have hcl := hown.cellAt (k * 2 + 1) (by omega)
    rw [(cellsR_at l k (by omega)).2] at hcl
    have hfr := hown.frozenAt (k * 2 + 1)
    have hst := (hown.stored (k * 2 + 1) (.string x)).1
    rw [cellsR_set l k x (by omega), ← HP.out] at hst
    have HN := Lib.hid hN
    have hk2 : (k : Int) < (N : Int) := by omega
    clear hN
    have hb := hb2.trans (hb3.mono hb2.size)
    go_wp2_with (go_at_call 17; ((with_reducible refine (cF _ hv3).mono ?_); rintro e w4 ⟨rfl, rfl⟩))
    go_ret2
    have e1 : (putR l n x).length = N := by rw [HP.out, List.length_set, HN.out]
    refine own_len (B := w2.heap.size) (by rw [e1]; exact hst) (hb.setCell (by show w.heap.size ≤ g; have := hb2.size; omega) _)
  · rw [if_neg hk] at cF
    have hP := putR_none l n x hk
    have HP := Lib.hid hP
    clear hP hk
    go_enter Tryd.func22, Tryd.ntmps22
    go_wp2_with (first
      | (go_at_call 11; ((with_reducible refine (cN _).mono ?_); rintro e w1 ⟨rfl, rfl⟩))
      | (go_at_call 13; ((with_reducible refine (cX _).mono ?_); rintro e w2 ⟨rfl, hb2⟩; have hv2 := hv.below hb2))
      | (go_at_call 16; ((with_reducible refine (cO _ hv2).mono ?_); rintro e w3 ⟨v', rfl, hown, hb3⟩; have hv3 := hv2.below hb3; have hb := hb2.trans (hb3.mono hb2.size); have hsz2 := hb2.size; have hsz3 := hb3.size))
      | (go_at_call 17; ((with_reducible refine (cF _ hv3).mono ?_); rintro e w4 ⟨rfl, rfl⟩))
      | (at_builtin; refine wpList_append_own _ rfl _ _ 25 rfl w2.heap.size 32 i0 _ 2 32 Tryd.underlying25 hi hz0 hz1 hz2 rfl (by decide) _ _ _ rfl (hown.alloc (.cells #[.string n, .string x] 32)) ⟨w3.heap.size, 0, none⟩ 1 1 [.string n, .string x] rfl rfl (news_new w3 n x 32) (by simp [Value.oneCell']) (by unfold maxLen; omega) (by omega) (by simp; omega) ?_; intro v'' w5 hown' hgrow _))
    go_ret2
    have h5 := own_app (m := [(n, x)]) hown' rfl rfl
    rw [← HP.out] at h5
    exact own_len h5 ((hb.alloc hb.size _).grown hgrow (by simp; omega) (fun j hj => by have := (hown.lt j hj).1; omega))

/-! ### spoil -/
theorem grown_trans {a b c : World} {row : Option Nat} (h : a.grownBy b row) (k : b.grownBy c row) : a.grownBy c row :=
  ⟨k.os.trans h.os, k.tape.trans h.tape, k.output.trans h.output, Nat.le_trans h.size k.size, fun i hi hne => (k.block i (Nat.lt_of_lt_of_le hi h.size) hne).trans (h.block i hi hne)⟩

/-- A row of that many, owned, whatever is in it. -/
def Owned (w : World) (B : Nat) (v : Value) (n : Nat) : Prop := ∃ xs, w.ownsRow B 32 2 v n xs

set_option maxHeartbeats 4000000 in
theorem spoil_any (v : Value) (n B : Nat) (w : World) (h : Owned w B v n) (hn : n ≤ 100000) :
    Calls Tryd.prog 28 #[v] w fun e w' => e = .returned (.tuple #[]) ∧ w.grownBy w' v.ownBlock := by
  obtain ⟨xs, hown⟩ := h
  by_cases h0 : n = 0
  · subst h0
    have hv0 : ∃ a c, v = .slice a 0 c := by
      obtain ⟨_, ⟨rfl, _⟩ | ⟨g, cap, cur, rfl, _⟩⟩ := hown
      · exact ⟨_, _, rfl⟩
      · exact ⟨_, _, rfl⟩
    obtain ⟨a, c, rfl⟩ := hv0
    go_enter Tryd.func28, Tryd.ntmps28
    go_wp2
    go_loopw [2] (fun i wr => i = .int .i64 0 ∧ wr = w) (fun _ _ => 0)
    case atStart => exact ⟨rfl, rfl⟩
    case round =>
      obtain ⟨rfl, rfl⟩ := hrel
      go_wp2
      exact bodyPost_end (v := .tuple #[]) (by simp [results, Tryd.results28, go_sem]) rfl ⟨rfl, World.grownBy.refl _ _⟩
  · obtain ⟨g, cap, rfl, hg1, hg2⟩ := hown.form (by omega)
    go_enter Tryd.func28, Tryd.ntmps28
    go_wp2
    go_loopw [2] (fun i wr => ∃ (k : Nat) (ys : List Value), k ≤ n ∧ i = .int .i64 k ∧ wr.ownsRow B 32 2 (.slice (some ⟨g, 0, none⟩) n cap) n ys ∧ w.grownBy wr (some g)) (fun i _ => n - (intOf i).toNat)
    case atStart => exact ⟨0, xs, Nat.zero_le _, rfl, hown, World.grownBy.refl _ _⟩
    case round =>
      obtain ⟨k, ys, hk, rfl, ho, hgr⟩ := hrel
      by_cases hlt : k < n
      · have hkI : (k : Int) < (n : Int) := by omega
        have hyl : ys.length = n * 2 := ho.1
        have f0 := ho.frozenAt (k * 2)
        have f1 := ho.frozenAt (k * 2 + 1)
        have c0 := ho.cellAt (k * 2) (by omega)
        have c1 := ho.cellAt (k * 2 + 1) (by omega)
        rw [List.getElem?_eq_getElem (by omega)] at c0 c1
        obtain ⟨u0, hu0⟩ : ∃ u, ys[k * 2] = u := ⟨_, rfl⟩
        obtain ⟨u1, hu1⟩ : ∃ u, ys[k * 2 + 1] = u := ⟨_, rfl⟩
        rw [hu0] at c0
        rw [hu1] at c1
        have s1 := ho.stored (k * 2) (.string ⟨#[122, 122]⟩)
        have s2 := s1.1.stored (k * 2 + 1) (.string ⟨#[]⟩)
        have S1 := Lib.hid s1
        have S2 := Lib.hid s2
        clear hu0 hu1 s1 s2 hyl
        go_wp2
        go_roundw
        case rel => exact ⟨k + 1, _, hlt, by go_num, S2.out.1, grown_trans (grown_trans hgr S1.out.2) S2.out.2⟩
        case measure => simp [intOf]; omega
      · have hkn : k = n := by omega
        subst hkn
        go_wp2
        exact bodyPost_end (v := .tuple #[]) (by simp [results, Tryd.results28, go_sem]) rfl ⟨rfl, hgr⟩

end Go.Proofs.YtcccaaleekednaaDoor
