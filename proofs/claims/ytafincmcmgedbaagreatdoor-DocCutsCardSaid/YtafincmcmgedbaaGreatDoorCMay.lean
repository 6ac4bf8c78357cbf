/-
  The program's and the document's May, of a link, a cell, a row.
-/
import Derived.Test.YtafincmcmgedbaaGreatDoorCRow
import Derived.Test.YtafincmcmgedbaaGreatDoorCTgWalksK

namespace Go.Proofs.YtafincmcmgedbaaGreatDoor
open Go.RowKit Go.Lib

def linkS (h : ByteArray) : Bool := decide (h = ⟨#[]⟩) || Tg.targetS h
def mayC (c : Ce) : Bool := (decide (c.1 = 10) || mayZ c.1) && decide (0 ≤ c.2.1) && decide (c.2.1 ≤ 15) && linkS c.2.2
def mayR (l : Row) : Bool := l.all mayC
/-- Links of a length that is gone through. -/
def Fair (l : Row) : Prop := ∀ k, k < l.length → (l[k]!).2.2.size ≤ 1000000

set_option maxHeartbeats 1000000 in
theorem mayLink_any (h : ByteArray) (w : World) (hs : h.size ≤ 1000000) (hE : Tg.Env w) :
    Calls Tryz.prog 119 #[.string h] w fun e w' => e = .returned (.bool (linkS h)) ∧ Below w.heap.size w w' := by
  have cT := Tg.target_any h w hs hE
  unfold linkS
  by_cases h0 : h = ⟨#[]⟩
  · subst h0
    clear cT
    go_enter Tryz.func119, Tryz.ntmps119
    go_wp2
    go_ret
    exact ⟨ret_bool (by simp), Below.refl _ _⟩
  · have hE := isEmpty_of_ne h0
    have hd : decide (h = ⟨#[]⟩) = false := decide_eq_false h0
    rw [hd, Bool.false_or]
    obtain ⟨T, hT⟩ : ∃ T, Tg.targetS h = T := ⟨_, rfl⟩
    rw [hT] at cT ⊢
    clear hT h0 hd
    go_enter Tryz.func119, Tryz.ntmps119
    go_wp2_with (go_at_call 134; ((with_reducible refine cT.mono ?_); rintro e w1 ⟨rfl, hb⟩))
    go_ret
    exact ⟨rfl, hb⟩
set_option maxHeartbeats 1000000 in
theorem rlink_any (h : ByteArray) (w : World) (hs : h.size ≤ 1000000) :
    Calls Tryz.prog 90 #[.string h] w fun e w' => e = .returned (.bool (linkS h)) ∧ Below w.heap.size w w' := by
  have cT := Tg.rtarget_any h w hs
  unfold linkS
  by_cases h0 : h = ⟨#[]⟩
  · subst h0
    clear cT
    go_enter Tryz.func90, Tryz.ntmps90
    go_wp2
    go_ret
    exact ⟨ret_bool (by simp), Below.refl _ _⟩
  · have hE := isEmpty_of_ne h0
    have hd : decide (h = ⟨#[]⟩) = false := decide_eq_false h0
    rw [hd, Bool.false_or]
    obtain ⟨T, hT⟩ : ∃ T, Tg.targetS h = T := ⟨_, rfl⟩
    rw [hT] at cT ⊢
    clear hT h0 hd
    go_enter Tryz.func90, Tryz.ntmps90
    go_wp2_with (go_at_call 121; ((with_reducible refine cT.mono ?_); rintro e w1 ⟨rfl, hb⟩))
    go_ret
    exact ⟨rfl, hb⟩

/-- May a cell be: what is asked, one after the other. -/
theorem mayC_cases (r b : Int) (h : ByteArray) :
    (r = 10 ∨ (r ≠ 10 ∧ mayZ r = true)) ∧ 0 ≤ b ∧ b ≤ 15 ∧ mayC (r, b, h) = linkS h ∨ r ≠ 10 ∧ mayZ r = false ∧ mayC (r, b, h) = false
      ∨ (r = 10 ∨ (r ≠ 10 ∧ mayZ r = true)) ∧ b < 0 ∧ mayC (r, b, h) = false ∨ (r = 10 ∨ (r ≠ 10 ∧ mayZ r = true)) ∧ 0 ≤ b ∧ 15 < b ∧ mayC (r, b, h) = false := by
  unfold mayC
  by_cases h1 : r = 10 <;> cases h2 : mayZ r <;> by_cases h3 : 0 ≤ b <;> by_cases h4 : b ≤ 15 <;> (simp_all <;> omega)

set_option maxHeartbeats 4000000 in
theorem mayBe_any (r b : Int) (h : ByteArray) (w : World) (hs : h.size ≤ 1000000) (hE : Tg.Env w) :
    Calls Tryz.prog 112 #[.agg #[.int .i32 r, .int .i64 b, .string h]] w fun e w' => e = .returned (.bool (mayC (r, b, h))) ∧ Below w.heap.size w w' := by
  have cM := may_any r
  have ba : ∀ o, Below w.heap.size w (w.alloc o) := fun o => (Below.refl _ w).alloc (Nat.le_refl _) _
  have HE := Lib.hid hE
  have cL := fun o => mayLink_any h (w.alloc o) hs (HE.out.below (ba o))
  have hc := mayC_cases r b h
  obtain ⟨L, hL⟩ : ∃ L, linkS h = L := ⟨_, rfl⟩
  obtain ⟨M, hM⟩ : ∃ M, mayC (r, b, h) = M := ⟨_, rfl⟩
  rw [hL] at cL hc
  rw [hM] at hc ⊢
  clear hL hM hE
  have e8 : ∀ o w', Below (w.alloc o).heap.size (w.alloc o) w' → Below w.heap.size w w' := fun o w' h => (ba o).trans (h.mono (by simp))
  rcases hc with ⟨h1, h2, h3, rfl⟩ | ⟨h1, h2, rfl⟩ | ⟨h1, h2, rfl⟩ | ⟨h1, h2, h3, rfl⟩
  · rcases h1 with rfl | ⟨h1, h4⟩
    · go_enter Tryz.func112, Tryz.ntmps112
      go_wp2_with (go_at_call 119; ((with_reducible refine (cL _).mono ?_); rintro e w1 ⟨rfl, hb⟩))
      go_ret
      exact ⟨rfl, e8 _ _ hb⟩
    · rw [h4] at cM
      have h1b : (r == 10) = false := by simpa using h1
      clear h4 h1
      go_enter Tryz.func112, Tryz.ntmps112
      go_wp2_with (first
        | (go_at_call 132; ((with_reducible refine (cM _).mono ?_); rintro e w1 ⟨rfl, rfl⟩))
        | (go_at_call 119; ((with_reducible refine (cL _).mono ?_); rintro e w1 ⟨rfl, hb⟩)))
      go_ret
      exact ⟨rfl, e8 _ _ hb⟩
  · rw [h2] at cM
    have h1b : (r == 10) = false := by simpa using h1
    clear h1 h2
    go_enter Tryz.func112, Tryz.ntmps112
    go_wp2_with (go_at_call 132; ((with_reducible refine (cM _).mono ?_); rintro e w1 ⟨rfl, rfl⟩))
    go_ret
    exact ⟨rfl, ba _⟩
  · have h2b : ¬ 0 ≤ b := by omega
    rcases h1 with rfl | ⟨h1, h4⟩
    · go_enter Tryz.func112, Tryz.ntmps112
      go_wp2
      go_ret
      exact ⟨rfl, ba _⟩
    · rw [h4] at cM
      have h1b : (r == 10) = false := by simpa using h1
      clear h4 h1
      go_enter Tryz.func112, Tryz.ntmps112
      go_wp2_with (go_at_call 132; ((with_reducible refine (cM _).mono ?_); rintro e w1 ⟨rfl, rfl⟩))
      go_ret
      exact ⟨rfl, ba _⟩
  · have h3b : ¬ b ≤ 15 := by omega
    rcases h1 with rfl | ⟨h1, h4⟩
    · go_enter Tryz.func112, Tryz.ntmps112
      go_wp2
      go_ret
      exact ⟨rfl, ba _⟩
    · rw [h4] at cM
      have h1b : (r == 10) = false := by simpa using h1
      clear h4 h1
      go_enter Tryz.func112, Tryz.ntmps112
      go_wp2_with (go_at_call 132; ((with_reducible refine (cM _).mono ?_); rintro e w1 ⟨rfl, rfl⟩))
      go_ret
      exact ⟨rfl, ba _⟩

theorem mayR_step {l : Row} {k : Nat} (hk : k < l.length) : mayR (l.drop k) = (mayC l[k]! && mayR (l.drop (k + 1))) := by
  have e : l.drop k = l[k]! :: l.drop (k + 1) := by
    rw [List.drop_eq_getElem_cons hk, List.getElem!_eq_getElem?_getD, List.getElem?_eq_getElem hk]; rfl
  rw [e]
  rfl

set_option maxHeartbeats 4000000 in
theorem mayRow_any (v : Value) (l : Row) (w : World) (hv : RowAt w v l) (hl : l.length ≤ 100000) (hf : Fair l) (hE : Tg.Env w) :
    Calls Tryz.prog 79 #[v] w fun e w' => e = .returned (.bool (mayR l)) ∧ Below w.heap.size w w' := by
  obtain ⟨a, c, rfl⟩ := hv.len
  have V := Lib.hid hv
  have HE := Lib.hid hE
  have HF := Lib.hid hf
  obtain ⟨n, hn⟩ : ∃ n, l.length = n := ⟨_, rfl⟩
  rw [hn] at hl V ⊢
  have N := Lib.hid hn
  obtain ⟨R, hR⟩ : ∃ R, mayR l = R := ⟨_, rfl⟩
  rw [hR]
  have HR := Lib.hid hR
  have cB := mayBe_any
  clear hv hn hE hf hR
  go_enter Tryz.func79, Tryz.ntmps79
  go_wp2
  go_loopw [7] (fun i wr => ∃ k : Nat, k ≤ n ∧ i = .int .i64 k ∧ Hid (mayR (l.drop k) = R) ∧ Below w.heap.size w wr) (fun i _ => n - (RowKit.intOf i).toNat)
  case atStart => exact ⟨0, Nat.zero_le _, rfl, HR, Below.refl _ _⟩
  case round =>
    obtain ⟨k, hk, rfl, HK, hb⟩ := hrel
    by_cases hlt : k < n
    · have hkl : k < l.length := by rw [N.out]; exact hlt
      obtain ⟨b, o, c2, e, hlc, hcm, hbl, hcs⟩ := V.out.lies (by omega)
      rw [N.out] at e hlc
      obtain ⟨rfl, _, rfl⟩ := Value.slice.inj e
      unfold maxLen at hcm
      obtain ⟨x1, x2, x3⟩ := (hcs.below hbl hb) k hkl
      have hst := mayR_step hkl
      rw [HK.out] at hst
      have hsz := HF.out k hkl
      obtain ⟨X, hX⟩ : ∃ X, l[k]! = X := ⟨_, rfl⟩
      rw [hX] at x1 x2 x3 hst hsz
      obtain ⟨X1, X2, X3⟩ := X
      dsimp only at x1 x2 x3 hsz
      have ba : ∀ o, Below wr.heap.size wr (wr.alloc o) := fun o => (Below.refl _ wr).alloc (Nat.le_refl _) _
      have cB2 := fun o => cB X1 X2 X3 (wr.alloc o) hsz (HE.out.below (hb.trans ((ba o).mono hb.size)))
      obtain ⟨M, hM⟩ : ∃ M, mayC (X1, X2, X3) = M := ⟨_, rfl⟩
      rw [hM] at hst cB2
      have HS := Lib.hid hst
      have hkI : (k : Int) < (n : Int) := by omega
      have hbw : b < wr.heap.size := Nat.lt_of_lt_of_le hbl hb.size
      have hb2 : ∀ o w', Below (wr.alloc o).heap.size (wr.alloc o) w' → Below w.heap.size w w' := fun o w' h => hb.trans (((ba o).trans (h.mono (by simp))).mono hb.size)
      clear hst HK hX hcs e hkl hM cB
      cases M with
      | true =>
        go_wp2_with (go_at_call 112; ((with_reducible refine (cB2 _).mono ?_); rintro e w2 ⟨rfl, hb3⟩))
        go_roundw
        case rel => exact ⟨k + 1, hlt, by go_num, Lib.hid (by rw [HS.out, Bool.true_and]), hb2 _ _ hb3⟩
        case measure => simp [RowKit.intOf]; omega
      | false =>
        go_wp2_with (go_at_call 112; ((with_reducible refine (cB2 _).mono ?_); rintro e w2 ⟨rfl, hb3⟩))
        go_ret
        exact ⟨ret_bool (by rw [HS.out, Bool.false_and]), hb2 _ _ hb3⟩
    · have hkn : k = n := by omega
      subst hkn
      have hR2 : R = true := by rw [← HK.out, List.drop_eq_nil_of_le (by rw [N.out]; omega)]; rfl
      have HR2 := Lib.hid hR2
      clear hR2
      go_wp2
      go_ret
      exact ⟨ret_bool HR2.out.symm, hb⟩

set_option maxHeartbeats 8000000 in
theorem rmayRow_any (v : Value) (l : Row) (w : World) (hv : RowAt w v l) (hl : l.length ≤ 100000) (hf : Fair l) :
    Calls Tryz.prog 58 #[v] w fun e w' => e = .returned (.bool (mayR l)) ∧ Below w.heap.size w w' := by
  obtain ⟨a, c, rfl⟩ := hv.len
  have V := Lib.hid hv
  have HF := Lib.hid hf
  obtain ⟨n, hn⟩ : ∃ n, l.length = n := ⟨_, rfl⟩
  rw [hn] at hl V ⊢
  have N := Lib.hid hn
  obtain ⟨R, hR⟩ : ∃ R, mayR l = R := ⟨_, rfl⟩
  rw [hR]
  have HR := Lib.hid hR
  have cM := rmay_any
  have cK := rlink_any
  clear hv hn hf hR
  go_enter Tryz.func58, Tryz.ntmps58
  go_wp2
  go_loopw [3] (fun i wr => ∃ k : Nat, k ≤ n ∧ i = .int .i64 k ∧ Hid (mayR (l.drop k) = R) ∧ Below w.heap.size w wr) (fun i _ => n - (RowKit.intOf i).toNat)
  case atStart => exact ⟨0, Nat.zero_le _, rfl, HR, Below.refl _ _⟩
  case round =>
    obtain ⟨k, hk, rfl, HK, hb⟩ := hrel
    by_cases hlt : k < n
    · have hkl : k < l.length := by rw [N.out]; exact hlt
      obtain ⟨b, o, c2, e, hlc, hcm, hbl, hcs⟩ := V.out.lies (by omega)
      rw [N.out] at e hlc
      obtain ⟨rfl, _, rfl⟩ := Value.slice.inj e
      unfold maxLen at hcm
      obtain ⟨x1, x2, x3⟩ := (hcs.below hbl hb) k hkl
      have hst := mayR_step hkl
      rw [HK.out] at hst
      have hsz := HF.out k hkl
      obtain ⟨X, hX⟩ : ∃ X, l[k]! = X := ⟨_, rfl⟩
      rw [hX] at x1 x2 x3 hst hsz
      obtain ⟨r, q, h⟩ := X
      dsimp only at x1 x2 x3 hsz
      have ba : ∀ o, Below wr.heap.size wr (wr.alloc o) := fun o => (Below.refl _ wr).alloc (Nat.le_refl _) _
      have cM2 := cM r
      have cK2 := fun o => cK h (wr.alloc o) hsz
      have hc := mayC_cases r q h
      obtain ⟨L, hL⟩ : ∃ L, linkS h = L := ⟨_, rfl⟩
      obtain ⟨M, hM⟩ : ∃ M, mayC (r, q, h) = M := ⟨_, rfl⟩
      rw [hM] at hst hc
      rw [hL] at hc cK2
      have HS := Lib.hid hst
      have hkI : (k : Int) < (n : Int) := by omega
      have hbw : b < wr.heap.size := Nat.lt_of_lt_of_le hbl hb.size
      have hb1 : ∀ o, Below w.heap.size w (wr.alloc o) := fun o => hb.trans ((ba o).mono hb.size)
      have hb2 : ∀ o w', Below (wr.alloc o).heap.size (wr.alloc o) w' → Below w.heap.size w w' := fun o w' h => hb.trans (((ba o).trans (h.mono (by simp))).mono hb.size)
      clear hst HK hX hcs e hkl hM hL cM cK
      rcases hc with ⟨h1, h2, h3, rfl⟩ | ⟨h1, h2, rfl⟩ | ⟨h1, h2, rfl⟩ | ⟨h1, h2, h3, rfl⟩
      · have h2b : ¬ q < 0 := by omega
        have h3b : ¬ 15 < q := by omega
        cases M with
        | true =>
          rcases h1 with rfl | ⟨h1, h4⟩
          · go_wp2_with (go_at_call 90; ((with_reducible refine (cK2 _).mono ?_); rintro e w2 ⟨rfl, hb3⟩))
            go_roundw
            case rel => exact ⟨k + 1, hlt, by go_num, Lib.hid (by rw [HS.out, Bool.true_and]), hb2 _ _ hb3⟩
            case measure => simp [RowKit.intOf]; omega
          · rw [h4] at cM2
            have h1b : (r != 10) = true := by simpa using h1
            clear h4 h1
            go_wp2_with (first
              | (go_at_call 100; ((with_reducible refine (cM2 _).mono ?_); rintro e w1 ⟨rfl, rfl⟩))
              | (go_at_call 90; ((with_reducible refine (cK2 _).mono ?_); rintro e w2 ⟨rfl, hb3⟩)))
            go_roundw
            case rel => exact ⟨k + 1, hlt, by go_num, Lib.hid (by rw [HS.out, Bool.true_and]), hb2 _ _ hb3⟩
            case measure => simp [RowKit.intOf]; omega
        | false =>
          rcases h1 with rfl | ⟨h1, h4⟩
          · go_wp2_with (go_at_call 90; ((with_reducible refine (cK2 _).mono ?_); rintro e w2 ⟨rfl, hb3⟩))
            all_goals first | (exfalso; omega) | (go_ret; exact ⟨ret_bool (by rw [HS.out, Bool.false_and]), hb2 _ _ hb3⟩)
          · rw [h4] at cM2
            have h1b : (r != 10) = true := by simpa using h1
            clear h4 h1
            go_wp2_with (first
              | (go_at_call 100; ((with_reducible refine (cM2 _).mono ?_); rintro e w1 ⟨rfl, rfl⟩))
              | (go_at_call 90; ((with_reducible refine (cK2 _).mono ?_); rintro e w2 ⟨rfl, hb3⟩)))
            all_goals first | (exfalso; omega) | (go_ret; exact ⟨ret_bool (by rw [HS.out, Bool.false_and]), hb2 _ _ hb3⟩)
      · rw [h2] at cM2
        have h1b : (r != 10) = true := by simpa using h1
        clear h1 h2
        go_wp2_with (go_at_call 100; ((with_reducible refine (cM2 _).mono ?_); rintro e w1 ⟨rfl, rfl⟩))
        all_goals first | (exfalso; omega) | (go_ret; exact ⟨ret_bool (by rw [HS.out, Bool.false_and]), hb1 _⟩)
      · rcases h1 with rfl | ⟨h1, h4⟩
        · go_wp2
          all_goals first | (exfalso; omega) | (go_ret; exact ⟨ret_bool (by rw [HS.out, Bool.false_and]), hb1 _⟩)
        · rw [h4] at cM2
          have h1b : (r != 10) = true := by simpa using h1
          clear h4 h1
          go_wp2_with (go_at_call 100; ((with_reducible refine (cM2 _).mono ?_); rintro e w1 ⟨rfl, rfl⟩))
          all_goals first | (exfalso; omega) | (go_ret; exact ⟨ret_bool (by rw [HS.out, Bool.false_and]), hb1 _⟩)
      · have h2b : ¬ q < 0 := by omega
        rcases h1 with rfl | ⟨h1, h4⟩
        · go_wp2
          all_goals first | (exfalso; omega) | (go_ret; exact ⟨ret_bool (by rw [HS.out, Bool.false_and]), hb1 _⟩)
        · rw [h4] at cM2
          have h1b : (r != 10) = true := by simpa using h1
          clear h4 h1
          go_wp2_with (go_at_call 100; ((with_reducible refine (cM2 _).mono ?_); rintro e w1 ⟨rfl, rfl⟩))
          all_goals first | (exfalso; omega) | (go_ret; exact ⟨ret_bool (by rw [HS.out, Bool.false_and]), hb1 _⟩)
    · have hkn : k = n := by omega
      subst hkn
      have hR2 : R = true := by rw [← HK.out, List.drop_eq_nil_of_le (by rw [N.out]; omega)]; rfl
      have HR2 := Lib.hid hR2
      clear hR2
      go_wp2
      go_ret
      exact ⟨ret_bool HR2.out.symm, hb⟩

end Go.Proofs.YtafincmcmgedbaaGreatDoor
