/-
  The same: Insert, Remove.
-/
import Derived.Test.YtggjoefhopoggaaDoorCKeepB

namespace Go.Proofs.YtggjoefhopoggaaDoor
open Go.RowKit Go.Lib

set_option maxRecDepth 20000 in
set_option maxHeartbeats 8000000 in
theorem insert_keep (B : Nat) (w : World) (p nb : Nat) (deep : Int) (l : List (Option Nd)) (h : Full B w p nb deep l) (hI : Inv deep l) (hd : deep ≤ 40) (pa at_ kid : Int) :
    Calls Tryd.prog 55 #[.pointer (some ⟨p, 0, none⟩), .int .i64 pa, .int .i64 at_, .int .i64 kid] w (Kept B w p deep l.length) := by
  have KP := Lib.hid (fun (e : Ending) (w' : World) (he : ∃ v, e = .returned v) (hb : Below w.heap.size w w') => kept_of (w' := w') h hI he hb)
  have hnb := h.ln
  have hb1 := (Below.refl _ w).alloc (Nat.le_refl _) (.cells #[.int .i64 pa, .int .i64 kid] 3)
  have cA := ask_any _ p nb deep l (h.t.below hnb hb1) w.heap.size [pa, kid] (by simp) (fun k hk => by
    have hk2 : k = 0 ∨ k = 1 := by simp at hk; omega
    rcases hk2 with rfl | rfl <;> simp [go_sem])
  have e2 : [pa, kid].length = 2 := rfl
  rw [e2] at cA
  have HTB := fun (w1 : World) (hb : Below w.heap.size w w1) => h.t.below hnb hb
  have hnB := fun (w1 : World) (hb : Below w.heap.size w w1) => Nat.lt_of_lt_of_le hnb hb.size
  have cE := fun (w1 : World) (hb : Below w.heap.size w w1) => element_any w1 p nb deep l (HTB w1 hb) pa (hnB w1 hb)
  have HB1 := Lib.hid hb1
  by_cases hh : hasT l pa = true ∧ hasT l kid = true
  · have e1 : askT l [pa, kid] = 0 := by unfold askT; rw [if_pos]; simp [hh.1, hh.2]
    rw [e1] at cA
    obtain ⟨x, hx⟩ : ∃ x, ndAt l pa = some x := Option.isSome_iff_exists.1 hh.1
    obtain ⟨y, hy⟩ : ∃ y, ndAt l kid = some y := Option.isSome_iff_exists.1 hh.2
    obtain ⟨i, rfl, hi⟩ := nd_id hx
    obtain ⟨j, rfl, hj⟩ := nd_id hy
    by_cases ht : x.tag = 0
    · have e3 : elemT l (i : Int) = (none, 6) := by unfold elemT; rw [hx]; exact if_pos ht
      rw [e3] at cE
      unfold ndV at cE
      dsimp only at cE
      clear h hI hnb hb1 HTB hnB hh hx hy hi hj ht e1 e2 e3
      go_enter Tryd.func55, Tryd.ntmps55
      go_wp2_with (first
        | (go_at_call 73; ((with_reducible refine (cA).mono ?_); rintro e w1 ⟨rfl, rfl⟩))
        | (go_at_call 64; ((with_reducible refine (cE _ HB1.out).mono ?_); rintro e w2 ⟨rfl, hb2⟩; have hb := HB1.out.trans (hb2.mono (by simp)); clear hb2)))
      go_ret
      exact KP.out _ _ ⟨_, rfl⟩ hb
    · have e3 : elemT l (i : Int) = (some x, 0) := by unfold elemT; rw [hx]; exact if_neg ht
      rw [e3] at cE
      unfold ndV at cE
      dsimp only at cE
      have cL := fun (w1 : World) (hb : Below w.heap.size w w1) => loose_any w1 p nb deep l (HTB w1 hb) j
      have cT := fun (w1 : World) (hb : Below w.heap.size w w1) => takes_any w1 x at_ ((HTB w1 hb).yes i x hi).2
      cases hl : looseT l (j : Int) with
      | false =>
        rw [hl] at cL
        clear h hI hnb hb1 HTB hnB hh hx hy hi hj ht e1 e2 e3 hl
        go_enter Tryd.func55, Tryd.ntmps55
        go_wp2_with (first
          | (go_at_call 73; ((with_reducible refine (cA).mono ?_); rintro e w1 ⟨rfl, rfl⟩))
          | (go_at_call 64; ((with_reducible refine (cE _ HB1.out).mono ?_); rintro e w2 ⟨rfl, hb2⟩; have hb := HB1.out.trans (hb2.mono (by simp)); clear hb2))
          | (go_at_call 74; ((with_reducible refine (cL _ hb).mono ?_); rintro e w3 ⟨rfl, rfl⟩)))
        go_ret
        exact KP.out _ _ ⟨_, rfl⟩ hb
      | true =>
        rw [hl] at cL
        cases hk : takesT x at_ with
        | false =>
          rw [hk] at cT
          obtain ⟨b, hb0⟩ : ∃ b, x.ab = b := ⟨_, rfl⟩
          rw [hb0] at cE cT
          clear h hI hnb hb1 HTB hnB hh hx hy hi hj ht e1 e2 e3 hl hk hb0
          go_enter Tryd.func55, Tryd.ntmps55
          go_wp2_with (first
            | (go_at_call 73; ((with_reducible refine (cA).mono ?_); rintro e w1 ⟨rfl, rfl⟩))
            | (go_at_call 64; ((with_reducible refine (cE _ HB1.out).mono ?_); rintro e w2 ⟨rfl, hb2⟩; have hb := HB1.out.trans (hb2.mono (by simp)); clear hb2))
            | (go_at_call 74; ((with_reducible refine (cL _ hb).mono ?_); rintro e w3 ⟨rfl, rfl⟩))
            | (go_at_call 66; ((with_reducible refine (cT _ hb).mono ?_); rintro e w4 ⟨rfl, rfl⟩)))
          go_ret
          exact KP.out _ _ ⟨_, rfl⟩ hb
        | true =>
          rw [hk] at cT
          have cR := fun (w1 : World) (hb : Below w.heap.size w w1) => root_any w1 p nb deep l (HTB w1 hb) i 41 (hI.endsRa hd _)
          by_cases hr : rootF l 41 (i : Int) = (j : Int)
          · rw [hr] at cR
            have hrb : ((j : Int) == (j : Int)) = true := by simp
            obtain ⟨b, hb0⟩ : ∃ b, x.ab = b := ⟨_, rfl⟩
            rw [hb0] at cE cT
            clear h hI hnb hb1 HTB hnB hh hx hy hi hj ht e1 e2 e3 hl hk hr hb0
            go_enter Tryd.func55, Tryd.ntmps55
            go_wp2_with (first
              | (go_at_call 73; ((with_reducible refine (cA).mono ?_); rintro e w1 ⟨rfl, rfl⟩))
              | (go_at_call 64; ((with_reducible refine (cE _ HB1.out).mono ?_); rintro e w2 ⟨rfl, hb2⟩; have hb := HB1.out.trans (hb2.mono (by simp)); clear hb2))
              | (go_at_call 74; ((with_reducible refine (cL _ hb).mono ?_); rintro e w3 ⟨rfl, rfl⟩))
              | (go_at_call 66; ((with_reducible refine (cT _ hb).mono ?_); rintro e w4 ⟨rfl, rfl⟩))
              | (go_at_call 44; ((with_reducible refine (cR _ hb).mono ?_); rintro e w5 ⟨rfl, rfl⟩)))
            go_ret
            exact KP.out _ _ ⟨_, rfl⟩ hb
          · have cH := fun (w1 : World) (hb : Below w.heap.size w w1) => height_any w1 p nb deep l (HTB w1 hb) 41 (by omega) j (hI.endsHa hd _)
            have hhl := heightF_le l 41 (j : Int)
            have cF := fun (w1 : World) (hb : Below w.heap.size w w1) => fits_any w1 p nb deep l (HTB w1 hb) (hnB w1 hb) i (heightF l 41 (j : Int)) 41 (by omega) (by omega) (hI.endsDa hd _)
            have hl2 := hl
            unfold looseT at hl2
            simp only [Bool.and_eq_true, decide_eq_true_eq] at hl2
            rw [(nd_some hj).2] at hl2
            have hk2 := hk
            unfold takesT at hk2
            simp only [Bool.and_eq_true, decide_eq_true_eq] at hk2
            by_cases hf : depthF l 41 (i : Int) + 1 + heightF l 41 (j : Int) ≤ deep
            · obtain ⟨a, rfl⟩ : ∃ a : Nat, at_ = (a : Int) := ⟨at_.toNat, by omega⟩
              have hlen := hI.kidsLt hi hj hl2.2
              have hle := h.t.le
              refine (ins_any B w p nb deep l h i a j 41 x y ⟨hi, hj, fun e => hr (by subst e; exact Inv.rootN hj hl2.2), ht, by omega, by omega, hl, hI.endsRa hd _, hr, hI.endsHa hd _, hI.endsDa hd _, by omega⟩ hf).mono ?_
              rintro e w' ⟨rfl, h1, ka, kc, h2⟩
              exact ⟨⟨_, rfl⟩, h1, nb, _, h2, hI.join hd hi hj ht hl2.2 (by omega) hr hf ka kc, by unfold joinedZ; rw [List.length_set, List.length_set]⟩
            · rw [decide_eq_false hf] at cF
              obtain ⟨r, hr2⟩ : ∃ r, rootF l 41 (i : Int) = r := ⟨_, rfl⟩
              rw [hr2] at cR hr
              have hrj : (r == (j : Int)) = false := by simpa using hr
              obtain ⟨z, hz⟩ : ∃ z, heightF l 41 (j : Int) = z := ⟨_, rfl⟩
              rw [hz] at cH cF
              obtain ⟨b, hb0⟩ : ∃ b, x.ab = b := ⟨_, rfl⟩
              rw [hb0] at cE cT
              clear h hI hnb hb1 HTB hnB hh hx hy hi hj ht e1 e2 e3 hl hk hl2 hk2 hhl hf hr2 hz hb0
              go_enter Tryd.func55, Tryd.ntmps55
              go_wp2_with (first
                | (go_at_call 73; ((with_reducible refine (cA).mono ?_); rintro e w1 ⟨rfl, rfl⟩))
                | (go_at_call 64; ((with_reducible refine (cE _ HB1.out).mono ?_); rintro e w2 ⟨rfl, hb2⟩; have hb := HB1.out.trans (hb2.mono (by simp)); clear hb2))
                | (go_at_call 74; ((with_reducible refine (cL _ hb).mono ?_); rintro e w3 ⟨rfl, rfl⟩))
                | (go_at_call 66; ((with_reducible refine (cT _ hb).mono ?_); rintro e w4 ⟨rfl, rfl⟩))
                | (go_at_call 44; ((with_reducible refine (cR _ hb).mono ?_); rintro e w5 ⟨rfl, rfl⟩))
                | (go_at_call 75; ((with_reducible refine (cH _ hb).mono ?_); rintro e w6 ⟨rfl, rfl⟩))
                | (go_at_call 67; ((with_reducible refine (cF _ hb).mono ?_); rintro e w7 ⟨rfl, hb7⟩; replace hb := hb.trans (hb7.mono hb.size); clear hb7)))
              go_ret
              exact KP.out _ _ ⟨_, rfl⟩ hb
  · have e1 : askT l [pa, kid] = 2 := by
      unfold askT
      rw [if_neg]
      simp only [List.all_cons, List.all_nil, Bool.and_true, Bool.and_eq_true]
      exact hh
    rw [e1] at cA
    clear h hI hnb hb1 HTB hnB hh e1 e2
    go_enter Tryd.func55, Tryd.ntmps55
    go_wp2_with (first
      | (go_at_call 73; ((with_reducible refine (cA).mono ?_); rintro e w1 ⟨rfl, rfl⟩)))
    go_ret
    exact KP.out _ _ ⟨_, rfl⟩ HB1.out

theorem ixZ_at : ∀ (K : List Int) (z : Int) (i : Nat), ixZ K z i = -1 ∧ z ∉ K ∨ ∃ a, ixZ K z i = ((i + a : Nat) : Int) ∧ K[a]? = some z
  | [], _, _ => .inl ⟨by first | rfl | rw [ixZ], by simp⟩
  | x :: K, z, i => by
    have e0 : ixZ (x :: K) z i = if z = x then (i : Int) else ixZ K z (i + 1) := by first | rfl | rw [ixZ] | (unfold ixZ; rfl)
    rw [e0]
    by_cases e : z = x
    · rw [if_pos e]
      exact .inr ⟨0, rfl, by simp [e]⟩
    · rw [if_neg e]
      rcases ixZ_at K z (i + 1) with ⟨h1, h2⟩ | ⟨a, h1, h2⟩
      · exact .inl ⟨h1, by simp [e, h2]⟩
      · exact .inr ⟨a + 1, by rw [h1]; congr 1; omega, by simpa using h2⟩

set_option maxRecDepth 20000 in
set_option maxHeartbeats 8000000 in
theorem remove_keep (B : Nat) (w : World) (p nb : Nat) (deep : Int) (l : List (Option Nd)) (h : Full B w p nb deep l) (hI : Inv deep l) (id : Int) :
    Calls Tryd.prog 56 #[.pointer (some ⟨p, 0, none⟩), .int .i64 id] w (Kept B w p deep l.length) := by
  have KP := Lib.hid (fun (e : Ending) (w' : World) (he : ∃ v, e = .returned v) (hb : Below w.heap.size w w') => kept_of (w' := w') h hI he hb)
  have hb1 := (Below.refl _ w).alloc (Nat.le_refl _) (.cells #[.int .i64 id] 3)
  have cA := ask_one w p nb deep id l h.t h.ln
  have HB := Lib.hid hb1
  cases hx : ndAt l id with
  | none =>
    rw [(nd_none hx).1, if_neg (by decide)] at cA
    clear h hI hx hb1
    go_enter Tryd.func56, Tryd.ntmps56
    go_wp2_with (go_at_call 73; ((with_reducible refine (cA).mono ?_); rintro e w1 ⟨rfl, rfl⟩))
    go_ret
    exact KP.out _ _ ⟨_, rfl⟩ HB.out
  | some y =>
    obtain ⟨j, rfl, hj⟩ := nd_id hx
    rcases hI.par j y hj with hu | ⟨i, x, hu, hi, hm⟩
    · have cI := index_any _ p nb deep (j : Int) l (h.below hb1).t
      have e3 : indexT l (j : Int) = -1 := by unfold indexT; rw [(nd_some hj).2, hu, nd_neg]
      rw [e3] at cI
      rw [(nd_some hj).1, if_pos rfl] at cA
      clear h hI hx hj hb1 e3
      go_enter Tryd.func56, Tryd.ntmps56
      go_wp2_with (first
        | (go_at_call 73; ((with_reducible refine (cA).mono ?_); rintro e w1 ⟨rfl, rfl⟩))
        | (go_at_call 34; ((with_reducible refine (cI).mono ?_); rintro e w1 ⟨rfl, rfl⟩)))
      go_ret
      exact KP.out _ _ ⟨_, rfl⟩ HB.out
    · rcases ixZ_at x.kids (j : Int) 0 with ⟨_, h2⟩ | ⟨a, h1, h2⟩
      · exact absurd hm h2
      · rw [Nat.zero_add] at h1
        have hij : i ≠ j := fun e => by
          obtain ⟨r, hr⟩ := hI.dep
          have := hr.up j y i hj hu
          rw [e] at this
          omega
        refine (remove_any B w p nb deep l h i a j x y hi hj hij hu h1 (List.getElem?_eq_some_iff.1 h2).1).mono ?_
        rintro e w' ⟨rfl, b1, b2⟩
        exact ⟨⟨_, rfl⟩, b1, nb, _, b2, hI.remove hi hj hu h2, by unfold removedZ; rw [List.length_set, List.length_set]⟩

end Go.Proofs.YtggjoefhopoggaaDoor
