/-
  The document's Runes, Clean, Of.
-/
import Derived.Test.YtiaoflagjaclmaaOf
import Derived.Laws.Cover4
import Derived.Laws.IdiomStrings
namespace Go.Proofs.Ytiaoflagjaclmaa
open Go.RowKit Go.Lib

/-- The characters, in memory. -/
def RunesAt (w : World) (g : Nat) (rs : List Nat) : Prop := ∀ j, j < rs.length → w.cell? ⟨g, j, none⟩ = some (.int .i32 ((rs[j]! : Nat) : Int))
def RunesPost (s : ByteArray) (w : World) (e : Ending) (w' : World) : Prop := ∃ c, e = .returned (.slice (some ⟨w.heap.size, 0, none⟩) (runesD s.data.toList).length c) ∧ RunesAt w' w.heap.size (runesD s.data.toList) ∧ Below w.heap.size w w'

theorem runes_size (s : ByteArray) : (Conv.runesFrom s s.size 0 #[]).toList = runeCellsD s.data.toList := by
  have := convRunes s s.size 0 #[] (by omega)
  simpa using this

set_option maxHeartbeats 1000000 in
theorem runes_any (s : ByteArray) (w : World) (hs : s.size ≤ 1000000) :
    Calls Try.prog 47 #[.string s] w (RunesPost s w) := by
  have hR := runes_size s
  obtain ⟨R, hRe⟩ : ∃ R, Conv.runesFrom s s.size 0 #[] = R := ⟨_, rfl⟩
  rw [hRe] at hR
  have hRs : R.size = (runesD s.data.toList).length := by
    have := congrArg List.length hR
    simpa [runeCellsD] using this
  have hlen := runesD_length _ s.data.toList (Nat.le_refl _)
  rw [← size_eq] at hlen
  have hconv := run_runes_of_string (P := Try.prog) w 9 50 21 s Try.underlying9 Try.underlying50 Try.underlying21 (by rw [hRe, hRs]; omega)
  rw [hRe, hRs] at hconv
  obtain ⟨c, hc⟩ : ∃ c, grownCap w (runesD s.data.toList).length 0 21 = c := ⟨_, rfl⟩
  rw [hc] at hconv
  obtain ⟨N, hN⟩ : ∃ N, (runesD s.data.toList).length = N := ⟨_, rfl⟩
  obtain ⟨w1, hw1⟩ : ∃ w1, w.drew.alloc (.cells (R ++ Array.replicate (c - (runesD s.data.toList).length) (.int .i32 0)) 21) = w1 := ⟨_, rfl⟩
  rw [hw1, hN] at hconv
  have hb : Below w.heap.size w w1 := by rw [← hw1]; exact ((Below.refl _ w).drew).alloc (Nat.le_refl _) _
  have hcell : RunesAt w1 w.heap.size (runesD s.data.toList) := by
    intro j hj
    rw [← hw1]
    have h1 := World.cell?_alloc_mark w.drew (R ++ Array.replicate (c - (runesD s.data.toList).length) (.int .i32 0)) 21 (0, 0) j
    refine h1.trans ?_
    have e1 : R[j]? = some (.int .i32 (((runesD s.data.toList)[j]! : Nat) : Int)) := by
      rw [← Array.getElem?_toList, hR]
      unfold runeCellsD
      rw [List.getElem?_map, List.getElem!_eq_getElem?_getD, List.getElem?_eq_getElem hj]
      rfl
    rw [Array.getElem?_append_left (by omega), e1]
  have HC := Lib.hid hcell
  have HN := Lib.hid hN
  clear hcell hR hRe hRs hlen hc hw1 hN
  go_enter Try.func47, Try.ntmps47
  go_wp2
  go_ret
  exact ⟨c, by rw [HN.out]; rfl, HC.out, hb⟩


theorem keep_blank {r : Nat} (h : r = 9 ∨ r = 12 ∨ r = 13) : keepZ r = [32] := by
  rcases h with rfl | rfl | rfl <;> rfl
theorem keep_break : keepZ 10 = [10] := rfl
theorem keep_other {r : Nat} (h : ¬ (r = 9 ∨ r = 12 ∨ r = 13)) (h2 : r ≠ 10) : keepZ r = if mayZ (r : Int) then [(r : Int)] else [] := by
  have e : cleanZ (r : Int) = ((r : Int), mayZ (r : Int)) := by
    unfold cleanZ
    rw [if_neg (by omega), if_neg (by omega)]
    rfl
  unfold keepZ
  rw [e]

set_option maxHeartbeats 8000000 in
theorem rclean_any (s : ByteArray) (w : World) (hs : s.size ≤ 100000) :
    Calls Try.prog 32 #[.string s] w (IntsPost (cleanD s.data.toList) w) := by
  obtain ⟨i0, hi, hz0, hz1, hz2⟩ := info_parts infoRune
  have hc := runes_any s w (by omega)
  unfold RunesPost at hc
  have hlen := runesD_length _ s.data.toList (Nat.le_refl _)
  rw [← size_eq] at hlen
  unfold cleanD
  obtain ⟨rs, hrs⟩ : ∃ rs, runesD s.data.toList = rs := ⟨_, rfl⟩
  rw [hrs] at hc hlen ⊢
  clear hrs
  obtain ⟨n, hn⟩ : ∃ n, rs.length = n := ⟨_, rfl⟩
  rw [hn] at hc hlen
  have N := Lib.hid hn
  obtain ⟨C, hC⟩ : ∃ C, rs.flatMap keepZ = C := ⟨_, rfl⟩
  rw [hC]
  have HC := Lib.hid hC
  clear hn hC
  go_enter Try.func32, Try.ntmps32
  go_wp2_with (go_at_call 47; ((with_reducible refine hc.mono ?_); rintro e w1 ⟨c, rfl, hr, hb1⟩; have HR := Lib.hid hr; clear hr hc))
  have hz1 := hb1.size
  have hgl : w.heap.size < w1.heap.size ∨ n = 0 := by
    by_cases h : 0 < n
    · exact .inl (lt_of_cell' (HR.out 0 (by rw [N.out]; exact h)))
    · exact .inr (by omega)
  go_loopw [3, 5] (fun v i wr => ∃ (k : Nat) (l : List Int), k ≤ n ∧ i = .int .i64 k ∧ l.length ≤ k ∧ Hid (l ++ (rs.drop k).flatMap keepZ = C) ∧ wr.ownsRow w1.heap.size 21 1 v l.length (cellsI l) ∧ Below w1.heap.size w1 wr) (fun _ i _ => n - (RowKit.intOf i).toNat)
  case atStart => exact ⟨0, [], Nat.zero_le _, rfl, Nat.le_refl _, Lib.hid (by simpa using HC.out), World.ownsRow_nil _ _ _ _, Below.refl _ _⟩
  case round =>
    obtain ⟨k, l, hk, rfl, hlk, HK, hown, hb⟩ := hrel
    have hsz := hb.size
    by_cases hlt : k < n
    · have hkl : k < rs.length := by rw [N.out]; exact hlt
      have hwl : w.heap.size < w1.heap.size := by omega
      have hcell := (hb.cell (p := ⟨w.heap.size, k, none⟩) hwl).trans (HR.out k hkl)
      have hst := HK.out
      have hdr : rs.drop k = rs[k]! :: rs.drop (k + 1) := by
        rw [List.drop_eq_getElem_cons hkl, List.getElem!_eq_getElem?_getD, List.getElem?_eq_getElem hkl]; rfl
      rw [hdr, List.flatMap_cons] at hst
      obtain ⟨r, hr⟩ : ∃ r, rs[k]! = r := ⟨_, rfl⟩
      rw [hr] at hcell hst
      have hkI : (k : Int) < (n : Int) := by omega
      clear hdr hr HK hkl
      by_cases h1 : r = 9 ∨ r = 12 ∨ r = 13
      · rw [keep_blank h1] at hst
        have HS := Lib.hid hst
        clear hst
        have hm := fun w => rmay_any 32 w
        have e32 : mayZ 32 = true := rfl
        rw [e32] at hm
        rcases h1 with rfl | rfl | rfl
        all_goals
          go_wp2_with (first
            | (go_at_call 48; ((with_reducible refine (hm _).mono ?_); rintro e w2 ⟨rfl, rfl⟩))
            | (at_builtin; refine wpList_append_own _ rfl _ _ 50 rfl w1.heap.size 21 i0 _ 1 4 Try.underlying50 hi hz0 ‹i0.size = 1› hz2 rfl (by decide) _ _ _ rfl (hown.alloc _) ⟨wr.heap.size, 0, none⟩ 1 1 [.int .i32 32] rfl rfl (one_new _ _ _) (by simp [Value.oneCell']) (by unfold maxLen; omega) (by omega) (by simp; omega) ?_; intro v' w3 hown' hgrow _))
          go_roundw
          case rel => exact ⟨k + 1, l ++ [32], hlt, by go_num, by simp; omega, Lib.hid (by have := HS.out; simpa using this), ints_snoc hown', below_grown (hb.alloc hsz _) (by simp; omega) (hown.alloc _) hgrow⟩
          case measure => simp [RowKit.intOf]; omega
      · by_cases h2 : r = 10
        · subst h2
          rw [keep_break] at hst
          have HS := Lib.hid hst
          clear hst
          have hm := fun w => rmay_any 10 w
          have e10 : mayZ 10 = false := rfl
          rw [e10] at hm
          go_wp2_with (first
            | (go_at_call 48; ((with_reducible refine (hm _).mono ?_); rintro e w2 ⟨rfl, rfl⟩))
            | (at_builtin; refine wpList_append_own _ rfl _ _ 50 rfl w1.heap.size 21 i0 _ 1 4 Try.underlying50 hi hz0 ‹i0.size = 1› hz2 rfl (by decide) _ _ _ rfl (hown.alloc _) ⟨wr.heap.size, 0, none⟩ 1 1 [.int .i32 10] rfl rfl (one_new _ _ _) (by simp [Value.oneCell']) (by unfold maxLen; omega) (by omega) (by simp; omega) ?_; intro v' w3 hown' hgrow _))
          go_roundw
          case rel => exact ⟨k + 1, l ++ [10], hlt, by go_num, by simp; omega, Lib.hid (by have := HS.out; simpa using this), ints_snoc hown', below_grown (hb.alloc hsz _) (by simp; omega) (hown.alloc _) hgrow⟩
          case measure => simp [RowKit.intOf]; omega
        · rw [keep_other h1 h2] at hst
          have g1 : ((r : Int) == 9) = false := by simp; omega
          have g2 : ((r : Int) == 12) = false := by simp; omega
          have g3 : ((r : Int) == 13) = false := by simp; omega
          have g4 : ((r : Int) == 10) = false := by simp; omega
          have k1 : ¬ (r : Int) = 9 := by omega
          have k2 : ¬ (r : Int) = 12 := by omega
          have k3 : ¬ (r : Int) = 13 := by omega
          have k4 : ¬ (r : Int) = 10 := by omega
          have hm := fun w => rmay_any (r : Int) w
          obtain ⟨M, hM⟩ : ∃ M, mayZ (r : Int) = M := ⟨_, rfl⟩
          rw [hM] at hm hst
          clear hM h1 h2
          cases M with
          | true =>
            have HS := Lib.hid hst
            clear hst
            go_wp2_with (first
              | (go_at_call 48; ((with_reducible refine (hm _).mono ?_); rintro e w2 ⟨rfl, rfl⟩))
              | (at_builtin; refine wpList_append_own _ rfl _ _ 50 rfl w1.heap.size 21 i0 _ 1 4 Try.underlying50 hi hz0 ‹i0.size = 1› hz2 rfl (by decide) _ _ _ rfl (hown.alloc _) ⟨wr.heap.size, 0, none⟩ 1 1 [.int .i32 (r : Int)] rfl rfl (one_new _ _ _) (by simp [Value.oneCell']) (by unfold maxLen; omega) (by omega) (by simp; omega) ?_; intro v' w3 hown' hgrow _))
            go_roundw
            case rel => exact ⟨k + 1, l ++ [(r : Int)], hlt, by go_num, by simp; omega, Lib.hid (by have := HS.out; simpa using this), ints_snoc hown', below_grown (hb.alloc hsz _) (by simp; omega) (hown.alloc _) hgrow⟩
            case measure => simp [RowKit.intOf]; omega
          | false =>
            have HS := Lib.hid hst
            clear hst
            go_wp2_with (go_at_call 48; ((with_reducible refine (hm _).mono ?_); rintro e w2 ⟨rfl, rfl⟩))
            go_roundw
            case rel => exact ⟨k + 1, l, hlt, by go_num, by omega, Lib.hid (by have := HS.out; simpa using this), hown, hb⟩
            case measure => simp [RowKit.intOf]; omega
    · have hkn : k = n := by omega
      subst hkn
      have hl2 : l = C := by rw [← HK.out, List.drop_eq_nil_of_le (by rw [N.out]; omega)]; simp
      have HL := Lib.hid hl2
      clear hl2 HK
      go_wp2
      go_ret
      rw [← HL.out]
      exact ⟨_, rfl, hown.mono hz1, hb1.trans (hb.mono hz1)⟩

set_option maxHeartbeats 8000000 in
theorem rof_any (s : ByteArray) (b : Int) (h : ByteArray) (w : World) (hs : s.size ≤ 100000) :
    Calls Try.prog 12 #[.string s, .int .i64 b, .string h] w (OwnPost (ofR (cleanD s.data.toList) b h) w) := by
  have hc := rclean_any s w hs
  unfold IntsPost at hc
  have hln := cleanD_length s.data.toList
  rw [← size_eq] at hln
  obtain ⟨C, hC⟩ : ∃ C, cleanD s.data.toList = C := ⟨_, rfl⟩
  rw [hC] at hc hln ⊢
  clear hC
  obtain ⟨n, hn⟩ : ∃ n, C.length = n := ⟨_, rfl⟩
  rw [hn] at hc hln
  have N := Lib.hid hn
  clear hn
  go_enter Try.func12, Try.ntmps12
  go_wp2_with (go_at_call 32; ((with_reducible refine hc.mono ?_); rintro e w1 ⟨v1, rfl, hown1, hb1⟩; obtain ⟨a1, c1, e1⟩ := own_len hown1; subst e1; have O1 := Lib.hid hown1; clear hc hown1))
  have hz1 := hb1.size
  go_loopw [8, 9] (fun v i wr => ∃ (k : Nat) (l : Row), k ≤ n ∧ i = .int .i64 k ∧ l.length = k ∧ Hid (ofR (C.take k) b h = l) ∧ wr.ownsRow w1.heap.size 47 3 v l.length (cellsR l) ∧ Below w1.heap.size w1 wr) (fun _ i _ => n - (RowKit.intOf i).toNat)
  case atStart => exact ⟨0, [], Nat.zero_le _, rfl, rfl, Lib.hid rfl, World.ownsRow_nil _ _ _ _, Below.refl _ _⟩
  case round =>
    obtain ⟨k, l, hk, rfl, hlk, HK, hown, hb⟩ := hrel
    have hsz := hb.size
    by_cases hlt : k < n
    · obtain ⟨g, rfl, hcell, hnc, hcm, hgl⟩ := int_at O1.out N.out hlt
      unfold maxLen at hcm
      replace hcell := (hb.cell (p := ⟨g, k, none⟩) hgl).trans hcell
      have hnx := ofR_next (by rw [N.out]; exact hlt) b h
      rw [HK.out] at hnx
      obtain ⟨r, hr⟩ : ∃ r, C[k]! = r := ⟨_, rfl⟩
      rw [hr] at hcell hnx
      have HX := Lib.hid hnx
      have hkI : (k : Int) < (n : Int) := by omega
      have L := Lib.hid hlk
      clear hnx hr HK hlk
      go_wp2_with (at_builtin; refine wpList_append_row rfl _ _ rfl w1.heap.size _ l rfl (hown.alloc _) _ [(r, b, h)] rfl (one_row _ _ _ _ _) (by have := L.out; simp; omega) (by simp; omega) ?_; intro v' w2 hown' hgrow)
      go_roundw
      case rel => exact ⟨k + 1, _, hlt, by go_num, by have := L.out; simp; omega, HX, hown', below_grown (hb.alloc hsz _) (by simp; omega) (hown.alloc _) hgrow⟩
      case measure => simp [RowKit.intOf]; omega
    · have hkn : k = n := by omega
      subst hkn
      have hl2 : ofR C b h = l := by rw [← HK.out, List.take_of_length_le (by rw [N.out]; omega)]
      have HL := Lib.hid hl2
      clear hl2 HK
      go_wp2
      go_ret
      rw [HL.out]
      exact ⟨_, rfl, hown.mono hz1, hb1.trans (hb.mono hz1)⟩

end Go.Proofs.Ytiaoflagjaclmaa
