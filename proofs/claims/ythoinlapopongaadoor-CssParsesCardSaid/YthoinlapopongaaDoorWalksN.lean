/-
  The document's says.
-/
import Derived.Test.YthoinlapopongaaDoorWalksM
import Derived.Test.YthoinlapopongaaDoorWalksJ
namespace Go.Proofs.YthoinlapopongaaDoor
open Go.RowKit Go.Lib

def wordsOf (Z : Int) (ok : Bool) : Int × Int × Bool := if ok = true then (Z, bits .andNot .i64 12 Z, Z != 0) else (0, 0, false)
/-- What the document's says answers: set, cleared, whether it says anything. -/
def saysS (p v : ByteArray) : Int × Int × Bool :=
  if p = kWeight then (if v = kBold ∨ v = kHeavy then (1, 0, true) else if v = kNormal ∨ v = kPlain then (0, 1, true) else (0, 1, false))
  else if p = kStyle then (if v = kItalic then (2, 0, true) else if v = kNormal then (0, 2, true) else (0, 2, false))
  else if p = kDeco then (if v = kNone then (0, 12, true) else wordsOf (strokesOf (wordsS v)).toInt (allStrokes (wordsS v)))
  else (0, 0, false)

theorem words_filter (v : ByteArray) : wordsS v = (partsOf 32 v).filter fun q => !q.data.toList.isEmpty := by
  unfold wordsS partsOf wordsB
  rw [List.filter_map]
  rfl
def someOf (l : List ByteArray) : List ByteArray := l.filter fun q => !q.data.toList.isEmpty
theorem someOf_empty (l : List ByteArray) : someOf (l ++ [⟨#[]⟩]) = someOf l := by unfold someOf; rw [List.filter_append]; simp
theorem someOf_more (l : List ByteArray) {q : ByteArray} (h : q.data.toList.isEmpty = false) : someOf (l ++ [q]) = someOf l ++ [q] := by
  unfold someOf
  rw [List.filter_append, List.filter_cons, h]
  rfl
theorem someOf_prefix (l : List ByteArray) (k : Nat) : someOf (l.take k) <+: someOf l := by
  unfold someOf
  conv => rhs; rw [← List.take_append_drop k l, List.filter_append]
  exact List.prefix_append _ _

def SaysPost (p v : ByteArray) (w : World) (e : Ending) (w' : World) : Prop :=
  e = .returned (.tuple #[.int .i64 (saysS p v).1, .int .i64 (saysS p v).2.1, .bool (saysS p v).2.2]) ∧ Below w.heap.size w w'

set_option maxHeartbeats 8000000 in
theorem rsays_words (v : ByteArray) (w : World) (hs : v.size ≤ 1000000) (h0 : ¬ v = kNone) :
    Calls Tryd.prog 18 #[.string kDeco, .string v] w (SaysPost kDeco v w) := by
  have hsay : saysS kDeco v = wordsOf (strokesOf (wordsS v)).toInt (allStrokes (wordsS v)) := by
    unfold saysS
    rw [if_neg (by decide), if_neg (by decide), if_pos rfl, if_neg h0]
  have hwf : wordsS v = someOf (partsOf 32 v) := words_filter v
  have HSAY := Lib.hid hsay
  have HWF := Lib.hid hwf
  have hl := list_ne' h0
  have hsp : ∀ w, Calls Tryd.prog 17 #[.string v, .int .u8 32] w (SplitPost w.heap.size (partsOf 32 v) w) := fun w => rsplit_any v 32 w hs
  have hcnt : (partsOf 32 v).length ≤ v.size + 1 := by
    unfold partsOf; rw [List.length_map]; have := parts_count 32 v.data.toList; rw [← size_eq] at this; exact this
  have hpos : 0 < (partsOf 32 v).length := by
    unfold partsOf; rw [List.length_map]; exact List.length_pos_iff.2 (partsB_ne 32 v.data.toList)
  obtain ⟨Q, hQ⟩ : ∃ Q, partsOf 32 v = Q := ⟨_, rfl⟩
  rw [hQ] at hsp hcnt hpos
  have HQ := Lib.hid hQ
  clear hQ hsay hwf h0
  go_enter Tryd.func18, Tryd.ntmps18
  go_wp2_with (go_at_call 17; ((with_reducible refine (hsp _).mono ?_); rintro e w1 ⟨u, rfl, hown, hb⟩))
  obtain ⟨n, hn⟩ : ∃ n, Q.length = n := ⟨_, rfl⟩
  unfold TextsOwn at hown
  rw [hn] at hown hcnt hpos
  obtain ⟨g, cap, rfl, hgB, hgW⟩ := hown.form hpos
  have hcap : n ≤ cap := by
    rcases hown.2 with ⟨h, _⟩ | ⟨g', cap', cur, h, _, _, hn, _⟩
    · cases h
    · cases h; exact hn
  have HN := Lib.hid hn
  have HOWN := Lib.hid hown
  clear hn hown hsp
  go_wp2
  go_loopg [8, 9] n (fun gk s8 s9 wx => ∃ k : Nat, s9 = .int .i64 (k : Int) ∧ k + gk = n ∧ w1 = wx ∧ s8 = .int .i64 (strokesOf (someOf (Q.take k))).toInt ∧ allStrokes (someOf (Q.take k)) = true)
  case atStart => exact ⟨0, rfl, by omega, rfl, rfl, rfl⟩
  case round =>
    obtain ⟨k, rfl, hgk, rfl, rfl, hall⟩ := hrel
    by_cases hlt : k < n
    · obtain ⟨g3, rfl⟩ : ∃ g3, gk = g3 + 1 := ⟨gk - 1, by omega⟩
      have hkQ : k < Q.length := by rw [HN.out]; exact hlt
      obtain ⟨q, hq⟩ : ∃ q, Q[k] = q := ⟨_, rfl⟩
      have hsn : Q.take (k + 1) = Q.take k ++ [q] := by rw [List.take_succ_eq_append_getElem hkQ, hq]
      have hcell : w1.cell? ⟨g, k, none⟩ = some (.string q) := by
        rw [HOWN.out.cellAt k (by omega), List.getElem?_map, List.getElem?_eq_getElem hkQ, hq]; rfl
      obtain ⟨z, hz⟩ : ∃ z, (strokesOf (someOf (Q.take k))).toInt = z := ⟨_, rfl⟩
      by_cases hu : q = kUnder
      · have e0 : someOf (Q.take (k + 1)) = someOf (Q.take k) ++ [kUnder] := by rw [hsn, hu]; exact someOf_more _ rfl
        have e1 : (strokesOf (someOf (Q.take (k + 1)))).toInt = bits .or .i64 z 4 := by
          rw [e0, strokesOf_snoc, ← hz, bits_or, ofInt_bits]; rfl
        have e2 : allStrokes (someOf (Q.take (k + 1))) = true := by rw [e0, allStrokes_snoc, hall]; decide
        have E1 := Lib.hid e1
        have E2 := Lib.hid e2
        rw [hu] at hcell
        rw [hz]
        clear e0 e1 e2 hz hall hsn hq hu
        go_wp2
        go_roundg g3
        case measure => omega
        case rel => exact ⟨k + 1, by simp, by omega, rfl, by rw [E1.out], E2.out⟩
      · have hl1 := list_ne' hu
        by_cases ht : q = kThrough
        · have e0 : someOf (Q.take (k + 1)) = someOf (Q.take k) ++ [kThrough] := by rw [hsn, ht]; exact someOf_more _ rfl
          have e1 : (strokesOf (someOf (Q.take (k + 1)))).toInt = bits .or .i64 z 8 := by
            rw [e0, strokesOf_snoc, ← hz, bits_or, ofInt_bits]; rfl
          have e2 : allStrokes (someOf (Q.take (k + 1))) = true := by rw [e0, allStrokes_snoc, hall]; decide
          have E1 := Lib.hid e1
          have E2 := Lib.hid e2
          rw [ht] at hcell
          rw [hz]
          clear e0 e1 e2 hz hall hsn hq hu hl1 ht
          go_wp2
          go_roundg g3
          case measure => omega
          case rel => exact ⟨k + 1, by simp, by omega, rfl, by rw [E1.out], E2.out⟩
        · have hl2 := list_ne' ht
          by_cases he : q = ⟨#[]⟩
          · have e0 : someOf (Q.take (k + 1)) = someOf (Q.take k) := by rw [hsn, he]; exact someOf_empty _
            have E0 := Lib.hid e0
            have HA := Lib.hid hall
            rw [he] at hcell
            rw [hz]
            have HZ := Lib.hid hz
            clear e0 hz hall hsn hq hu hl1 hl2 ht he
            go_wp2
            go_roundg g3
            case measure => omega
            case rel => exact ⟨k + 1, by simp, by omega, rfl, by rw [E0.out, HZ.out], by rw [E0.out]; exact HA.out⟩
          · obtain ⟨m1, m2, m3⟩ := ba_ne he
            have hne : q.data.toList.isEmpty = false := by rw [← toList_data]; exact m2
            have e0 : someOf (Q.take (k + 1)) = someOf (Q.take k) ++ [q] := by rw [hsn]; exact someOf_more _ hne
            have e2 : allStrokes (wordsS v) = false := by
              rw [HWF.out, HQ.out]
              refine allStrokes_prefix (someOf_prefix Q (k + 1)) ?_
              rw [e0, allStrokes_snoc, decide_eq_false (fun h => h.elim hu ht), Bool.and_false]
            have E2 := Lib.hid e2
            rw [hz]
            clear e0 e2 hz hall hsn hq hu ht he hne
            go_wp2
            go_ret3
            exact ⟨by rw [HSAY.out, E2.out]; rfl, hb⟩
    · obtain rfl : k = n := by omega
      rw [List.take_of_length_le (by rw [HN.out]; exact Nat.le_refl _)] at hall ⊢
      have e0 : someOf Q = wordsS v := by rw [HWF.out, HQ.out]
      rw [e0] at hall ⊢
      obtain ⟨z, hz⟩ : ∃ z, (strokesOf (wordsS v)).toInt = z := ⟨_, rfl⟩
      rw [hz]
      have HZ := Lib.hid hz
      have HA := Lib.hid hall
      clear hall e0 hz
      go_wp2
      go_ret3
      exact ⟨by rw [HSAY.out, HA.out, HZ.out]; rfl, hb⟩

set_option maxHeartbeats 4000000 in
theorem rsays_any (p v : ByteArray) (w : World) (hs : v.size ≤ 1000000) :
    Calls Tryd.prog 18 #[.string p, .string v] w (SaysPost p v w) := by
  by_cases h1 : p = kWeight
  · subst h1
    by_cases h2 : v = kBold
    · subst h2
      go_enter Tryd.func18, Tryd.ntmps18
      go_wp2
      go_ret3
      exact ⟨rfl, Below.refl _ _⟩
    · have k2 := list_ne' h2
      by_cases h3 : v = kHeavy
      · subst h3
        go_enter Tryd.func18, Tryd.ntmps18
        go_wp2
        go_ret3
        exact ⟨rfl, Below.refl _ _⟩
      · have k3 := list_ne' h3
        by_cases h4 : v = kNormal
        · subst h4
          go_enter Tryd.func18, Tryd.ntmps18
          go_wp2
          go_ret3
          exact ⟨rfl, Below.refl _ _⟩
        · have k4 := list_ne' h4
          by_cases h5 : v = kPlain
          · subst h5
            go_enter Tryd.func18, Tryd.ntmps18
            go_wp2
            go_ret3
            exact ⟨rfl, Below.refl _ _⟩
          · have k5 := list_ne' h5
            have e : saysS kWeight v = (0, 1, false) := by
              unfold saysS
              rw [if_pos rfl, if_neg (fun h => h.elim h2 h3), if_neg (fun h => h.elim h4 h5)]
            have E := Lib.hid e
            clear e h2 h3 h4 h5
            go_enter Tryd.func18, Tryd.ntmps18
            go_wp2
            go_ret3
            exact ⟨by rw [E.out]; rfl, Below.refl _ _⟩
  · have l1 := list_ne' h1
    by_cases h2 : p = kStyle
    · subst h2
      by_cases h3 : v = kItalic
      · subst h3
        go_enter Tryd.func18, Tryd.ntmps18
        go_wp2
        go_ret3
        exact ⟨rfl, Below.refl _ _⟩
      · have k3 := list_ne' h3
        by_cases h4 : v = kNormal
        · subst h4
          go_enter Tryd.func18, Tryd.ntmps18
          go_wp2
          go_ret3
          exact ⟨rfl, Below.refl _ _⟩
        · have k4 := list_ne' h4
          have e : saysS kStyle v = (0, 2, false) := by
            unfold saysS
            rw [if_neg (by decide), if_pos rfl, if_neg h3, if_neg h4]
          have E := Lib.hid e
          clear e h3 h4
          go_enter Tryd.func18, Tryd.ntmps18
          go_wp2
          go_ret3
          exact ⟨by rw [E.out]; rfl, Below.refl _ _⟩
    · have l2 := list_ne' h2
      by_cases h3 : p = kDeco
      · subst h3
        by_cases h4 : v = kNone
        · subst h4
          go_enter Tryd.func18, Tryd.ntmps18
          go_wp2
          go_ret3
          exact ⟨rfl, Below.refl _ _⟩
        · exact rsays_words v w hs h4
      · have l3 := list_ne' h3
        have e : saysS p v = (0, 0, false) := by
          unfold saysS
          rw [if_neg h1, if_neg h2, if_neg h3]
        have E := Lib.hid e
        clear e h1 h2 h3
        go_enter Tryd.func18, Tryd.ntmps18
        go_wp2
        go_ret3
        exact ⟨by rw [E.out]; rfl, Below.refl _ _⟩

end Go.Proofs.YthoinlapopongaaDoor
