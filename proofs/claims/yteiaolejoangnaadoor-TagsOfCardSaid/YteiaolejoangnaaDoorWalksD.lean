/-
  The contracts of the document's Name, of its comparison but for great letters, and of its Find.
-/
import Derived.Test.YteiaolejoangnaaDoorWalksC
namespace Go.Proofs.YteiaolejoangnaaDoor
open Go.RowKit

theorem name_nil {t : Int} (h : namesOf t = []) : nameOf t = nm 0 := by
  unfold namesOf at h; unfold nameOf
  by_cases ht : t < 0 ∨ 16 < t
  · rw [if_pos ht]
  · rw [if_neg ht] at h ⊢
    obtain ⟨k, rfl⟩ : ∃ a : Nat, t = a := ⟨t.toNat, by omega⟩
    have hc : k = 0 ∨ k = 1 ∨ k = 2 ∨ k = 3 ∨ k = 4 ∨ k = 5 ∨ k = 6 ∨ k = 7 ∨ k = 8 ∨ k = 9 ∨ k = 10 ∨ k = 11 ∨ k = 12 ∨ k = 13 ∨ k = 14 ∨ k = 15 ∨ k = 16 := by omega
    rcases hc with rfl | rfl | rfl | rfl | rfl | rfl | rfl | rfl | rfl | rfl | rfl | rfl | rfl | rfl | rfl | rfl | rfl <;> first | rfl | (revert h; decide)

theorem name_first {t : Int} (h : 0 < (namesOf t).length) : (⟨((namesOf t).getD 0 []).toArray⟩ : ByteArray) = nameOf t := by
  unfold namesOf at h ⊢; unfold nameOf
  by_cases ht : t < 0 ∨ 16 < t
  · rw [if_pos ht] at h; exact absurd h (by decide)
  · rw [if_neg ht, if_neg ht]
    obtain ⟨k, rfl⟩ : ∃ a : Nat, t = a := ⟨t.toNat, by omega⟩
    have hc : k = 0 ∨ k = 1 ∨ k = 2 ∨ k = 3 ∨ k = 4 ∨ k = 5 ∨ k = 6 ∨ k = 7 ∨ k = 8 ∨ k = 9 ∨ k = 10 ∨ k = 11 ∨ k = 12 ∨ k = 13 ∨ k = 14 ∨ k = 15 ∨ k = 16 := by omega
    rcases hc with rfl | rfl | rfl | rfl | rfl | rfl | rfl | rfl | rfl | rfl | rfl | rfl | rfl | rfl | rfl | rfl | rfl <;> rfl

theorem rname_any (t : Int) (w : World) :
    Calls Tryd.prog 12 #[.int .i64 t] w fun e w' => e = .returned (.string (nameOf t)) ∧ Below w.heap.size w w' := by
  by_cases h : namesOf t = []
  · have E := Lib.hid (name_nil h)
    go_enter Tryd.func12, Tryd.ntmps12
    go_wp2_with (go_at_call 26; refine (names_none _ _ h).mono ?_; clear h; rintro e w1 ⟨rfl, hb⟩)
    go_ret
    exact ⟨by rw [E.out]; rfl, hb⟩
  · have hl : 0 < (namesOf t).length := List.length_pos_iff.2 h
    have E := Lib.hid (name_first hl)
    clear h
    go_enter Tryd.func12, Tryd.ntmps12
    go_wp2_with (go_at_call 26; refine (names_some _ _ hl).mono ?_; rintro e w1 ⟨b, rfl, hbs, hc, hb⟩; have h0 : w1.cell? ⟨b, 0, none⟩ = some (.string (nameOf t)) := (by rw [← E.out]; exact hc 0 hl); clear hc)
    go_ret
    exact ⟨rfl, hb⟩

/-- The first k letters of the one, turned small, are those of the other. -/
def SameTo (a b : ByteArray) (k : Nat) : Prop := ∀ j (_ha : j < a.size) (_hb : j < b.size), j < k → low a[j] = b[j]

def lowL (l : List UInt8) : List UInt8 := l.map low

/-- What Find answers. -/
def fndV (s : ByteArray) : Value := .tuple #[.int .i64 (fndT (lowL s.data.toList)), .bool (fndB (lowL s.data.toList))]
theorem fndV_mk {s : ByteArray} {c : Int} {b : Bool} (h1 : c = fndT (lowL s.data.toList)) (h2 : b = fndB (lowL s.data.toList)) : Ending.returned (.tuple #[.int .i64 c, .bool b]) = .returned (fndV s) := by
  subst h1 h2; rfl

def sameB (a b : ByteArray) : Bool := decide (lowL a.data.toList = b.data.toList)

theorem sameB_len {a b : ByteArray} (h : a.size < b.size ∨ b.size < a.size) : sameB a b = false := by
  unfold sameB
  rw [decide_eq_false_iff_not]
  intro e
  have := congrArg List.length e
  simp [lowL] at this
  have e1 : a.size = a.data.size := rfl
  have e2 : b.size = b.data.size := rfl
  omega

theorem sameB_at {a b : ByteArray} {k : Nat} (ha : k < a.size) (hb : k < b.size) (h : low a[k] ≠ b[k]) : sameB a b = false := by
  unfold sameB
  rw [decide_eq_false_iff_not]
  intro e
  apply h
  have h1 : (lowL a.data.toList)[k]? = some (low a[k]) := by
    unfold lowL
    rw [List.getElem?_map, List.getElem?_eq_getElem (by simpa using ha)]
    rfl
  have h2 : b.data.toList[k]? = some b[k] := by
    rw [List.getElem?_eq_getElem (by simpa using hb)]
    rfl
  rw [e, h2] at h1
  exact (Option.some.inj h1).symm

theorem sameB_all {a b : ByteArray} (hs : a.size = b.size) (h : SameTo a b a.size) : sameB a b = true := by
  unfold sameB
  rw [decide_eq_true_iff]
  apply List.ext_getElem
  · simp [lowL]; exact hs
  · intro k h1 h2
    have ha : k < a.size := by simpa [lowL] using h1
    have := h k ha (by omega) ha
    simp [lowL]
    exact this

theorem SameTo.zero (a b : ByteArray) : SameTo a b 0 := fun _ _ _ h => absurd h (Nat.not_lt_zero _)
theorem SameTo.step {a b : ByteArray} {k : Nat} (h : SameTo a b k) (ha : k < a.size) (hb : k < b.size) (e : low a[k] = b[k]) : SameTo a b (k + 1) := by
  intro j h1 h2 hj
  by_cases hjk : j = k
  · subst hjk; exact e
  · exact h j h1 h2 (by omega)

theorem u8_eq {x y : UInt8} (h : (x.toNat : Int) = y.toNat) : x = y := UInt8.toNat_inj.1 (by omega)
theorem low_great {c : UInt8} (h1 : 65 ≤ (c.toNat : Int)) (h2 : (c.toNat : Int) ≤ 90) : ((low c).toNat : Int) = c.toNat + 32 := by
  have : (65 ≤ c ∧ c ≤ 90) := by simp only [UInt8.le_iff_toNat_le]; constructor <;> (simp; omega)
  unfold low
  rw [if_pos this, UInt8.toNat_add, UInt8.toNat_sub]
  simp
  omega
theorem low_other {c : UInt8} (h : (c.toNat : Int) < 65 ∨ 90 < (c.toNat : Int)) : low c = c := by
  unfold low
  rw [if_neg]
  simp only [UInt8.le_iff_toNat_le]
  simp
  omega

set_option maxHeartbeats 2000000 in
theorem same_any (a b : ByteArray) (w : World) (ha : a.size ≤ 9223372036854775807) (_hb : b.size ≤ 9223372036854775807) :
    Calls Tryd.prog 29 #[.string a, .string b] w fun e w' => e = .returned (.bool (sameB a b)) ∧ w = w' := by
  by_cases hl : a.size < b.size ∨ b.size < a.size
  · have E := Lib.hid (sameB_len hl)
    have hne : ((a.size : Int) != b.size) = true := by simp; omega
    clear hl
    go_enter Tryd.func29, Tryd.ntmps29
    go_wp2
    go_ret
    exact ⟨by rw [E.out]; rfl, rfl⟩
  · have h1 : a.size ≤ b.size := by omega
    have h2 : b.size ≤ a.size := by omega
    clear hl
    have hne : ((a.size : Int) != b.size) = false := by simp; omega
    go_enter Tryd.func29, Tryd.ntmps29
    go_wp2
    go_loop [5] (fun i => ∃ k : Nat, k ≤ a.size ∧ SameTo a b k ∧ i = .int .i64 k) (fun i => a.size - (intOf i).toNat)
    case atStart => exact ⟨0, Nat.zero_le _, SameTo.zero _ _, rfl⟩
    case round =>
      obtain ⟨k, hk, hs, rfl⟩ := hrel
      by_cases hlt : k < a.size
      · have hlb : k < b.size := by omega
        by_cases hg : 65 ≤ (a[k].toNat : Int) ∧ (a[k].toNat : Int) ≤ 90
        · have L := Lib.hid (low_great hg.1 hg.2)
          obtain ⟨hg1, hg2⟩ := hg
          by_cases he : (a[k].toNat : Int) + 32 = b[k].toNat
          · have S := Lib.hid (hs.step hlt hlb (u8_eq (by rw [L.out]; exact he)))
            have HE : ((a[k].toNat : Int) + 32 != b[k].toNat) = false := by simp [he]
            clear he hs
            go_wp2
            go_round
            case rel => exact ⟨k + 1, by omega, S.out, by go_num⟩
            case measure => simp [intOf]; omega
          · have E := Lib.hid (sameB_at hlt hlb (fun e => he (by rw [← L.out, e])))
            have HE : ((a[k].toNat : Int) + 32 != b[k].toNat) = true := by simp [he]
            clear he hs
            go_wp2
            go_ret
            exact ⟨by rw [E.out]; rfl, rfl⟩
        · have L := Lib.hid (low_other (c := a[k]) (by omega))
          by_cases he : (a[k].toNat : Int) = b[k].toNat
          · have S := Lib.hid (hs.step hlt hlb (u8_eq (by rw [L.out]; exact he)))
            have HE : ((a[k].toNat : Int) != b[k].toNat) = false := by simp [he]
            clear he hs
            by_cases h65 : 65 ≤ (a[k].toNat : Int)
            · have h90 : ¬ (a[k].toNat : Int) ≤ 90 := by omega
              clear hg
              go_wp2
              go_round
              case rel => exact ⟨k + 1, by omega, S.out, by go_num⟩
              case measure => simp [intOf]; omega
            · clear hg
              go_wp2
              go_round
              case rel => exact ⟨k + 1, by omega, S.out, by go_num⟩
              case measure => simp [intOf]; omega
          · have E := Lib.hid (sameB_at hlt hlb (fun e => he (by rw [← e, L.out])))
            have HE : ((a[k].toNat : Int) != b[k].toNat) = true := by simp [he]
            clear he hs
            by_cases h65 : 65 ≤ (a[k].toNat : Int)
            · have h90 : ¬ (a[k].toNat : Int) ≤ 90 := by omega
              clear hg
              go_wp2
              go_ret
              exact ⟨by rw [E.out]; rfl, rfl⟩
            · clear hg
              go_wp2
              go_ret
              exact ⟨by rw [E.out]; rfl, rfl⟩
      · have hka : k = a.size := by omega
        have E := Lib.hid (sameB_all (a := a) (b := b) (by omega) (hka ▸ hs))
        clear hs hka
        go_wp2
        go_ret
        exact ⟨by rw [E.out]; rfl, rfl⟩

end Go.Proofs.YteiaolejoangnaaDoor
