/-
  The program's Of and Text; the document's.
-/
import Derived.Test.YtiaoflagjaclmaaDoorChars
import Derived.Test.YtiaoflagjaclmaaDoorConcat
namespace Go.Proofs.YtiaoflagjaclmaaDoor
open Go.RowKit Go.Lib

/-- The cells of some characters. -/
def ofR (cs : List Int) (b : Int) (h : ByteArray) : Row := cs.map fun r => (r, b, h)
theorem ofR_next {cs : List Int} {k : Nat} (hk : k < cs.length) (b : Int) (h : ByteArray) : ofR (cs.take (k + 1)) b h = ofR (cs.take k) b h ++ [(cs[k]!, b, h)] := by
  unfold ofR
  rw [take_next hk, List.map_append]
  rfl
theorem ofR_length (cs : List Int) (b : Int) (h : ByteArray) : (ofR cs b h).length = cs.length := by unfold ofR; rw [List.length_map]

theorem one_row (w : World) (r b : Int) (h : ByteArray) (t : TypeId) : RowAt (w.alloc (.cells #[.int .i32 r, .int .i64 b, .string h] t)) (.slice (some ⟨w.heap.size, 0, none⟩) 1 1) [(r, b, h)] := by
  refine .inr ⟨w.heap.size, 0, 1, rfl, by simp, by unfold maxLen; omega, by simp, fun j hj => ?_⟩
  match j, hj with
  | 0, _ => exact ⟨by simp, by simp, by simp⟩
theorem int_at {w : World} {B n c k : Nat} {a : Option Addr} {C : List Int} (h : w.ownsRow B 21 1 (.slice a n c) n (cellsI C)) (hC : C.length = n) (hk : k < n) :
    ∃ g, a = some ⟨g, 0, none⟩ ∧ w.cell? ⟨g, k, none⟩ = some (.int .i32 C[k]!) ∧ n ≤ c ∧ c ≤ maxLen ∧ g < w.heap.size := by
  have h0 := h
  rcases h.2 with ⟨e, rfl⟩ | ⟨g, cap, cur, e, hg, hc, hnc, hcm, _, _⟩
  · omega
  · simp only [Value.slice.injEq, true_and] at e
    obtain ⟨rfl, rfl⟩ := e
    refine ⟨g, rfl, ?_, hnc, hcm, (Array.getElem?_eq_some_iff.1 hc).1⟩
    have hkc : k < C.length := by omega
    have e1 : (cellsI C)[k]? = some (.int .i32 C[k]!) := by
      unfold cellsI
      rw [List.getElem?_map, List.getElem?_eq_getElem hkc, List.getElem!_eq_getElem?_getD, List.getElem?_eq_getElem hkc]
      rfl
    have := h0.cells rfl k _ e1
    rwa [Addr.add_lit, Nat.zero_add] at this

set_option maxHeartbeats 8000000 in
theorem of_any (s : ByteArray) (b : Int) (h : ByteArray) (w : World) (hs : s.size ≤ 100000) :
    Calls Tryd.prog 24 #[.string s, .int .i64 b, .string h] w (OwnPost (ofR (cleanD s.data.toList) b h) w) := by
  have hc := clean_any s w hs
  unfold IntsPost at hc
  have hln := cleanD_length s.data.toList
  rw [← size_eq] at hln
  obtain ⟨C, hC⟩ : ∃ C, cleanD s.data.toList = C := ⟨_, rfl⟩
  rw [hC] at hc hln ⊢
  clear hC
  obtain ⟨n, hn⟩ : ∃ n, C.length = n := ⟨_, rfl⟩
  rw [hn] at hc hln
  have N := Lib.hid hn
  clear hn
  go_enter Tryd.func24, Tryd.ntmps24
  go_wp2_with (go_at_call 43; ((with_reducible refine hc.mono ?_); rintro e w1 ⟨v1, rfl, hown1, hb1⟩; obtain ⟨a1, c1, e1⟩ := own_len hown1; subst e1; have O1 := Lib.hid hown1; clear hc hown1))
  have hz1 := hb1.size
  go_loopw [7, 13] (fun v i wr => ∃ (k : Nat) (l : Row), k ≤ n ∧ i = .int .i64 k ∧ l.length = k ∧ Hid (ofR (C.take k) b h = l) ∧ wr.ownsRow w1.heap.size 37 3 v l.length (cellsR l) ∧ Below w1.heap.size w1 wr) (fun _ i _ => n - (RowKit.intOf i).toNat)
  case atStart => exact ⟨0, [], Nat.zero_le _, rfl, rfl, Lib.hid rfl, World.ownsRow_nil _ _ _ _, Below.refl _ _⟩
  case round =>
    obtain ⟨k, l, hk, rfl, hlk, HK, hown, hb⟩ := hrel
    have hsz := hb.size
    by_cases hlt : k < n
    · obtain ⟨g, rfl, hcell, hnc, hcm, hgl⟩ := int_at O1.out N.out hlt
      unfold maxLen at hcm
      replace hcell := (hb.cell (p := ⟨g, k, none⟩) hgl).trans hcell
      have hnx := ofR_next (by rw [N.out]; exact hlt) b h
      rw [HK.out] at hnx
      obtain ⟨r, hr⟩ : ∃ r, C[k]! = r := ⟨_, rfl⟩
      rw [hr] at hcell hnx
      have HX := Lib.hid hnx
      have hkI : (k : Int) < (n : Int) := by omega
      have L := Lib.hid hlk
      clear hnx hr HK hlk
      go_wp2_with (at_builtin; refine wpList_append_row rfl _ _ rfl w1.heap.size _ l rfl (hown.alloc _) _ [(r, b, h)] rfl (one_row _ _ _ _ _) (by have := L.out; simp; omega) (by simp; omega) ?_; intro v' w2 hown' hgrow)
      go_roundw
      case rel => exact ⟨k + 1, _, hlt, by go_num, by have := L.out; simp; omega, HX, hown', below_grown (hb.alloc hsz _) (by simp; omega) (hown.alloc _) hgrow⟩
      case measure => simp [RowKit.intOf]; omega
    · have hkn : k = n := by omega
      subst hkn
      have hl2 : ofR C b h = l := by rw [← HK.out, List.take_of_length_le (by rw [N.out]; omega)]
      have HL := Lib.hid hl2
      clear hl2 HK
      go_wp2
      go_ret
      rw [HL.out]
      exact ⟨_, rfl, hown.mono hz1, hb1.trans (hb.mono hz1)⟩

end Go.Proofs.YtiaoflagjaclmaaDoor
