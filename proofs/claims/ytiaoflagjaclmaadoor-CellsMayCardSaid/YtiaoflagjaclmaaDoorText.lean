/-
  The program's Text.
-/
import Derived.Test.YtiaoflagjaclmaaDoorOf
import Derived.Laws.Cover4
import Derived.Laws.IdiomStrings
namespace Go.Proofs.YtiaoflagjaclmaaDoor
open Go.RowKit Go.Lib

/-- The text of a row's characters. -/
def charsR (l : Row) : List Int := l.map (·.1)
theorem charsR_next {l : Row} {k : Nat} (hk : k < l.length) : charsR (l.take (k + 1)) = charsR (l.take k) ++ [(l[k]!).1] := by
  unfold charsR
  rw [take_next hk, List.map_append]; rfl
def textS (cs : List Int) : ByteArray := runesBytes cs

theorem conv_runes {w : World} {B : Nat} {v : Value} {C : List Int} (h : w.ownsRow B 21 1 v C.length (cellsI C)) :
    (convert 50 9 v).run Tryd.prog w = .ok (.string (textS C)) w := by
  obtain ⟨a, c, rfl⟩ := own_len h
  rcases h.2 with ⟨e, hn⟩ | ⟨g, cap, cur, e, _⟩
  · obtain rfl : C = [] := List.eq_nil_of_length_eq_zero hn
    rw [e]
    exact run_convert_runes_nil w 50 9 21 0 0 Tryd.underlying50 Tryd.underlying21 Tryd.underlying9
  · simp only [Value.slice.injEq, true_and] at e
    obtain ⟨rfl, rfl⟩ := e
    have h0 := run_convert_runes (P := Tryd.prog) w 50 9 21 ⟨g, 0, none⟩ C.length c C (Nat.le_refl _) Tryd.underlying50 Tryd.underlying21 Tryd.underlying9 (fun j hj => by
      obtain ⟨g', e, hc, _⟩ := int_at h rfl hj
      simp only [Option.some.injEq, Addr.mk.injEq, and_true] at e
      subst e
      rw [Addr.add_lit, Nat.zero_add, hc, List.getD_eq_getElem?_getD, List.getElem!_eq_getElem?_getD]; rfl)
    rw [List.take_of_length_le (Nat.le_refl _)] at h0
    exact h0

theorem ctext_any (v : Value) (C : List Int) (B : Nat) (w : World) (h : w.ownsRow B 21 1 v C.length (cellsI C)) :
    Calls Tryd.prog 31 #[v] w fun e w' => e = .returned (.string (textS C)) ∧ w = w' := by
  have hcv := conv_runes h
  clear h
  go_enter Tryd.func31, Tryd.ntmps31
  go_wp2
  go_ret
  exact ⟨rfl, rfl⟩

theorem two_new1 (w : World) (o : Obj) (x : Value) (t : TypeId) : ∀ j u, ([x] : List Value)[j]? = some u → ((w.alloc o).alloc (.cells #[x] t)).cell? ((⟨w.heap.size + 1, 0, none⟩ : Addr).add j) = some u := by
  have h := one_new (w.alloc o) x t
  rw [World.size_alloc] at h
  exact h

set_option maxHeartbeats 8000000 in
theorem text_any (v : Value) (l : Row) (w : World) (hv : RowAt w v l) (hl : l.length ≤ 100000) :
    Calls Tryd.prog 10 #[v] w fun e w' => e = .returned (.string (textS (charsR l))) ∧ Below w.heap.size w w' := by
  obtain ⟨i0, hi, hz0, hz1, hz2⟩ := info_parts infoRune
  obtain ⟨a, c, rfl⟩ := hv.len
  have V := Lib.hid hv
  obtain ⟨n, hn⟩ : ∃ n, l.length = n := ⟨_, rfl⟩
  rw [hn] at hl V ⊢
  have N := Lib.hid hn
  have hct := fun v C B w => ctext_any v C B w
  clear hv hn
  go_enter Tryd.func10, Tryd.ntmps10
  go_wp2
  go_loopw [3, 8] (fun v i wr => ∃ (k : Nat) (C : List Int), k ≤ n ∧ i = .int .i64 k ∧ C.length = k ∧ Hid (charsR (l.take k) = C) ∧ wr.ownsRow w.heap.size 21 1 v C.length (cellsI C) ∧ Below w.heap.size w wr) (fun _ i _ => n - (RowKit.intOf i).toNat)
  case atStart => exact ⟨0, [], Nat.zero_le _, rfl, rfl, Lib.hid rfl, World.ownsRow_nil _ _ _ _, Below.refl _ _⟩
  case round =>
    obtain ⟨k, C, hk, rfl, hCk, HK, hown, hb⟩ := hrel
    have hsz := hb.size
    by_cases hlt : k < n
    · have hkl : k < l.length := by rw [N.out]; exact hlt
      obtain ⟨b, o, c2, e, hlc, hcm, hbl, hcs⟩ := V.out.lies (by omega)
      rw [N.out] at e hlc
      obtain ⟨rfl, _, rfl⟩ := Value.slice.inj e
      unfold maxLen at hcm
      obtain ⟨x1, x2, x3⟩ := (hcs.below hbl hb) k hkl
      have hnx := charsR_next hkl
      rw [HK.out] at hnx
      obtain ⟨X, hX⟩ : ∃ X, l[k]! = X := ⟨_, rfl⟩
      rw [hX] at x1 x2 x3 hnx
      obtain ⟨X1, X2, X3⟩ := X
      have HX := Lib.hid hnx
      have L := Lib.hid hCk
      have hkI : (k : Int) < (n : Int) := by omega
      have hbw : b < wr.heap.size := by omega
      clear hnx HK hCk hX hcs e hkl
      go_wp2_with (at_builtin; refine wpList_append_own _ rfl _ _ 50 rfl w.heap.size 21 i0 _ 1 4 Tryd.underlying50 hi hz0 hz1 hz2 rfl (by decide) _ _ _ rfl ((hown.alloc _).alloc _) ⟨wr.heap.size + 1, 0, none⟩ 1 1 [.int .i32 X1] rfl rfl (two_new1 _ _ _ _) (by simp [Value.oneCell']) (by have := L.out; unfold maxLen; omega) (by have := L.out; omega) (by simp; omega) ?_; intro v' w2 hown' hgrow _)
      go_roundw
      case rel => exact ⟨k + 1, _, hlt, by go_num, by have := L.out; simp; omega, HX, ints_snoc hown', ((hb.alloc hsz _).alloc (by simp; omega) _).grown hgrow (by simp; omega) (fun r e => by have := hown.lt r e; omega)⟩
      case measure => simp [RowKit.intOf]; omega
    · have hkn : k = n := by omega
      subst hkn
      have hl2 : charsR l = C := by rw [← HK.out, List.take_of_length_le (by rw [N.out]; omega)]
      have HL := Lib.hid hl2
      have OW := Lib.hid hown
      clear hl2 HK
      go_wp2_with (go_at_call 31; ((with_reducible refine (hct _ C w.heap.size _ OW.out).mono ?_); rintro e w3 ⟨rfl, rfl⟩))
      go_ret
      rw [HL.out]
      exact ⟨rfl, hb⟩

end Go.Proofs.YtiaoflagjaclmaaDoor
