/-
  What makes a node: isElement, slices.Index over the nodes, own of nothing, anew, bare, New.
-/
import Derived.Test.YtggjoefhopoggaaDoorUp
import Derived.Laws.IdiomStrings
import Derived.Laws.Cover4
namespace Go.Proofs.YtggjoefhopoggaaDoor
open Go.RowKit Go.Lib

theorem isel_any (t : Int) (w : World) (hT : OwnT w) :
    Calls Tryd.prog 79 #[.int .i64 t] w fun e w' => e = .returned (.bool (!(nameOf t).toList.isEmpty)) ∧ w = w' := by
  have cN := name_any t w hT
  obtain ⟨s, hs⟩ : ∃ s, nameOf t = s := ⟨_, rfl⟩
  rw [hs] at cN ⊢
  clear hs hT
  go_enter Tryd.func79, Tryd.ntmps79
  go_wp2_with (go_at_call 87; ((with_reducible refine (cN).mono ?_); rintro e w1 ⟨rfl, rfl⟩))
  go_ret
  exact ⟨rfl, rfl⟩

/-- The first number that no node has; -1: none. -/
def ixN : List (Option Nd) → Nat → Int
  | [], _ => -1
  | none :: _, i => i
  | some _ :: l, i => ixN l (i + 1)
set_option maxRecDepth 20000 in
set_option maxHeartbeats 4000000 in
theorem ix_any (w : World) (p nb : Nat) (deep : Int) (l : List (Option Nd)) (h : TreeAt w p nb deep l) :
    Calls Tryd.prog 85 #[.slice (some ⟨nb, 0, none⟩) l.length l.length, .pointer none] w fun e w' => e = .returned (.int .i64 (ixN l 0)) ∧ w = w' := by
  have hle := h.le
  have hq := fun a => eqNilNode a w
  obtain ⟨R, hR⟩ : ∃ R, ixN l 0 = R := ⟨_, rfl⟩
  rw [hR]
  have H0 : Hid (ixN (l.drop 0) 0 = R) := Lib.hid hR
  have HT := Lib.hid h
  obtain ⟨n, hn⟩ : ∃ n, l.length = n := ⟨_, rfl⟩
  rw [hn] at hle ⊢
  have HN := Lib.hid hn
  clear h hR hn
  go_enter Tryd.func85, Tryd.ntmps85
  go_wp2
  go_loop [5, 8] (fun _ i => ∃ k : Nat, k ≤ n ∧ i = .int .i64 k ∧ Hid (ixN (l.drop k) k = R)) (fun _ i => n - (RowKit.intOf i).toNat)
  case atStart => exact ⟨0, Nat.zero_le _, rfl, H0⟩
  case round =>
    obtain ⟨k, hk, rfl, HC⟩ := hrel
    by_cases hlt : k < n
    · have hkl : k < l.length := by rw [HN.out]; exact hlt
      have hd : l.drop k = l[k] :: l.drop (k + 1) := List.drop_eq_getElem_cons hkl
      have hkI : (k : Int) < (n : Int) := by omega
      cases hy : l[k] with
      | none =>
        have hc := HT.out.no k (by rw [List.getElem?_eq_getElem hkl, hy])
        have HF : Hid ((k : Int) = R) := Lib.hid (by have h2 := HC.out; rw [hd, hy] at h2; exact h2)
        have hq1 := hq none
        clear hy hd hkl hq
        go_wp2
        go_ret
        have e9 := HF.out
        subst e9
        exact ⟨rfl, rfl⟩
      | some y =>
        have hc := (HT.out.yes k y (by rw [List.getElem?_eq_getElem hkl, hy])).1
        have HX : Hid (ixN (l.drop (k + 1)) (k + 1) = R) := Lib.hid (by have h2 := HC.out; rw [hd, hy] at h2; exact h2)
        have hq1 := hq (some ⟨y.ab, 0, none⟩)
        clear hy hd hkl hq
        go_wp2
        go_round
        case rel => exact ⟨k + 1, hlt, by go_num, HX⟩
        case measure => simp [RowKit.intOf]; omega
    · have hkn : k = n := by omega
      subst hkn
      have HF : Hid (R = -1) := Lib.hid (by have h2 := HC.out; rw [List.drop_of_length_le (by rw [HN.out]; omega)] at h2; exact h2.symm)
      clear HC
      go_wp2
      go_ret
      have e9 := HF.out
      subst e9
      exact ⟨rfl, rfl⟩

set_option maxRecDepth 20000 in
theorem own_nil (w : World) : Calls Tryd.prog 78 #[.slice none 0 0] w fun e w' => e = .returned (.slice none 0 0) ∧ w = w' := by
  go_enter Tryd.func78, Tryd.ntmps78
  go_wp2
  go_loop [3, 8] (fun v i => v = .slice none 0 0 ∧ i = .int .i64 0) (fun _ _ => 0)
  case atStart => exact ⟨rfl, rfl⟩
  case round =>
    obtain ⟨rfl, rfl⟩ := hrel
    go_wp2
    go_ret
    exact ⟨rfl, rfl⟩

/-! ### anew -/
def runesI (s : ByteArray) : Nat → Nat → List Int
  | 0, _ => []
  | b + 1, i => if i < s.size then Int.ofNat (Utf8.decode s i).1 :: runesI s b (i + (Utf8.decode s i).2) else []
theorem runesFrom_eq (s : ByteArray) : ∀ (b i : Nat) (acc : Array Value), Conv.runesFrom s b i acc = acc ++ ((runesI s b i).map (Value.int .i32)).toArray
  | 0, _, acc => by simp [Conv.runesFrom, runesI]
  | b + 1, i, acc => by
    unfold Conv.runesFrom runesI
    split
    · dsimp only
      rw [runesFrom_eq s b _ _]
      simp
    · simp
theorem runesI_len (s : ByteArray) : ∀ (b i : Nat), (runesI s b i).length ≤ b
  | 0, _ => Nat.le_refl _
  | b + 1, i => by
    unfold runesI
    split
    · have := runesI_len s b (i + (Utf8.decode s i).2)
      simp only [List.length_cons]; omega
    · exact Nat.zero_le _
/-- A text, written anew. -/
def anewS (s : ByteArray) : ByteArray := runesBytes (runesI s s.size 0)
set_option maxRecDepth 20000 in
set_option maxHeartbeats 4000000 in
theorem anew_any (s : ByteArray) (w : World) :
    Calls Tryd.prog 71 #[.string s] w fun e w' => e = .returned (.tuple (if s.size ≤ 8192 then #[.string (anewS s), .bool (decide ((anewS s).size ≤ 8192))] else #[.string ⟨#[]⟩, .bool false])) ∧ Below w.heap.size w w' := by
  by_cases h : s.size ≤ 8192
  · rw [if_pos h]
    have hL := runesI_len s s.size 0
    have hR := runesFrom_eq s s.size 0 #[]
    rw [Array.empty_append] at hR
    have h1 := run_runes_of_string (P := Tryd.prog) w 9 113 21 s Tryd.underlying9 Tryd.underlying113 Tryd.underlying21 (by rw [hR]; simp; omega)
    have hcap := grownCap_ge w (Conv.runesFrom s s.size 0 #[]).size 0 21
    rw [hR] at h1 hcap
    have hz : ((runesI s s.size 0).map (Value.int .i32)).toArray.size = (runesI s s.size 0).length := by simp
    rw [hz] at h1 hcap
    obtain ⟨C, hC⟩ : ∃ C, runesI s s.size 0 = C := ⟨_, rfl⟩
    rw [hC] at h1 hcap hL
    obtain ⟨cp, hcp⟩ : ∃ cp, grownCap w C.length 0 21 = cp := ⟨_, rfl⟩
    rw [hcp] at h1 hcap
    obtain ⟨o, ho⟩ : ∃ o, Obj.cells ((C.map (Value.int .i32)).toArray ++ Array.replicate (cp - C.length) (.int .i32 0)) 21 = o := ⟨_, rfl⟩
    rw [ho] at h1
    have h2 := run_convert_runes (P := Tryd.prog) (w.drew.alloc o) 113 9 21 ⟨w.heap.size, 0, none⟩ C.length cp C (Nat.le_refl _) Tryd.underlying113 Tryd.underlying21 Tryd.underlying9 (fun j hj => by
      rw [← ho, Addr.add_lit, Nat.zero_add]
      have := World.cell?_alloc_mark w.drew ((C.map (Value.int .i32)).toArray ++ Array.replicate (cp - C.length) (.int .i32 0)) 21 (0, 0) j
      refine Eq.trans this ?_
      rw [Array.getElem?_append_left (by simpa using hj)]
      simp [List.getD_eq_getElem?_getD, List.getElem?_eq_getElem hj])
    rw [List.take_of_length_le (Nat.le_refl _)] at h2
    have hS : anewS s = runesBytes C := by unfold anewS; rw [hC]
    rw [hS]
    obtain ⟨S, hS2⟩ : ∃ S, runesBytes C = S := ⟨_, rfl⟩
    rw [hS2] at h2 ⊢
    have h3 : (convert 113 9 (.slice (some ⟨w.heap.size, 0, none⟩) C.length cp)).run Tryd.prog (w.alloc o).drew = .ok (.string S) (w.alloc o).drew := h2
    have hSz := runesBytes_size_le C
    rw [hS2] at hSz
    have hI : (s.size : Int) ≤ 8192 := by omega
    have HB : Hid (Below w.heap.size w (w.drew.alloc o)) := Lib.hid ((Below.refl _ w).drew.alloc (Nat.le_refl _) o)
    have hb : ((S.size : Int) ≤ 8192) = (S.size ≤ 8192) := by simp; omega
    clear hR hz hC hcp ho hS hS2 hcap h2
    go_enter Tryd.func71, Tryd.ntmps71
    go_wp2
    go_ret2
    exact ⟨rfl, HB.out⟩
  · rw [if_neg h]
    have hI : 8192 < (s.size : Int) := by omega
    go_enter Tryd.func71, Tryd.ntmps71
    go_wp2
    go_ret2
    exact ⟨rfl, Below.refl _ _⟩

end Go.Proofs.YtggjoefhopoggaaDoor
