/-
  The document's trim.
-/
import Derived.Test.YthoinlapopongaaDoorLaws
import Derived.Test.YthoinlapopongaaDoorWalksI
import Derived.Laws.OwnMore
import Derived.Laws.BytesArg
namespace Go.Proofs.YthoinlapopongaaDoor
open Go.RowKit Go.Lib

theorem infoByte8 : (Tryd.prog.info? 5).map (fun i => (i.zero, i.size, i.bytes)) = some (some (.int .u8 0), 1, 1) := by kernel_rfl
theorem plain_done {l : List UInt8} (h1 : ∀ b t, l = b :: t → b ≠ 32) (h2 : ∀ b t, l = t ++ [b] → b ≠ 32) : plainB l = l.map lowB := by
  unfold plainB trimB
  have e2 : trimRightB l 32 = l := by
    unfold trimRightB
    cases hr : l.reverse with
    | nil => rw [List.reverse_eq_nil_iff.1 hr]; rfl
    | cons b t =>
      have hl : l = t.reverse ++ [b] := by
        have := congrArg List.reverse hr
        rw [List.reverse_reverse, List.reverse_cons] at this
        exact this
      have hb := h2 b t.reverse hl
      rw [List.dropWhile_cons_of_neg (by simpa using hb), List.reverse_cons, ← hl]
  have e1 : trimLeftB l 32 = l := by
    unfold trimLeftB
    cases l with
    | nil => rfl
    | cons b t => rw [List.dropWhile_cons_of_neg (by simpa using h1 b t rfl)]
  rw [e2, e1]
def bytesV (l : List UInt8) : List Value := l.map fun b => .int .u8 ((lowB b).toNat : Int)
theorem bytesV_snoc (l : List UInt8) (b : UInt8) : bytesV (l ++ [b]) = bytesV l ++ [.int .u8 ((lowB b).toNat : Int)] := by simp [bytesV]
theorem byte_new (w : World) (x : Value) (t : TypeId) : ∀ j u, ([x] : List Value)[j]? = some u → (w.alloc (.cells #[x] t)).cell? ((⟨w.heap.size, 0, none⟩ : Addr).add j) = some u := by
  intro j u h
  match j, h with
  | 0, h => cases h; simp [Addr.add]
  | j + 1, h => simp at h
theorem take_one (l : List UInt8) (k : Nat) (h : k < l.length) : l.take (k + 1) = l.take k ++ [l.getD k 0] := by
  rw [List.take_succ_eq_append_getElem h, List.getD_eq_getElem?_getD, List.getElem?_eq_getElem h]; rfl

/-- A text between its ends, as the two loops leave it. -/
def Between (s t : ByteArray) : Prop := plainB t.data.toList = plainB s.data.toList ∧ t.size ≤ s.size
def HeadNot (t : ByteArray) : Prop := ∀ b r, t.data.toList = b :: r → b ≠ 32
theorem between_head {s t : ByteArray} (h : Between s t) (h0 : 0 < t.size) (hb : t.data.toList.getD 0 0 = 32) : Between s (t.extract 1 t.size) := by
  have e : (t.extract 1 t.size).data.toList = t.data.toList.drop 1 := by
    rw [ByteArray.data_extract, Array.toList_extract]
    apply List.take_of_length_le
    rw [List.length_drop, size_eq]
    exact Nat.le_refl _
  have hl : t.data.toList ≠ [] := by intro e; rw [size_eq, e] at h0; simp at h0
  obtain ⟨b, r, hbr⟩ := List.exists_cons_of_ne_nil hl
  rw [hbr] at hb
  have hb' : b = 32 := hb
  refine ⟨?_, by have := h.2; simp; omega⟩
  rw [← h.1, e, hbr, hb', plain_lead]; rfl
theorem between_tail {s t : ByteArray} (h : Between s t) (h0 : 0 < t.size) (hb : t.data.toList.getD (t.size - 1) 0 = 32) : Between s (t.extract 0 (t.size - 1)) ∧ (HeadNot t → HeadNot (t.extract 0 (t.size - 1))) := by
  have e : (t.extract 0 (t.size - 1)).data.toList = t.data.toList.take (t.size - 1) := by
    rw [ByteArray.data_extract, Array.toList_extract]; simp
  have hl : t.data.toList = t.data.toList.take (t.size - 1) ++ [32] := by
    have h2 := take_one t.data.toList (t.size - 1) (by rw [← size_eq]; omega)
    rw [hb, show t.size - 1 + 1 = t.size by omega, List.take_of_length_le (by rw [size_eq]; exact Nat.le_refl _)] at h2
    exact h2
  refine ⟨⟨?_, by have := h.2; simp; omega⟩, fun hh b r hbr => ?_⟩
  · rw [← h.1, e]
    conv => rhs; rw [hl, plain_trail]
  · rw [e] at hbr
    refine hh b (r ++ [32]) ?_
    rw [hl, hbr]; rfl
theorem head_not {t : ByteArray} (h : ¬ (0 < t.size ∧ t.data.toList.getD 0 0 = 32)) : HeadNot t := by
  intro b r hbr e
  subst e
  refine h ⟨by rw [size_eq, hbr]; simp, by rw [hbr]; rfl⟩
theorem tail_not {t : ByteArray} (h : ¬ (0 < t.size ∧ t.data.toList.getD (t.size - 1) 0 = 32)) : ∀ b r, t.data.toList = r ++ [b] → b ≠ 32 := by
  intro b r hbr e
  subst e
  have hs : t.size = r.length + 1 := by rw [size_eq, hbr]; simp
  refine h ⟨by omega, ?_⟩
  rw [hs, hbr, List.getD_eq_getElem?_getD]
  simp

theorem getD_byte (t : ByteArray) (i : Nat) (h : i < t.size) : t.data.toList.getD i 0 = t[i] := by
  have h2 : i < t.data.toList.length := by rw [← size_eq]; exact h
  rw [List.getD_eq_getElem?_getD, List.getElem?_eq_getElem h2]; rfl
theorem byte_is {b : UInt8} (h : b = 32) : (((b.toNat : Nat) : Int) == 32) = true := by rw [h]; rfl
theorem byte_not {b : UInt8} (h : ¬ b = 32) : (((b.toNat : Nat) : Int) == 32) = false := by
  rw [beq_eq_false_iff_ne]
  intro e
  apply h
  apply UInt8.toNat_inj.1
  have : b.toNat = 32 := by omega
  rw [this]; rfl

theorem conv_own {w : World} {B n : Nat} {v : Value} {l : List UInt8} (h : w.ownsRow B 5 1 v n (bytesV l)) (hl : l.length = n) :
    (convert 53 9 v).run Tryd.prog w = .ok (.string ⟨(l.map lowB).toArray⟩) w := by
  rcases h.2 with ⟨rfl, hn⟩ | ⟨g, cap, cur, rfl, _⟩
  · obtain rfl : l = [] := List.eq_nil_of_length_eq_zero (by omega)
    exact run_convert_bytes_nil w 53 5 Tryd.underlying53 Tryd.underlying5 0 0 9 Tryd.underlying9
  · have hb := run_convert_bytes_back w 53 9 5 ⟨g, 0, none⟩ cap (l.map lowB) Tryd.underlying53 Tryd.underlying5 Tryd.underlying9 (by
      intro j hj
      have hjl : j < l.length := by simpa using hj
      rw [add_plain, Nat.zero_add, h.cellAt j (by omega)]
      unfold bytesV
      rw [List.getElem?_map, List.getElem?_eq_getElem hjl, List.getElem_map]
      rfl)
    rw [List.length_map, hl] at hb
    exact hb

set_option maxHeartbeats 8000000 in
theorem rtrim_any (s : ByteArray) (w : World) (hs : s.size ≤ 1000000) :
    Calls Tryd.prog 19 #[.string s] w fun e w' => e = .returned (.string ⟨(plainB s.data.toList).toArray⟩) ∧ Below w.heap.size w w' := by
  obtain ⟨i0, hi, hz0, hz1, hz2⟩ := info_parts infoByte8
  have hb0 := Below.refl w.heap.size w
  go_enter Tryd.func19, Tryd.ntmps19
  go_wp2
  go_loopg [0] s.size (fun gk s0 wx => ∃ t : ByteArray, s0 = .string t ∧ w = wx ∧ t.size ≤ gk ∧ Between s t)
  case atStart => exact ⟨s, rfl, rfl, Nat.le_refl _, rfl, Nat.le_refl _⟩
  case round =>
    obtain ⟨t, rfl, rfl, hgk, hbt⟩ := hrel
    have hts : t.size ≤ 1000000 := Nat.le_trans hbt.2 hs
    have hex : (∃ h : 0 < t.size, t[0] = 32) ∨ ((¬ 0 < t.size ∨ ∃ h : 0 < t.size, (((t[0].toNat : Nat) : Int) == 32) = false) ∧ HeadNot t) := by
      by_cases h0 : 0 < t.size
      · by_cases hh : t[0] = 32
        · exact .inl ⟨h0, hh⟩
        · exact .inr ⟨.inr ⟨h0, byte_not hh⟩, head_not (fun h => hh (by rw [← getD_byte t 0 h0]; exact h.2))⟩
      · exact .inr ⟨.inl h0, head_not (fun h => h0 h.1)⟩
    rcases hex with ⟨h0, hh⟩ | ⟨hex, hn⟩
    · have hnext := between_head hbt h0 (by rw [getD_byte t 0 h0]; exact hh)
      have hq := byte_is hh
      obtain ⟨g', rfl⟩ : ∃ g', gk = g' + 1 := ⟨gk - 1, by omega⟩
      clear hh
      go_wp2
      go_roundg g'
      case measure => omega
      case rel => exact ⟨_, rfl, rfl, by simp; omega, hnext⟩
    · have HN := Lib.hid hn
      have HB := Lib.hid hbt
      clear hn hbt
      rcases hex with h0 | ⟨h0, hq⟩
      all_goals
        go_wp2
        go_loopg [0] t.size (fun gk s0 wx => ∃ u : ByteArray, s0 = .string u ∧ w = wx ∧ u.size ≤ gk ∧ Between s u ∧ HeadNot u)
        case atStart => exact ⟨t, rfl, rfl, Nat.le_refl _, HB.out, HN.out⟩
        case round =>
          obtain ⟨u, rfl, rfl, hgk, hbu, hnu⟩ := hrel
          have hus : u.size ≤ 1000000 := Nat.le_trans hbu.2 hs
          have hex : (∃ h : 0 < u.size, u[u.size - 1] = 32) ∨ ((¬ 0 < u.size ∨ ∃ h : 0 < u.size, (((u[u.size - 1].toNat : Nat) : Int) == 32) = false) ∧ ∀ b r, u.data.toList = r ++ [b] → b ≠ 32) := by
            by_cases h0 : 0 < u.size
            · by_cases hh : u[u.size - 1] = 32
              · exact .inl ⟨h0, hh⟩
              · exact .inr ⟨.inr ⟨h0, byte_not hh⟩, tail_not (fun h => hh (by rw [← getD_byte u (u.size - 1) (by omega)]; exact h.2))⟩
            · exact .inr ⟨.inl h0, tail_not (fun h => h0 h.1)⟩
          rcases hex with ⟨h1, hh⟩ | ⟨hex, ht⟩
          · have hnext := between_tail hbu h1 (by rw [getD_byte u (u.size - 1) (by omega)]; exact hh)
            have hq2 := byte_is hh
            have hnx := hnext.2 hnu
            obtain ⟨g2, rfl⟩ : ∃ g2, gk = g2 + 1 := ⟨gk - 1, by omega⟩
            clear hh
            go_wp2
            go_roundg g2
            case measure => omega
            case rel => exact ⟨_, rfl, rfl, by simp; omega, hnext.1, hnx⟩
          · have hfin : plainB s.data.toList = u.data.toList.map lowB := by rw [← hbu.1]; exact plain_done hnu ht
            have HF := Lib.hid hfin
            clear hfin hbu hnu ht
            rcases hex with h1 | ⟨h1, hq2⟩
            all_goals
              go_wp2
              go_loopg [3, 4, 5] u.size (fun gk s3 s4 s5 wx => ∃ k : Nat, s4 = .int .i64 (k : Int) ∧ k + gk = u.size ∧ wx.ownsRow w.heap.size 5 1 s3 k (bytesV (u.data.toList.take k)) ∧ Below w.heap.size w wx)
              case atStart => exact ⟨0, rfl, by omega, World.ownsRow_nil _ _ _ _, hb0⟩
              case round =>
                (try clear hq2)
                (try clear h1)
                obtain ⟨k, rfl, hgk, hown, hbw⟩ := hrel
                by_cases hlt : k < u.size
                · obtain ⟨g3, rfl⟩ : ∃ g3, gk = g3 + 1 := ⟨gk - 1, by omega⟩
                  have hsn := take_one u.data.toList k (by rw [← size_eq]; exact hlt)
                  rw [getD_byte u k hlt] at hsn
                  have hsv := bytesV_snoc (u.data.toList.take k) u[k]
                  rw [← hsn] at hsv
                  have hlow := lowB_nat u[k]
                  have hcb := u[k].toNat_lt
                  have hbs := hbw.size
                  by_cases hup : 65 ≤ u[k].toNat ∧ u[k].toNat ≤ 90
                  · rw [if_pos hup] at hlow
                    rw [hlow] at hsv
                    obtain ⟨hu1, hu2⟩ := hup
                    replace hu1 : (65 : Int) ≤ (u[k].toNat : Int) := by omega
                    replace hu2 : (u[k].toNat : Int) ≤ 90 := by omega
                    have HSV := Lib.hid hsv
                    clear hsv hsn hlow
                    go_wp2_with (
                      at_builtin
                      refine wpList_append_lies _ rfl _ _ 53 rfl w.heap.size 5 i0 _ 1 1 Tryd.underlying53 hi hz0 hz1 hz2 rfl (by decide) _ _ _ rfl (hown.alloc _) ⟨wr.heap.size, 0, none⟩ 1 1 [_] rfl rfl (byte_new wr _ _) (by simp [Value.oneCell']) (by decide) (by unfold maxLen; omega) (by omega) (by simp; omega) _ rfl ?_
                      intro g cap w2 hown2 hgrow hat hlt2)
                    go_roundg g3
                    case measure => omega
                    case rel => exact ⟨k + 1, by simp, by omega, by rw [HSV.out]; exact hown2, (hbw.alloc hbs _).grown hgrow (by simp; omega) (fun r e => own_block_ge hown r e)⟩
                  · rw [if_neg hup] at hlow
                    rw [hlow] at hsv
                    have HSV := Lib.hid hsv
                    clear hsv hsn hlow
                    by_cases hu1 : 65 ≤ u[k].toNat
                    · have hu2 : ¬ (u[k].toNat : Int) ≤ 90 := fun h => hup ⟨hu1, by omega⟩
                      replace hu1 : (65 : Int) ≤ (u[k].toNat : Int) := by omega
                      clear hup
                      go_wp2_with (
                        at_builtin
                        refine wpList_append_lies _ rfl _ _ 53 rfl w.heap.size 5 i0 _ 1 1 Tryd.underlying53 hi hz0 hz1 hz2 rfl (by decide) _ _ _ rfl (hown.alloc _) ⟨wr.heap.size, 0, none⟩ 1 1 [_] rfl rfl (byte_new wr _ _) (by simp [Value.oneCell']) (by decide) (by unfold maxLen; omega) (by omega) (by simp; omega) _ rfl ?_
                        intro g cap w2 hown2 hgrow hat hlt2)
                      go_roundg g3
                      case measure => omega
                      case rel => exact ⟨k + 1, by simp, by omega, by rw [HSV.out]; exact hown2, (hbw.alloc hbs _).grown hgrow (by simp; omega) (fun r e => own_block_ge hown r e)⟩
                    · clear hup
                      replace hu1 : ¬ (65 : Int) ≤ (u[k].toNat : Int) := by omega
                      go_wp2_with (
                        at_builtin
                        refine wpList_append_lies _ rfl _ _ 53 rfl w.heap.size 5 i0 _ 1 1 Tryd.underlying53 hi hz0 hz1 hz2 rfl (by decide) _ _ _ rfl (hown.alloc _) ⟨wr.heap.size, 0, none⟩ 1 1 [_] rfl rfl (byte_new wr _ _) (by simp [Value.oneCell']) (by decide) (by unfold maxLen; omega) (by omega) (by simp; omega) _ rfl ?_
                        intro g cap w2 hown2 hgrow hat hlt2)
                      go_roundg g3
                      case measure => omega
                      case rel => exact ⟨k + 1, by simp, by omega, by rw [HSV.out]; exact hown2, (hbw.alloc hbs _).grown hgrow (by simp; omega) (fun r e => own_block_ge hown r e)⟩
                · obtain rfl : k = u.size := by omega
                  have hcv := hown
                  rw [List.take_of_length_le (by rw [size_eq]; exact Nat.le_refl _)] at hcv
                  have hconv := conv_own hcv (by rw [size_eq])
                  clear hcv hown
                  go_wp2
                  go_ret
                  exact ⟨by rw [HF.out]; rfl, hbw⟩

end Go.Proofs.YthoinlapopongaaDoor
