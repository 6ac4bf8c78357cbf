/-
  The contracts of the program's small and plain; what the library gives.
-/
import Derived.Test.YthoinlapopongaaDoorWalksA
import Derived.Test.YthoinlapopongaaDoorShelf
import Derived.Below
import Derived.LoopTactic
import Derived.Deep.DeepCutAuto
import Derived.Laws.IdiomStrings
namespace Go.Proofs.YthoinlapopongaaDoor
open Go.RowKit Go.Lib

/-- What of Go's library lies in memory: its tables of UTF-8, the search's number. -/
def Env (w : World) : Prop := Lib.Utf8Tabs 1 2 w ∧ ∃ m : Int, w.cell? ⟨0, 0, none⟩ = some (.int .i64 m)
theorem Env.below {w w' : World} (h : Env w) (hb : Below w.heap.size w w') : Env w' := by
  obtain ⟨hT, m, hm⟩ := h
  exact ⟨Utf8Tabs_below hT hb, m, (hb.cell (p := ⟨0, 0, none⟩) (World.block_lt_of_cell? w _ hm)).trans hm⟩
theorem below_draws (w : World) : ∀ n : Nat, Below w.heap.size w (w.drewN n)
  | 0 => Below.refl _ _
  | n + 1 => by
    have h := below_draws w n
    exact ⟨h.os, h.tape, h.output, h.size, h.block⟩
theorem add_plain (b o i : Nat) : (⟨b, o, none⟩ : Addr).add i = ⟨b, o + i, none⟩ := by simp [Addr.add]

theorem cut_any (s : ByteArray) (w : World) (hs : s.size ≤ 1000000000) (hE : Env w) :
    Calls Tryd.prog 27 #[.string s, .string ⟨#[58]⟩] w fun e w' => e = .returned (.tuple #[.string ⟨(cut s.data.toList [58]).1.toArray⟩, .string ⟨(cut s.data.toList [58]).2.1.toArray⟩, .bool (cut s.data.toList [58]).2.2]) ∧ Below w.heap.size w w' := by
  obtain ⟨hT, m, hm⟩ := hE
  refine (Tryd.strings_Cut s ⟨#[58]⟩ m w (by omega) hm).mono ?_
  rintro e w' ⟨he, n, rfl⟩
  exact ⟨he, below_draws w n⟩

theorem trim_any (s : ByteArray) (w : World) (hs : s.size ≤ 1000000000) :
    Calls Tryd.prog 38 #[.string s, .string ⟨#[32]⟩] w fun e w' => e = .returned (.string ⟨(trimB s.data.toList 32).toArray⟩) ∧ Below w.heap.size w w' := by
  refine (Tryd.strings_Trim_one s 32 (by decide) w (by omega)).mono ?_
  rintro e w' ⟨he, rfl | rfl⟩
  · exact ⟨he, Below.refl _ _⟩
  · exact ⟨he, below_draws w 1⟩

theorem lowB_nat (b : UInt8) : (lowB b).toNat = if 65 ≤ b.toNat ∧ b.toNat ≤ 90 then b.toNat + 32 else b.toNat := by
  have h : ∀ i : Fin 256, (lowB (UInt8.ofNat i.val)).toNat = if 65 ≤ (UInt8.ofNat i.val).toNat ∧ (UInt8.ofNat i.val).toNat ≤ 90 then (UInt8.ofNat i.val).toNat + 32 else (UInt8.ofNat i.val).toNat := by decide +kernel
  have := h ⟨b.toNat, b.toNat_lt⟩
  simpa using this

/-- The first i bytes in small letters. -/
def halfB (l : List UInt8) (i j : Nat) : UInt8 := if j < i then lowB (l.getD j 0) else l.getD j 0

set_option maxHeartbeats 4000000 in
theorem small_any (s : ByteArray) (w : World) (hs : s.size ≤ 1000000000) :
    Calls Tryd.prog 37 #[.string s] w fun e w' => e = .returned (.string ⟨(s.data.toList.map lowB).toArray⟩) ∧ Below w.heap.size w w' := by
  obtain ⟨n, hn⟩ : ∃ n, s.size = n := ⟨_, rfl⟩
  obtain ⟨cap, hcap⟩ : ∃ cap, grownCap w s.size 0 5 = cap := ⟨_, rfl⟩
  have hconv := run_bytes_of_string w 9 53 5 s Tryd.underlying9 Tryd.underlying53 Tryd.underlying5
  rw [hcap] at hconv
  obtain ⟨C, hC⟩ : ∃ C, bytesRow s cap = C := ⟨_, rfl⟩
  rw [hC] at hconv
  obtain ⟨W0, hW0⟩ : ∃ W0, w.drew.alloc (.cells C 5 (C.size, C.size + 1)) = W0 := ⟨_, rfl⟩
  rw [hW0] at hconv
  have hb0 : Below w.heap.size w W0 := by
    rw [← hW0]
    exact (below_draws w 1).alloc (Nat.le_refl _) _
  have hsz0 : w.heap.size < W0.heap.size := by rw [← hW0]; simp
  have hcells : ∀ j, j < n → W0.cell? ⟨w.heap.size, j, none⟩ = some (.int .u8 ((s.data.toList.getD j 0).toNat : Int)) := by
    intro j hj
    rw [← hW0]
    have := World.cell?_alloc_mark w.drew C 5 (C.size, C.size + 1) j
    rw [show w.drew.heap.size = w.heap.size from rfl] at this
    rw [this, ← hC]
    have hjs : j < s.data.size := by rw [← hn] at hj; exact hj
    rw [bytesRow_at s cap j hjs]
    congr 3
    rw [List.getD_eq_getElem?_getD, Array.getElem?_toList, Array.getElem?_eq_getElem hjs]
    rfl
  have hfroz : ∀ j, j < n → W0.frozen? ⟨w.heap.size, j, none⟩ = false := by
    intro j hj
    rw [← hW0]
    have := World.frozen?_alloc_mark w.drew C 5 C.size (C.size + 1) j
    rw [show w.drew.heap.size = w.heap.size from rfl] at this
    rw [this]
    have hjC : j < C.size := by
      rw [← hC]
      have hjs : j < s.data.size := by rw [← hn] at hj; exact hj
      have := bytesRow_at s cap j hjs
      exact (Array.getElem?_eq_some_iff.1 this).1
    simp; omega
  rw [hn] at hconv hs
  clear hcap hC hW0
  have Hc := Lib.hid hcells
  have Hf := Lib.hid hfroz
  clear hcells hfroz
  go_enter Tryd.func37, Tryd.ntmps37
  go_wp2
  go_loopg [10] n (fun gk s10 wx => ∃ i : Nat, s10 = .int .i64 (i : Int) ∧ i + gk = n ∧ Below w.heap.size w wx ∧ w.heap.size < wx.heap.size ∧ (∀ j, j < n → wx.cell? ⟨w.heap.size, j, none⟩ = some (.int .u8 ((halfB s.data.toList i j).toNat : Int))) ∧ (∀ j, j < n → wx.frozen? ⟨w.heap.size, j, none⟩ = false))
  case atStart =>
    exact ⟨0, rfl, by omega, hb0, hsz0, fun j hj => by have := Hc.out j hj; simpa [halfB] using this, Hf.out⟩
  case round =>
    obtain ⟨i, rfl, hgk, hbw, hszw, hce, hfr⟩ := hrel
    by_cases hlt : i < n
    · obtain ⟨g', rfl⟩ : ∃ g', gk = g' + 1 := ⟨gk - 1, by omega⟩
      have hci := hce i hlt
      have hfi := hfr i hlt
      obtain ⟨c, hc⟩ : ∃ c, s.data.toList.getD i 0 = c := ⟨_, rfl⟩
      have h0 : halfB s.data.toList i i = c := by simp [halfB, ← hc]
      rw [h0] at hci
      have hlow := lowB_nat c
      have hcb := c.toNat_lt
      have HC := Lib.hid hce
      have HF := Lib.hid hfr
      clear hce hfr
      by_cases hup : 65 ≤ c.toNat ∧ c.toNat ≤ 90
      · rw [if_pos hup] at hlow
        obtain ⟨hu1, hu2⟩ := hup
        replace hu1 : (65 : Int) ≤ (c.toNat : Int) := by omega
        replace hu2 : (c.toNat : Int) ≤ 90 := by omega
        go_wp2
        go_roundg g'
        case measure => omega
        case rel =>
          refine ⟨i + 1, by simp, by omega, ?_, ?_, ?_, ?_⟩
          · exact hbw.setCell (p := ⟨w.heap.size, i, none⟩) (Nat.le_refl _) _
          · simpa using hszw
          · intro j hj
            by_cases hji : j = i
            · subst hji
              rw [World.cell?_setCell_same' _ _ _ (by rw [hci]; rfl)]
              unfold halfB
              rw [if_pos (by omega), hc, hlow]
              congr 2
              omega
            · rw [World.cell?_setCell_other _ _ _ _ (by intro e; apply hji; cases e; rfl), HC.out j hj]
              unfold halfB
              congr 3
              by_cases h : j < i
              · rw [if_pos h, if_pos (by omega)]
              · rw [if_neg h, if_neg (by omega)]
          · intro j hj
            rw [World.frozen?_setCell]; exact HF.out j hj
      · rw [if_neg hup] at hlow
        have hstay : ∀ j, j < n → wr.cell? ⟨w.heap.size, j, none⟩ = some (.int .u8 ((halfB s.data.toList (i + 1) j).toNat : Int)) := by
          intro j hj
          rw [HC.out j hj]
          unfold halfB
          by_cases hji : j = i
          · subst hji
            rw [if_neg (by omega), if_pos (by omega), hc, hlow]
          · congr 3
            by_cases h : j < i
            · rw [if_pos h, if_pos (by omega)]
            · rw [if_neg h, if_neg (by omega)]
        have HS := Lib.hid hstay
        clear hstay
        by_cases hu1 : 65 ≤ c.toNat
        · have hu2 : ¬ c.toNat ≤ 90 := fun h => hup ⟨hu1, h⟩
          clear hup
          replace hu1 : (65 : Int) ≤ (c.toNat : Int) := by omega
          replace hu2 : ¬ (c.toNat : Int) ≤ 90 := by omega
          go_wp2
          go_roundg g'
          case measure => omega
          case rel => exact ⟨i + 1, by simp, by omega, hbw, hszw, HS.out, HF.out⟩
        · clear hup
          replace hu1 : ¬ (65 : Int) ≤ (c.toNat : Int) := by omega
          go_wp2
          go_roundg g'
          case measure => omega
          case rel => exact ⟨i + 1, by simp, by omega, hbw, hszw, HS.out, HF.out⟩
    · obtain rfl : i = n := by omega
      have hback := run_convert_bytes_back wr 53 9 5 ⟨w.heap.size, 0, none⟩ cap (s.data.toList.map lowB) Tryd.underlying53 Tryd.underlying5 Tryd.underlying9 (by
        intro j hj
        have hjl : j < s.data.toList.length := by simpa using hj
        have hjn : j < i := by rw [← hn, size_eq]; exact hjl
        have := hce j hjn
        rw [add_plain]
        rw [Nat.zero_add, this]
        unfold halfB
        rw [if_pos hjn, List.getElem_map, List.getD_eq_getElem?_getD, List.getElem?_eq_getElem hjl]
        rfl)
      rw [List.length_map, ← size_eq, hn] at hback
      clear hce hfr
      go_wp2
      go_ret
      exact ⟨rfl, hbw⟩

theorem plain_any (s : ByteArray) (w : World) (hs : s.size ≤ 1000000000) :
    Calls Tryd.prog 28 #[.string s] w fun e w' => e = .returned (.string ⟨(plainB s.data.toList).toArray⟩) ∧ Below w.heap.size w w' := by
  have h1 := trim_any s w hs
  have hl := trimB_len s.data.toList 32
  have hs2 : (⟨(trimB s.data.toList 32).toArray⟩ : ByteArray).size ≤ 1000000000 := by
    have : (⟨(trimB s.data.toList 32).toArray⟩ : ByteArray).size = (trimB s.data.toList 32).length := by rw [size_eq]
    rw [this, ]
    rw [← size_eq] at hl
    omega
  have h2 := fun w => small_any ⟨(trimB s.data.toList 32).toArray⟩ w hs2
  have e0 : (⟨(plainB s.data.toList).toArray⟩ : ByteArray) = ⟨((⟨(trimB s.data.toList 32).toArray⟩ : ByteArray).data.toList.map lowB).toArray⟩ := rfl
  rw [e0]
  obtain ⟨T, hT⟩ : ∃ T : ByteArray, ⟨(trimB s.data.toList 32).toArray⟩ = T := ⟨_, rfl⟩
  rw [hT] at h1 h2 ⊢
  obtain ⟨R, hR⟩ : ∃ R : ByteArray, ⟨(T.data.toList.map lowB).toArray⟩ = R := ⟨_, rfl⟩
  rw [hR] at h2 ⊢
  clear hT hR e0 hs2
  go_enter Tryd.func28, Tryd.ntmps28
  go_wp2_with (first
    | (go_at_call 38; ((with_reducible refine h1.mono ?_); rintro e w1 ⟨rfl, hb1⟩))
    | (go_at_call 37; ((with_reducible refine (h2 _).mono ?_); rintro e w2 ⟨rfl, hb2⟩)))
  go_ret
  exact ⟨rfl, hb1.trans (hb2.mono hb1.size)⟩

end Go.Proofs.YthoinlapopongaaDoor
