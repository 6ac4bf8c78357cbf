/-
  The contracts of the program's small letters, and of its Find.
-/
import Derived.Test.YteiaolejoangnaaDoorWalksD
import Derived.Test.YteiaolejoangnaaDoorWalksE
import Derived.Lib.ConvBytes
import Derived.Lib.SlBytesRow
namespace Go.Proofs.YteiaolejoangnaaDoor
open Go.RowKit Go.Maps Go.WideMaps

/-- A text's letters turned small. -/
def lowB (s : ByteArray) : ByteArray := ⟨(lowL s.data.toList).toArray⟩

theorem lowB_size (s : ByteArray) : (lowB s).size = s.size := by
  show (lowL s.data.toList).toArray.size = s.data.size
  simp [lowL]

def atB (s : ByteArray) (j : Nat) : UInt8 := s.data.toList.getD j 0

/-- The first k of a row's cells are turned small, the others are the text's. -/
def Turned (w : World) (B : Nat) (s : ByteArray) (k : Nat) : Prop :=
  (∀ j, j < s.size → w.cell? ⟨B, j, none⟩ = some (.int .u8 ((if j < k then low (atB s j) else atB s j).toNat : Int))) ∧ ∀ j, j < s.size → w.frozen? ⟨B, j, none⟩ = false

theorem Turned.same {w : World} {B : Nat} {s : ByteArray} {k : Nat} (h : Turned w B s k) (e : low (atB s k) = atB s k) : Turned w B s (k + 1) := by
  refine ⟨fun j hj => ?_, h.2⟩
  rw [h.1 j hj]
  by_cases h1 : j < k
  · rw [if_pos h1, if_pos (by omega)]
  · by_cases h2 : j = k
    · subst h2; rw [if_neg h1, if_pos (by omega), e]
    · rw [if_neg h1, if_neg (by omega)]

theorem Turned.store {w : World} {B : Nat} {s : ByteArray} {k : Nat} (h : Turned w B s k) (hk : k < s.size) {n : Int} (e : ((low (atB s k)).toNat : Int) = n) : Turned (w.setCell ⟨B, k, none⟩ (.int .u8 n)) B s (k + 1) := by
  have hc := h.1 k hk
  refine ⟨fun j hj => ?_, fun j hj => ?_⟩
  · by_cases h2 : j = k
    · subst h2
      rw [if_pos (by omega), e]
      exact World.cell?_setCell_same _ _ _ hc
    · rw [World.cell?_setCell_other _ _ _ _ (fun e2 => h2 (by cases e2; rfl)), h.1 j hj]
      by_cases h1 : j < k
      · rw [if_pos h1, if_pos (by omega)]
      · rw [if_neg h1, if_neg (by omega)]
  · rw [World.frozen?_setCell]
    exact h.2 j hj

theorem Turned.made (w : World) (e : TypeId) (s : ByteArray) : Turned (Lib.bytesWorld w e s) w.heap.size s 0 := by
  refine ⟨fun j hj => ?_, fun j hj => ?_⟩
  · rw [if_neg (Nat.not_lt_zero _)]
    exact Lib.bytesWorld_cell w e s j hj
  · have h1 := Lib.bytesWorld_at_new w e s
    have h2 : s.size ≤ (Lib.bytesCells w e s).size := by
      unfold Lib.bytesCells
      simp
    simp only [World.frozen?, h1]
    simp
    omega

theorem Turned.bytes {w : World} {B : Nat} {s : ByteArray} (h : Turned w B s s.size) : Lib.Bytes w B 0 (lowB s) := by
  intro i hi
  have hi' : i < s.size := by rw [lowB_size] at hi; exact hi
  have h1 := h.1 i hi'
  rw [if_pos hi'] at h1
  rw [Nat.zero_add, h1]
  have e : (lowB s)[i] = low (atB s i) := by
    have hb := byte_at (lowB s) i hi
    have ha : (lowB s).data.toList[i]? = some (low (atB s i)) := by
      show (lowL s.data.toList)[i]? = _
      have e1 : s.size = s.data.size := rfl
      simp [lowL, atB, List.getElem?_eq_getElem (show i < s.data.toList.length by simp; omega), List.getD]
    rw [hb] at ha
    exact Option.some.inj ha
  rw [e]

theorem bytesWorld_below (w : World) (e : TypeId) (s : ByteArray) : Below w.heap.size w (Lib.bytesWorld w e s) := by
  refine ⟨?_, ?_, ?_, ?_, fun k hk => Lib.bytesWorld_at_old w e s k hk⟩
  · simp [Lib.bytesWorld, World.freeze, World.alloc, World.drew, -World.alloc_eq, -World.drew_eq]
  · simp [Lib.bytesWorld, World.freeze, World.alloc, World.drew, -World.alloc_eq, -World.drew_eq]
  · simp [Lib.bytesWorld, World.freeze, World.alloc, World.drew, -World.alloc_eq, -World.drew_eq]
  · rw [Lib.bytesWorld_size]; omega

theorem conv_in (w : World) (s : ByteArray) : ∃ cap w1, (convert 9 47 (.string s)).run Tryd.prog w = .ok (.slice (some ⟨w.heap.size, 0, none⟩) s.size cap) w1 ∧ Turned w1 w.heap.size s 0 ∧ Below w.heap.size w w1 ∧ w.heap.size < w1.heap.size :=
  ⟨_, _, Lib.run_convert_string_bytes w _ _ _ s Tryd.underlying9 Tryd.underlying47 Tryd.underlying5, Turned.made _ _ _, bytesWorld_below _ _ _, by rw [Lib.bytesWorld_size]; omega⟩

theorem conv_out (w : World) (B : Nat) (s : ByteArray) (cap : Nat) (h : Turned w B s s.size) : (convert 47 9 (.slice (some ⟨B, 0, none⟩) s.size cap)).run Tryd.prog w = .ok (.string (lowB s)) w := by
  have := Lib.run_convert_whole (P := Tryd.prog) w 47 5 9 Tryd.underlying47 Tryd.underlying5 Tryd.underlying9 B 0 (lowB s) h.bytes cap
  rw [lowB_size] at this
  exact this

theorem low_up {c : UInt8} (h1 : 65 ≤ (c.toNat : Int)) (h2 : (c.toNat : Int) ≤ 90) : ((low c).toNat : Int) = c.toNat - 65 + 97 := by
  rw [low_great h1 h2]; omega

set_option maxHeartbeats 2000000 in
theorem small_any (s : ByteArray) (w : World) (hs : s.size ≤ 9223372036854775807) :
    Calls Tryd.prog 28 #[.string s] w fun e w' => e = .returned (.string (lowB s)) ∧ Below w.heap.size w w' := by
  obtain ⟨cap, w1, hconv, ht, hb1, hsz⟩ := conv_in w s
  obtain ⟨B, HB⟩ : ∃ B, Hid (B = w.heap.size) := ⟨_, rfl⟩
  rw [← HB.out] at hconv ht
  go_enter Tryd.func28, Tryd.ntmps28
  go_wp2
  go_loopw [10] (fun i wr => ∃ k : Nat, k ≤ s.size ∧ i = .int .i64 k ∧ Turned wr B s k ∧ Below w.heap.size w wr) (fun i _ => s.size - (intOf i).toNat)
  case atStart => exact ⟨0, Nat.zero_le _, rfl, ht, hb1⟩
  case round =>
    obtain ⟨k, hk, rfl, hT, hb⟩ := hrel
    by_cases hlt : k < s.size
    · obtain ⟨c, hcn⟩ : ∃ c, c = atB s k := ⟨_, rfl⟩
      have hc : wr.cell? ⟨B, k, none⟩ = some (.int .u8 (c.toNat : Int)) := by rw [hT.1 k hlt, if_neg (Nat.lt_irrefl _), hcn]
      have hf : wr.frozen? ⟨B, k, none⟩ = false := hT.2 k hlt
      have hc255 : (c.toNat : Int) ≤ 255 := by have := c.toNat_lt; omega
      by_cases hg : 65 ≤ (c.toNat : Int) ∧ (c.toNat : Int) ≤ 90
      · obtain ⟨hg1, hg2⟩ := hg
        have S := hT.store hlt (n := (c.toNat : Int) - 65 + 97) (by rw [← hcn]; exact low_up hg1 hg2)
        have HB2 : Below w.heap.size w (wr.setCell ⟨B, k, none⟩ (.int .u8 ((c.toNat : Int) - 65 + 97))) := hb.setCell (by rw [HB.out]; exact Nat.le_refl _) _
        clear hcn hT
        go_wp2
        go_roundw
        case rel => exact ⟨k + 1, by omega, by go_num, S, HB2⟩
        case measure => simp [intOf]; omega
      · have S := hT.same (by rw [← hcn]; exact low_other (by omega))
        clear hcn hT
        by_cases h65 : 65 ≤ (c.toNat : Int)
        · have h90 : ¬ (c.toNat : Int) ≤ 90 := by omega
          clear hg
          go_wp2
          go_roundw
          case rel => exact ⟨k + 1, by omega, by go_num, S, hb⟩
          case measure => simp [intOf]; omega
        · clear hg
          go_wp2
          go_roundw
          case rel => exact ⟨k + 1, by omega, by go_num, S, hb⟩
          case measure => simp [intOf]; omega
    · have hks : k = s.size := by omega
      have hback := conv_out wr B s cap (hks ▸ hT)
      clear hks hT
      go_wp2
      go_ret
      exact ⟨rfl, hb⟩

end Go.Proofs.YteiaolejoangnaaDoor
