/-
  The contract of the statements' 'great': a text as long, of which the small letters are those of the text.
-/
import Derived.Test.YteiaolejoangnaaDoorWalksI
import Derived.Lib.BufferRead
import Derived.BigGuardPart
namespace Go.Proofs.YteiaolejoangnaaDoor
open Go.RowKit

theorem infoU8 : (Tryd.prog.info? 5).map (fun i => (i.zero, i.size, i.bytes)) = some (some (.int .u8 0), 1, 1) := by kernel_rfl

/-- The letters l are those of the text's first k, but for great ones. -/
def Like (s : ByteArray) (l : List UInt8) (k : Nat) : Prop := l.length = k ∧ lowL l = lowL (s.data.toList.take k)

def u8s (l : List UInt8) : List Value := l.map fun c => Value.int .u8 c.toNat

theorem Like.zero (s : ByteArray) : Like s [] 0 := ⟨rfl, rfl⟩
theorem Like.step {s : ByteArray} {l : List UInt8} {k : Nat} {c : UInt8} (h : Like s l k) (hk : k < s.size) (hc : low c = low s[k]) : Like s (l ++ [c]) (k + 1) := by
  refine ⟨by simp [h.1], ?_⟩
  have e : s.data.toList.take (k + 1) = s.data.toList.take k ++ [s[k]] := by
    rw [List.take_succ_eq_append_getElem (by simpa using hk)]; rfl
  rw [e]
  unfold lowL
  rw [List.map_append, List.map_append]
  have := h.2
  unfold lowL at this
  rw [this, List.map_singleton, List.map_singleton, hc]
theorem u8s_snoc (l : List UInt8) (c : UInt8) {n : Int} (h : (c.toNat : Int) = n) : u8s l ++ [Value.int .u8 n] = u8s (l ++ [c]) := by
  subst h; simp [u8s]

theorem low_sub {c : UInt8} (h1 : 97 ≤ (c.toNat : Int)) (h2 : (c.toNat : Int) ≤ 122) : ∃ d : UInt8, (d.toNat : Int) = c.toNat - 32 ∧ low d = low c := by
  have hs : (c - 32).toNat = c.toNat - 32 := by
    rw [UInt8.toNat_sub]
    simp
    omega
  refine ⟨c - 32, by rw [hs]; omega, ?_⟩
  rw [low_other (c := c) (by omega)]
  apply UInt8.toNat_inj.1
  have := low_great (c := c - 32) (by rw [hs]; omega) (by rw [hs]; omega)
  rw [hs] at this
  omega

/-- What great answers. -/
def GreatPost (s : ByteArray) (w : World) (e : Ending) (w' : World) : Prop := ∃ r : ByteArray, e = .returned (.string r) ∧ r.size = s.size ∧ lowL r.data.toList = lowL s.data.toList ∧ Below w.heap.size w w'

/-- The text of what was gathered. -/
theorem great_out {s : ByteArray} {l : List UInt8} {v : Value} {w : World} {B : Nat} (h : Like s l s.size) (hown : w.ownsRow B 5 1 v s.size (u8s l)) :
    ∃ r : ByteArray, (convert 47 9 v).run Tryd.prog w = .ok (.string r) w ∧ r.size = s.size ∧ lowL r.data.toList = lowL s.data.toList := by
  obtain ⟨hl, hlow⟩ := h
  have etake : s.data.toList.take s.size = s.data.toList := List.take_of_length_le (by simp)
  rw [etake] at hlow
  obtain ⟨_, hv⟩ := hown
  rcases hv with ⟨rfl, h0⟩ | ⟨g, cap, cur, rfl, _, hg, _, _, _, htk⟩
  · have hn : l = [] := List.length_eq_zero_iff.1 (by omega)
    refine ⟨⟨#[]⟩, Lib.run_convert_nil_bytes w _ _ 5 0 Tryd.underlying47 Tryd.underlying5 Tryd.underlying9, by rw [h0]; rfl, ?_⟩
    rw [← hlow, hn]
  · have hc := run_convert_bytes_back w 47 9 5 ⟨g, 0, none⟩ cap l Tryd.underlying47 Tryd.underlying5 Tryd.underlying9
      (Lib.bytes_of_row hg (by rw [hl]; rw [Nat.mul_one] at htk; exact htk))
    rw [hl] at hc
    exact ⟨_, hc, by show l.toArray.size = _; simpa using hl, by simpa using hlow⟩

theorem below_append {w wr w1 : World} {B e k : Nat} {v : Value} {xs : List Value} {o : Obj} (hb : Below B w wr) (hB : B ≤ wr.heap.size) (hown : wr.ownsRow B e 1 v k xs) (hgrow : (wr.alloc o).grownBy w1 v.ownBlock) : Below B w w1 := by
  refine (hb.alloc hB o).grown hgrow (by simp; omega) (fun j hj => ?_)
  obtain ⟨_, ⟨rfl, _⟩ | ⟨g, cap, cur, rfl, hg, _⟩⟩ := hown
  · cases hj
  · cases hj; exact hg

set_option maxHeartbeats 2000000 in
theorem great_any (s : ByteArray) (bits : Int) (w : World) (hs : s.size ≤ 100000) :
    Calls Tryd.prog 25 #[.string s, .int .u32 bits] w (GreatPost s w) := by
  obtain ⟨i0, hi, hz0, hz1, hz2⟩ := info_parts infoU8
  go_enter Tryd.func25, Tryd.ntmps25
  go_wp2
  go_loopw [5, 6] (fun v i wr => ∃ (k : Nat) (l : List UInt8), k ≤ s.size ∧ i = .int .i64 k ∧ Like s l k ∧ wr.ownsRow w.heap.size 5 1 v k (u8s l) ∧ Below w.heap.size w wr)
    (fun _ i _ => s.size - (intOf i).toNat)
  case atStart => exact ⟨0, [], Nat.zero_le _, rfl, Like.zero _, World.ownsRow_nil _ _ _ _, Below.refl _ _⟩
  case round =>
    obtain ⟨k, l, hk, rfl, hL, hown, hb⟩ := hrel
    by_cases hlt : k < s.size
    · have hbs := hb.size
      by_cases hg : 97 ≤ (s[k].toNat : Int) ∧ (s[k].toNat : Int) ≤ 122
      · obtain ⟨hg1, hg2⟩ := hg
        obtain ⟨d, hd, hdl⟩ := low_sub hg1 hg2
        have L1 := Lib.hid (hL.step hlt hdl)
        have L2 := Lib.hid (hL.step hlt (c := s[k]) rfl)
        have D := Lib.hid hd
        clear hd hdl hL
        go_wp2_with (first
          | (at_builtin; refine wpList_append_own _ rfl _ _ 47 rfl w.heap.size 5 i0 (.int .u8 0) 1 1 Tryd.underlying47 hi hz0 hz1 hz2 rfl (by decide) _ _ _ rfl (hown.alloc _) ⟨wr.heap.size, 0, none⟩ 1 1 [.int .u8 ((s[k].toNat : Int) - 32)] rfl rfl (cell_one_new _ _ _) (by simp [Value.oneCell']) (by unfold maxLen; omega) (by omega) (by simp; omega) ?_; intro v' w1 hown' hgrow _)
          | (at_builtin; refine wpList_append_own _ rfl _ _ 47 rfl w.heap.size 5 i0 (.int .u8 0) 1 1 Tryd.underlying47 hi hz0 hz1 hz2 rfl (by decide) _ _ _ rfl (hown.alloc _) ⟨wr.heap.size, 0, none⟩ 1 1 [.int .u8 (s[k].toNat : Int)] rfl rfl (cell_one_new _ _ _) (by simp [Value.oneCell']) (by unfold maxLen; omega) (by omega) (by simp; omega) ?_; intro v' w1 hown' hgrow _))
        all_goals go_roundw
        all_goals first
          | (case rel => first | exact ⟨k + 1, l ++ [d], by omega, by go_num, L1.out, u8s_snoc l d D.out ▸ hown', below_append hb hbs hown hgrow⟩ | exact ⟨k + 1, l ++ [s[k]], by omega, by go_num, L2.out, u8s_snoc l s[k] rfl ▸ hown', below_append hb hbs hown hgrow⟩)
          | (case measure => simp [intOf]; omega)
      · have L2 := Lib.hid (hL.step hlt (c := s[k]) rfl)
        clear hL
        by_cases h97 : 97 ≤ (s[k].toNat : Int)
        · have h122 : ¬ (s[k].toNat : Int) ≤ 122 := by omega
          clear hg
          go_wp2_with (at_builtin; refine wpList_append_own _ rfl _ _ 47 rfl w.heap.size 5 i0 (.int .u8 0) 1 1 Tryd.underlying47 hi hz0 hz1 hz2 rfl (by decide) _ _ _ rfl (hown.alloc _) ⟨wr.heap.size, 0, none⟩ 1 1 [.int .u8 (s[k].toNat : Int)] rfl rfl (cell_one_new _ _ _) (by simp [Value.oneCell']) (by unfold maxLen; omega) (by omega) (by simp; omega) ?_; intro v' w1 hown' hgrow _)
          go_roundw
          case rel => exact ⟨k + 1, l ++ [s[k]], by omega, by go_num, L2.out, u8s_snoc l s[k] rfl ▸ hown', below_append hb hbs hown hgrow⟩
          case measure => simp [intOf]; omega
        · clear hg
          go_wp2_with (at_builtin; refine wpList_append_own _ rfl _ _ 47 rfl w.heap.size 5 i0 (.int .u8 0) 1 1 Tryd.underlying47 hi hz0 hz1 hz2 rfl (by decide) _ _ _ rfl (hown.alloc _) ⟨wr.heap.size, 0, none⟩ 1 1 [.int .u8 (s[k].toNat : Int)] rfl rfl (cell_one_new _ _ _) (by simp [Value.oneCell']) (by unfold maxLen; omega) (by omega) (by simp; omega) ?_; intro v' w1 hown' hgrow _)
          go_roundw
          case rel => exact ⟨k + 1, l ++ [s[k]], by omega, by go_num, L2.out, u8s_snoc l s[k] rfl ▸ hown', below_append hb hbs hown hgrow⟩
          case measure => simp [intOf]; omega
    · have hks : k = s.size := by omega
      subst hks
      obtain ⟨r, hconv, hr1, hr2⟩ := great_out hL hown
      have R1 := Lib.hid hr1
      have R2 := Lib.hid hr2
      clear hr1 hr2
      go_wp2
      go_ret
      exact ⟨r, rfl, R1.out, R2.out, hb⟩

end Go.Proofs.YteiaolejoangnaaDoor
