/-
  order's iterators: up.
-/
import Derived.Test.YtggjoefhopoggaaDoorCRead
import Derived.Test.YtggjoefhopoggaaDoorRange
import Derived.Sort.LoopGhostIn
import Derived.LoopIn
import Derived.LoopNIn
import Derived.OwnWalkIn
import Derived.TacticsInMore
import Derived.Shelf.Abstract
import Derived.Shelf.RegionOpen

namespace Go.Proofs.YtggjoefhopoggaaDoor
open Go.RowKit Go.Lib Go.Shelf
attribute [local go_sem] Oper.semAt_some

theorem yield_in {m m' : Nat} {P : Program} {l l₂ : Nat} {args : Array Value} {W : World} {R : Ending → World → Prop} (h : YieldAt Fence.wide m P l args W R) : YieldAt (Fence.wide.inRound l₂) m' P l args W R := by
  obtain ⟨fn, tmps, assign, body, hy, hF, hR⟩ := h
  exact ⟨fn, tmps, assign, body, hy, hF, fun c cs _ => hR c cs (room_wide _)⟩
theorem new_cell (w : World) (v : Value) (t : TypeId) : (w.alloc (.cells #[v] t)).cell? ⟨w.heap.size, 0, none⟩ = some v ∧ (w.alloc (.cells #[v] t)).frozen? ⟨w.heap.size, 0, none⟩ = false := by simp

theorem up_any (a : Option Addr) (id : Int) (w : World) :
    Calls Tryd.prog 36 #[.pointer a, .int .i64 id] w fun e w' => e = .returned (.func (.func 52) #[] #[.pointer (some ⟨w.heap.size + 1, 0, none⟩), .pointer (some ⟨w.heap.size, 0, none⟩)]) ∧ w'.heap.size = w.heap.size + 2 ∧ Below w.heap.size w w' ∧ w'.cell? ⟨w.heap.size, 0, none⟩ = some (.pointer a) ∧ w'.cell? ⟨w.heap.size + 1, 0, none⟩ = some (.int .i64 id) := by
  go_enter Tryd.func36, Tryd.ntmps36
  go_wp2
  go_ret
  exact ⟨rfl, by simp, ((Below.refl _ w).alloc (Nat.le_refl _) _).alloc (by simp) _, by simp [go_sem], by simp [go_sem]⟩

theorem ups_none {L : Sk} {k : Int} (h : hasS L k = false) (g : Nat) : upsS L g k = [] := by cases g <;> simp [upsS, h]

set_option maxRecDepth 20000 in
set_option maxHeartbeats 4000000 in
theorem up_goes (B : Nat) (a : Option Addr) (id : Int) (L : Sk) (n : Nat) (he : endsU L n id = true) (Lv : Prop) (Kg : World → Prop) (hKg : ∀ W, Kg W → Tv W (.pointer a) L) (w : World) (hB : w.heap.size = B + 2)
    (h1 : w.cell? ⟨B, 0, none⟩ = some (.pointer a)) (h2 : w.cell? ⟨B + 1, 0, none⟩ = some (.int .i64 id)) :
    Goes Tryd.prog 52 #[.pointer (some ⟨B + 1, 0, none⟩), .pointer (some ⟨B, 0, none⟩)] (fun x : Int => #[.int .i64 x]) Lv (fun xs => xs = upsS L n id) (fun pre => pre <+: upsS L n id) (fun pre x => pre ++ [x] <+: upsS L n id) Kg B w := fun l J Jx row0 W hW hJ hJx hK hJl hr0 hY h0 => by
  replace h1 := (hW.cell (p := ⟨B, 0, none⟩) (by simp; omega)).trans h1
  replace h2 := (hW.cell (p := ⟨B + 1, 0, none⟩) (by simp; omega)).trans h2
  have hWs := hW.size
  rw [hB] at hWs hJ hJx hY hr0
  have hrB : row0 ≠ some B := fun e => hr0 B e ⟨Nat.le_refl _, by omega⟩
  have own0 : ∀ k, B ≤ k → k < B + 2 → Mine B (B + 2) W.heap.size k := fun k ha hb => .inl ⟨ha, hb⟩
  refine callsIn_of_wp Tryd.func52 rfl trivial ?_ rfl
  simp only [Tryd.ntmps52, List.size_toArray, List.length_cons, List.length_nil, Nat.reduceAdd, Nat.reduceSub, Array.replicate_succ, Array.replicate_zero, List.push_toArray, List.append_toArray, List.nil_append, List.cons_append]
  gi_wp2
  gi_loopg [4] n (fun gk s4 wx => ∃ (pre : List Int) (k : Int) (row : Option Nat), s4 = .int .i64 k ∧ Hid (upsS L n id = pre ++ upsS L gk k) ∧ Hid (endsU L gk k = true) ∧ J pre row wx ∧ row ≠ some B ∧ W.heap.size ≤ wx.heap.size ∧ wx.cell? ⟨B, 0, none⟩ = some (.pointer a))
  case atStart => exact ⟨[], id, row0, rfl, Lib.hid rfl, Lib.hid he, h0, hrB, Nat.le_refl _, h1⟩
  case round =>
    obtain ⟨pre, k, row, rfl, hsp, hend, hj, hrB, hsz, c1⟩ := hrel
    have hBw : B < wr.heap.size := by omega
    have cH := has_v (hKg _ (hK _ _ _ hj)) k
    cases hh : hasS L k with
    | false =>
      rw [hh] at cH
      have e0 := Lib.hid (ups_none hh gk)
      clear hh
      gi_wp2_with (refine ⟨trivial, ?_⟩; gi_at_call 22; refine (callsIn_wide.2 cH).mono ?_; rintro e w' ⟨rfl, rfl⟩)
      refine ⟨(fun f h => by cases h), ?_⟩
      gi_wp2
      go_end0
      exact ⟨⟨_, rfl⟩, .inl ⟨_, row, by rw [hsp.out, e0.out, List.append_nil], hj⟩⟩
    | true =>
      obtain ⟨g', rfl⟩ : ∃ g', gk = g' + 1 := by
        cases gk with
        | zero => have := hend.out; unfold endsU at this; rw [hh] at this; cases this
        | succ g => exact ⟨g, rfl⟩
      have e1 : upsS L (g' + 1) k = k :: upsS L g' (upS L k) := by rw [upsS, if_pos hh]
      have e2 : endsU L g' (upS L k) = true := by have := hend.out; rw [endsU, if_pos hh] at this; exact this
      have hpre : pre ++ [k] <+: upsS L n id := by rw [hsp.out, e1]; exact ⟨upsS L g' (upS L k), by simp⟩
      have HN : Hid (upsS L n id = (pre ++ [k]) ++ upsS L g' (upS L k)) := Lib.hid (by rw [hsp.out, e1]; simp)
      have HE := Lib.hid e2
      have HP := Lib.hid hpre
      obtain ⟨fn, tmps, assign, body, hy, hR⟩ := yield_any (m' := 8) (hY pre k row wr hsz hj hpre)
      rw [hh] at cH
      clear hh e1 e2 hsp hend hpre
      gi_wp2_with (refine ⟨trivial, ?_⟩; gi_at_call 22; refine (callsIn_wide.2 cH).mono ?_; rintro e w' ⟨rfl, rfl⟩)
      refine hR.mono ?_
      rintro e W3 ⟨row', hn, hk3, (⟨rfl, hJ3⟩ | ⟨hlv, rfl, hJ3⟩)⟩
      · have d1 := hk3.cell (own0 B (Nat.le_refl _) (by omega)) hrB c1
        have hrB' := hn.ne hBw hrB
        have hsz3 := hk3.size
        have cP := parent_v (hKg _ (hK _ _ _ hJ3)) k
        gi_wp2_with (refine ⟨trivial, ?_⟩; gi_at_call 23; refine (callsIn_wide.2 cP).mono ?_; rintro e w' ⟨rfl, rfl⟩)
        gi_roundg g'
        case measure => omega
        case rel => exact ⟨pre ++ [k], _, row', rfl, HN, HE, hJ3, hrB', by omega, d1⟩
      · gi_wp2
        go_end0
        exact ⟨⟨_, rfl⟩, .inr ⟨hlv, pre ++ [k], row', HP.out, hJ3⟩⟩

end Go.Proofs.YtggjoefhopoggaaDoor
