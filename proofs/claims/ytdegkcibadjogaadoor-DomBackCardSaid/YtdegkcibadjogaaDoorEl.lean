/-
  Element without attributes; Text.
-/
import Derived.Test.YtdegkcibadjogaaDoorPut
namespace Go.Proofs.YtdegkcibadjogaaDoor
open Go.RowKit Go.Lib

set_option maxRecDepth 20000 in
set_option maxHeartbeats 4000000 in
theorem elem_any (B : Nat) (w : World) (p nb : Nat) (deep : Int) (l : List (Option Nd)) (h : TreeAt w p nb deep l) (ha : Apart p nb l) (hnb : nb < w.heap.size) (hB : B ≤ nb) (k : Nat) (hk : ixN l 0 = (k : Int)) (tag : Int) (hT : OwnT w) (ht : (nameOf tag).toList.isEmpty = false) :
    Calls Tryd.prog 37 #[.pointer (some ⟨p, 0, none⟩), .int .i64 tag, .slice none 0 0] w fun e w' => e = .returned (.tuple #[.int .i64 k, .int .i64 0]) ∧ Below B w w' ∧ TreeAt w' p nb deep (l.set k (some (ndF (w.heap.size + 1) tag none 0 0 ⟨#[]⟩ []))) := by
  have cI := is_any w p nb deep l h
  have cE := isel_any tag w hT
  rw [ht] at cE
  have cO := own_nil w
  have cA := add_any B w p nb deep l h ha hnb hB k hk tag none 0 0 ⟨#[]⟩ []
  clear h ha hnb hk hT ht
  go_enter Tryd.func37, Tryd.ntmps37
  go_wp2_with (first
    | (go_at_call 39; ((with_reducible refine (cI).mono ?_); rintro e w1 ⟨rfl, rfl⟩))
    | (go_at_call 82; ((with_reducible refine (cE).mono ?_); rintro e w2 ⟨rfl, rfl⟩))
    | (go_at_call 81; ((with_reducible refine (cO).mono ?_); rintro e w3 ⟨rfl, rfl⟩))
    | (go_at_call 43; ((with_reducible refine (cA).mono ?_); rintro e w4 ⟨rfl, hw4⟩)))
  go_ret2
  exact ⟨rfl, hw4⟩

set_option maxRecDepth 20000 in
set_option maxHeartbeats 4000000 in
theorem text_any (B : Nat) (w : World) (p nb : Nat) (deep : Int) (l : List (Option Nd)) (h : TreeAt w p nb deep l) (ha : Apart p nb l) (hnb : nb < w.heap.size) (hB : B ≤ nb) (k : Nat) (hk : ixN l 0 = (k : Int)) (s : ByteArray) (hs : s.size ≤ 8192) (hs2 : (anewS s).size ≤ 8192) :
    Calls Tryd.prog 14 #[.pointer (some ⟨p, 0, none⟩), .string s] w fun e w' => e = .returned (.tuple #[.int .i64 k, .int .i64 0]) ∧ Below B w w' ∧ ∃ b, w.heap.size < b ∧ TreeAt w' p nb deep (l.set k (some (ndF b 0 none 0 0 (anewS s) []))) := by
  have cI := is_any w p nb deep l h
  have cN := anew_any s w
  rw [if_pos hs, decide_eq_true hs2] at cN
  have cA := fun (w1 : World) (hb : Below w.heap.size w w1) => add_any B w1 p nb deep l (h.below hnb hb) ha (Nat.lt_of_lt_of_le hnb hb.size) hB k hk 0 none 0 0 (anewS s) []
  have hBw : B ≤ w.heap.size := by omega
  obtain ⟨S, hS⟩ : ∃ S, anewS s = S := ⟨_, rfl⟩
  rw [hS] at cN cA ⊢
  clear h ha hnb hk hs hs2 hS
  go_enter Tryd.func14, Tryd.ntmps14
  go_wp2_with (first
    | (go_at_call 39; ((with_reducible refine (cI).mono ?_); rintro e w1 ⟨rfl, rfl⟩))
    | (go_at_call 42; ((with_reducible refine (cN).mono ?_); rintro e w2 ⟨rfl, hb⟩))
    | (go_at_call 43; ((with_reducible refine (cA w2 hb).mono ?_); rintro e w4 ⟨rfl, hw4, hT4⟩)))
  go_ret2
  exact ⟨rfl, (hb.mono hBw).trans hw4, _, by have := hb.size; omega, hT4⟩

end Go.Proofs.YtdegkcibadjogaaDoor
