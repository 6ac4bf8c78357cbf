/-
  awake: a tree of three nodes, made and asked.
-/
import Derived.Test.YtdegkcibadjogaaDoorInt
namespace Go.Proofs.YtdegkcibadjogaaDoor
open Go.RowKit Go.Lib

def t97 : ByteArray := ⟨#[97]⟩
def e1 (b : Nat) : Nd := ndF b 2 none 0 0 ⟨#[]⟩ []
def t2 (c : Nat) : Nd := ndF c 0 none 0 0 (anewS t97) []
def l0 (a : Nat) : List (Option Nd) := [some (nd0 a), none, none]
def l1 (a b : Nat) : List (Option Nd) := [some (nd0 a), some (e1 b), none]
def l2 (a b c : Nat) : List (Option Nd) := [some (nd0 a), some (e1 b), some (t2 c)]
def l3 (a b c g cap : Nat) : List (Option Nd) := [some { nd0 a with ka := some ⟨g, 0, none⟩, kc := cap, kids := [1] }, some { e1 b with up := 0 }, some (t2 c)]

theorem anew97 : (anewS t97).size ≤ 8192 := by
  have h1 := runesBytes_size_le (runesI t97 t97.size 0)
  have h2 := runesI_len t97 t97.size 0
  have h3 : t97.size = 1 := rfl
  unfold anewS
  omega

theorem aw_new (w : World) : Calls Tryd.prog 10 #[.int .i64 3, .int .i64 1] w fun e w' => e = .returned (.tuple #[.pointer (some ⟨w.heap.size + 1, 0, none⟩), .int .i64 0]) ∧ w'.heap.size = w.heap.size + 3 ∧ Below w.heap.size w w' ∧ TreeAt w' (w.heap.size + 1) w.heap.size 1 (l0 (w.heap.size + 2)) ∧ Apart (w.heap.size + 1) w.heap.size (l0 (w.heap.size + 2)) :=
  (new_any w 3 1 (by omega) (by omega) (by omega) (by omega)).mono (by
    rintro e w' ⟨rfl, h1, h2, h3⟩
    refine ⟨rfl, h1, h2, h3, ?_, ?_, ?_, ?_⟩
    · omega
    · intro i x hi
      unfold l0 at hi
      match i with
      | 0 => obtain rfl : nd0 (w.heap.size + 2) = x := by simpa using hi
             exact ⟨by show w.heap.size + 2 ≠ _; omega, by show w.heap.size + 2 ≠ _; omega⟩
      | 1 => simp at hi
      | 2 => simp at hi
      | n + 3 => simp at hi
    · intro i j x y hi hj hij
      unfold l0 at hi hj
      match i, j with
      | 0, 0 => exact absurd rfl hij
      | 0, 1 => simp at hj
      | 0, 2 => simp at hj
      | 0, n + 3 => simp at hj
      | 1, _ => simp at hi
      | 2, _ => simp at hi
      | n + 3, _ => simp at hi
    · intro i x b o hi e1 e2
      unfold l0 at hi
      match i with
      | 0 => obtain rfl : nd0 (w.heap.size + 2) = x := by simpa using hi
             exact absurd rfl e2
      | 1 => simp at hi
      | 2 => simp at hi
      | n + 3 => simp at hi)

theorem aw_el (B : Nat) (w : World) (p nb a : Nat) (h : TreeAt w p nb 1 (l0 a)) (ha : Apart p nb (l0 a)) (hnb : nb < w.heap.size) (hB : B ≤ nb) (hT : OwnT w) :
    Calls Tryd.prog 37 #[.pointer (some ⟨p, 0, none⟩), .int .i64 2, .slice none 0 0] w fun e w' => e = .returned (.tuple #[.int .i64 1, .int .i64 0]) ∧ Below B w w' ∧ ∃ b, w.heap.size < b ∧ TreeAt w' p nb 1 (l1 a b) ∧ Apart p nb (l1 a b) :=
  (elem_any B w p nb 1 (l0 a) h ha hnb hB 1 rfl 2 hT (by kernel_rfl)).mono (by
    rintro e w' ⟨rfl, h1, h2⟩
    exact ⟨rfl, h1, w.heap.size + 1, Nat.lt_succ_self _, h2, Apart.put h ha hnb 1 (e1 (w.heap.size + 1)) (Nat.le_succ _) rfl⟩)

theorem aw_text (B : Nat) (w : World) (p nb a b : Nat) (h : TreeAt w p nb 1 (l1 a b)) (ha : Apart p nb (l1 a b)) (hnb : nb < w.heap.size) (hB : B ≤ nb) :
    Calls Tryd.prog 14 #[.pointer (some ⟨p, 0, none⟩), .string ⟨#[97]⟩] w fun e w' => e = .returned (.tuple #[.int .i64 2, .int .i64 0]) ∧ Below B w w' ∧ ∃ c, w.heap.size < c ∧ TreeAt w' p nb 1 (l2 a b c) ∧ Apart p nb (l2 a b c) :=
  (text_any B w p nb 1 (l1 a b) h ha hnb hB 2 rfl t97 (by decide) anew97).mono (by
    rintro e w' ⟨rfl, h1, c, hc, h2⟩
    exact ⟨rfl, h1, c, hc, h2, Apart.put h ha hnb 2 (t2 c) (Nat.le_of_lt hc) rfl⟩)

theorem may1 (a b c : Nat) : MayIn (l2 a b c) 0 1 (nd0 a) (e1 b) 3 :=
  ⟨rfl, rfl, by decide, ⟨rfl, rfl, rfl⟩, by show (1 : Int) ≠ 0; decide, rfl, rfl, by show (0 : Int) ≠ 1; decide, (by
    intro x hx k hk
    obtain rfl : e1 b = x := Option.some.inj hx
    cases hk), rfl, by decide⟩
theorem aw_ins1 (B : Nat) (w : World) (p nb a b c : Nat) (h : TreeAt w p nb 1 (l2 a b c)) (ha : Apart p nb (l2 a b c)) (hnb : nb < w.heap.size) (hBa : B ≤ a) (hBb : B ≤ b) :
    Calls Tryd.prog 15 #[.pointer (some ⟨p, 0, none⟩), .int .i64 0, .int .i64 0, .int .i64 1] w fun e w' => e = .returned (.int .i64 0) ∧ Below B w w' ∧ ∃ g cap, TreeAt w' p nb 1 (l3 a b c g cap) :=
  ins_first B w p nb 1 (l2 a b c) h ha hnb 0 1 3 (nd0 a) (e1 b) (may1 a b c) (by show (0 : Int) + 1 + 0 ≤ 1; decide) hBa hBb

theorem may2 (a b c g cap : Nat) : MayIn (l3 a b c g cap) 1 2 { e1 b with up := 0 } (t2 c) 3 :=
  ⟨rfl, rfl, by decide, ⟨rfl, rfl, rfl⟩, by show (2 : Int) ≠ 0; decide, rfl, rfl, by show (0 : Int) ≠ 2; decide, (by
    intro x hx k hk
    obtain rfl : t2 c = x := Option.some.inj hx
    cases hk), rfl, by decide⟩
theorem aw_ins2 (w : World) (p nb a b c g cap : Nat) (h : TreeAt w p nb 1 (l3 a b c g cap)) (hnb : nb < w.heap.size) :
    Calls Tryd.prog 15 #[.pointer (some ⟨p, 0, none⟩), .int .i64 1, .int .i64 0, .int .i64 2] w fun e w' => e = .returned (.int .i64 4) ∧ Below w.heap.size w w' :=
  ins_deep w p nb 1 (l3 a b c g cap) h hnb 1 2 3 { e1 b with up := 0 } (t2 c) (may2 a b c g cap) (by show ¬ (1 : Int) + 1 + 0 ≤ 1; decide)

theorem aw_count (w : World) (p nb a b c g cap : Nat) (h : TreeAt w p nb 1 (l3 a b c g cap)) :
    Calls Tryd.prog 22 #[.pointer (some ⟨p, 0, none⟩)] w fun e w' => e = .returned (.int .i64 3) ∧ w = w' := count_any w p nb 1 (l3 a b c g cap) h
theorem aw_live1 (w : World) (p nb a b c g cap : Nat) (h : TreeAt w p nb 1 (l3 a b c g cap)) :
    Calls Tryd.prog 34 #[.pointer (some ⟨p, 0, none⟩), .int .i64 1] w fun e w' => e = .returned (.bool true) ∧ w = w' := live_any w p nb 1 (l3 a b c g cap) h 1 3 rfl
theorem aw_live2 (w : World) (p nb a b c g cap : Nat) (h : TreeAt w p nb 1 (l3 a b c g cap)) :
    Calls Tryd.prog 34 #[.pointer (some ⟨p, 0, none⟩), .int .i64 2] w fun e w' => e = .returned (.bool false) ∧ w = w' := live_any w p nb 1 (l3 a b c g cap) h 2 3 rfl

set_option maxRecDepth 20000 in
set_option maxHeartbeats 8000000 in
theorem awake_any (w : World) (hT : OwnT w) : Calls Tryd.prog 9 #[] w fun e w' => e = .returned (.bool true) ∧ Below w.heap.size w w' := by
  have cN := aw_new w
  have HT := Lib.hid hT
  clear hT
  go_enter Tryd.func9, Tryd.ntmps9
  go_wp2_with (first
    | (go_at_call 10; ((with_reducible refine (cN).mono ?_); rintro e w1 ⟨rfl, hs, hb, T1, A1⟩; have cE := aw_el w.heap.size w1 _ _ _ T1 A1 (by omega) (Nat.le_refl _) (HT.out.below hb); have S1 := Lib.hid hs; clear hs T1 A1))
    | (go_at_call 37; ((with_reducible refine (cE).mono ?_); rintro e w2 ⟨rfl, hb2, b, hb0, T2, A2⟩; replace hb := hb.trans hb2; have cT := aw_text w.heap.size w2 _ _ _ _ T2 A2 (by have := S1.out; have := hb2.size; omega) (Nat.le_refl _); have Z2 := Lib.hid (And.intro hb0 hb2.size); clear hb2 hb0 T2 A2 cE))
    | (go_at_call 14; ((with_reducible refine (cT).mono ?_); rintro e w3 ⟨rfl, hb3, c, hc0, T3, A3⟩; replace hb := hb.trans hb3; have cI := aw_ins1 w.heap.size w3 _ _ _ _ _ T3 A3 (by have := S1.out; have := Z2.out; have := hb3.size; omega) (by omega) (by have := S1.out; have := Z2.out; omega); have Z3 := Lib.hid hb3.size; clear hb3 hc0 T3 A3 cT))
    | (go_at_call 15; ((with_reducible refine (cI).mono ?_); rintro e w4 ⟨rfl, hb4, g, cap, T4⟩; replace hb := hb.trans hb4; have cI2 := aw_ins2 w4 _ _ _ _ _ _ _ T4 (by have := S1.out; have := Z2.out; have := Z3.out; have := hb4.size; omega); have HT4 := Lib.hid T4; have Z4 := Lib.hid hb4.size; clear hb4 T4 cI))
    | (go_at_call 15; ((with_reducible refine (cI2).mono ?_); rintro e w5 ⟨rfl, hb5⟩; have T5 := HT4.out.below (by have := S1.out; have := Z2.out; have := Z3.out; have := Z4.out; omega) hb5; replace hb := hb.trans (hb5.mono (by have := S1.out; have := Z2.out; have := Z3.out; have := Z4.out; omega)); have cC := aw_count w5 _ _ _ _ _ _ _ T5; have c1 := aw_live1 w5 _ _ _ _ _ _ _ T5; have c2 := aw_live2 w5 _ _ _ _ _ _ _ T5; clear hb5 T5 cI2))
    | (go_at_call 22; ((with_reducible refine (cC).mono ?_); rintro e w6 ⟨rfl, rfl⟩))
    | (go_at_call 34; ((with_reducible refine (c1).mono ?_); rintro e w7 ⟨rfl, rfl⟩))
    | (go_at_call 34; ((with_reducible refine (c2).mono ?_); rintro e w8 ⟨rfl, rfl⟩)))
  go_ret
  exact ⟨rfl, hb⟩

end Go.Proofs.YtdegkcibadjogaaDoor
