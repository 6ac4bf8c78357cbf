/-
  Insert: of a first kid; of one that stands too deep.
  awake: a tree of three nodes, made and asked.
-/
import Derived.Test.YtdegkcibadjogaaDoorCEl

namespace Go.Proofs.YtdegkcibadjogaaDoor
open Go.RowKit Go.Lib

/-- What Insert asks, of a kid that is loose and a parent that is an element and has no kids. -/
structure MayIn (l : List (Option Nd)) (i j : Nat) (x y : Nd) (m : Nat) : Prop where
  hi : l[i]? = some (some x)
  hj : l[j]? = some (some y)
  hij : i ≠ j
  hx : x.ka = none ∧ x.kc = 0 ∧ x.kids = []
  ht : x.tag ≠ 0
  hl : looseT l j = true
  hr : endsR l m i = true
  hrt : rootF l m i ≠ j
  hh : endsH l m j
  hd : endsD l m i = true
  hm : m ≤ 1000
theorem ndAt_of {l : List (Option Nd)} {i : Nat} {x : Nd} (h : l[i]? = some (some x)) : ndAt l (i : Int) = some x := by
  unfold ndAt
  rw [if_pos (by omega), Int.toNat_natCast, h]; rfl

set_option maxRecDepth 20000 in
set_option maxHeartbeats 8000000 in
theorem ins_first (B : Nat) (w : World) (p nb : Nat) (deep : Int) (l : List (Option Nd)) (h : TreeAt w p nb deep l) (ha : Apart p nb l) (hnb : nb < w.heap.size) (i j m : Nat) (x y : Nd) (hM : MayIn l i j x y m) (hf : depthF l m i + 1 + heightF l m j ≤ deep) (hBx : B ≤ x.ab) (hBy : B ≤ y.ab) :
    Calls Tryd.prog 15 #[.pointer (some ⟨p, 0, none⟩), .int .i64 i, .int .i64 0, .int .i64 j] w fun e w' => e = .returned (.int .i64 0) ∧ Below B w w' ∧ ∃ g cap, TreeAt w' p nb deep (joined l i x j y g cap) := by
  have hb1 := (Below.refl _ w).alloc (Nat.le_refl _) (.cells #[.int .i64 (i : Int), .int .i64 (j : Int)] 3)
  have hnx := ndAt_of hM.hi
  have hny := ndAt_of hM.hj
  have cA := ask_any _ p nb deep l (h.below hnb hb1) w.heap.size [(i : Int), (j : Int)] (by simp) (fun k hk => by
    have hk2 : k = 0 ∨ k = 1 := by simp at hk; omega
    rcases hk2 with rfl | rfl <;> simp [go_sem])
  have e1 : askT l [(i : Int), (j : Int)] = 0 := by
    unfold askT
    rw [if_pos]
    simp [hasT, hnx, hny]
  have e2 : [(i : Int), (j : Int)].length = 2 := rfl
  rw [e1, e2] at cA
  have HTB := fun (w1 : World) (hb : Below w.heap.size w w1) => h.below hnb hb
  have hnB := fun (w1 : World) (hb : Below w.heap.size w w1) => Nat.lt_of_lt_of_le hnb hb.size
  have cE := fun (w1 : World) (hb : Below w.heap.size w w1) => element_any w1 p nb deep l (HTB w1 hb) i (hnB w1 hb)
  have e3 : elemT l (i : Int) = (some x, 0) := by unfold elemT; rw [hnx]; exact if_neg hM.ht
  rw [e3] at cE
  unfold ndV at cE
  dsimp only at cE
  have cL := fun (w1 : World) (hb : Below w.heap.size w w1) => loose_any w1 p nb deep l (HTB w1 hb) j
  rw [hM.hl] at cL
  have cT := fun (w1 : World) (hb : Below w.heap.size w w1) => takes_any w1 x 0 ((HTB w1 hb).yes i x hM.hi).2
  have e4 : takesT x 0 = true := by unfold takesT; simp
  rw [e4] at cT
  have cR := fun (w1 : World) (hb : Below w.heap.size w w1) => root_any w1 p nb deep l (HTB w1 hb) i m hM.hr
  have cH := fun (w1 : World) (hb : Below w.heap.size w w1) => height_any w1 p nb deep l (HTB w1 hb) m (by have := hM.hm; omega) j hM.hh
  have hhl := heightF_le l m j
  have cF := fun (w1 : World) (hb : Below w.heap.size w w1) => fits_any w1 p nb deep l (HTB w1 hb) (hnB w1 hb) i (heightF l m j) m (by have := hM.hm; omega) (by have := hM.hm; omega) hM.hd
  rw [decide_eq_true hf] at cF
  have cJ := fun (w1 : World) (hb : Below w.heap.size w w1) => join_first B w1 p nb deep l (HTB w1 hb) ha (hnB w1 hb) i j x y hM.hi hM.hj hM.hij hM.hx hBx hBy
  have hBw : B ≤ w.heap.size := by
    have h9 : x.ab < w.heap.size := lt_of_cell' (h.yes i x hM.hi).2.c0
    omega
  obtain ⟨r, hr⟩ : ∃ r, rootF l m i = r := ⟨_, rfl⟩
  rw [hr] at cR
  have hrj : (r == (j : Int)) = false := by rw [← hr]; simpa using hM.hrt
  obtain ⟨z, hz⟩ : ∃ z, heightF l m j = z := ⟨_, rfl⟩
  rw [hz] at cH cF
  obtain ⟨b, hb0⟩ : ∃ b, x.ab = b := ⟨_, rfl⟩
  rw [hb0] at cE cT
  have HB1 := Lib.hid hb1
  clear h ha hnb hM hf hnx hny e1 e2 e3 e4 hhl hr hz hb0 hb1 HTB hnB hBx hBy
  go_enter Tryd.func15, Tryd.ntmps15
  go_wp2_with (first
    | (go_at_call 44; ((with_reducible refine (cA).mono ?_); rintro e w1 ⟨rfl, rfl⟩))
    | (go_at_call 45; ((with_reducible refine (cE _ HB1.out).mono ?_); rintro e w2 ⟨rfl, hb2⟩; have hb := HB1.out.trans (hb2.mono (by simp)); clear hb2))
    | (go_at_call 46; ((with_reducible refine (cL _ hb).mono ?_); rintro e w3 ⟨rfl, rfl⟩))
    | (go_at_call 47; ((with_reducible refine (cT _ hb).mono ?_); rintro e w4 ⟨rfl, rfl⟩))
    | (go_at_call 48; ((with_reducible refine (cR _ hb).mono ?_); rintro e w5 ⟨rfl, rfl⟩))
    | (go_at_call 50; ((with_reducible refine (cH _ hb).mono ?_); rintro e w6 ⟨rfl, rfl⟩))
    | (go_at_call 49; ((with_reducible refine (cF _ hb).mono ?_); rintro e w7 ⟨rfl, hb7⟩; replace hb := hb.trans (hb7.mono hb.size); clear hb7))
    | (go_at_call 51; ((with_reducible refine (cJ _ hb).mono ?_); rintro e w8 ⟨rfl, hb8, g, cap, hg, hT⟩)))
  go_ret
  exact ⟨rfl, (hb.mono hBw).trans hb8, g, cap, hT⟩

set_option maxRecDepth 20000 in
set_option maxHeartbeats 8000000 in
theorem ins_deep (w : World) (p nb : Nat) (deep : Int) (l : List (Option Nd)) (h : TreeAt w p nb deep l) (hnb : nb < w.heap.size) (i j m : Nat) (x y : Nd) (hM : MayIn l i j x y m) (hf : ¬ depthF l m i + 1 + heightF l m j ≤ deep) :
    Calls Tryd.prog 15 #[.pointer (some ⟨p, 0, none⟩), .int .i64 i, .int .i64 0, .int .i64 j] w fun e w' => e = .returned (.int .i64 4) ∧ Below w.heap.size w w' := by
  have hb1 := (Below.refl _ w).alloc (Nat.le_refl _) (.cells #[.int .i64 (i : Int), .int .i64 (j : Int)] 3)
  have hnx := ndAt_of hM.hi
  have hny := ndAt_of hM.hj
  have cA := ask_any _ p nb deep l (h.below hnb hb1) w.heap.size [(i : Int), (j : Int)] (by simp) (fun k hk => by
    have hk2 : k = 0 ∨ k = 1 := by simp at hk; omega
    rcases hk2 with rfl | rfl <;> simp [go_sem])
  have e1 : askT l [(i : Int), (j : Int)] = 0 := by
    unfold askT
    rw [if_pos]
    simp [hasT, hnx, hny]
  have e2 : [(i : Int), (j : Int)].length = 2 := rfl
  rw [e1, e2] at cA
  have HTB := fun (w1 : World) (hb : Below w.heap.size w w1) => h.below hnb hb
  have hnB := fun (w1 : World) (hb : Below w.heap.size w w1) => Nat.lt_of_lt_of_le hnb hb.size
  have cE := fun (w1 : World) (hb : Below w.heap.size w w1) => element_any w1 p nb deep l (HTB w1 hb) i (hnB w1 hb)
  have e3 : elemT l (i : Int) = (some x, 0) := by unfold elemT; rw [hnx]; exact if_neg hM.ht
  rw [e3] at cE
  unfold ndV at cE
  dsimp only at cE
  have cL := fun (w1 : World) (hb : Below w.heap.size w w1) => loose_any w1 p nb deep l (HTB w1 hb) j
  rw [hM.hl] at cL
  have cT := fun (w1 : World) (hb : Below w.heap.size w w1) => takes_any w1 x 0 ((HTB w1 hb).yes i x hM.hi).2
  have e4 : takesT x 0 = true := by unfold takesT; simp
  rw [e4] at cT
  have cR := fun (w1 : World) (hb : Below w.heap.size w w1) => root_any w1 p nb deep l (HTB w1 hb) i m hM.hr
  have cH := fun (w1 : World) (hb : Below w.heap.size w w1) => height_any w1 p nb deep l (HTB w1 hb) m (by have := hM.hm; omega) j hM.hh
  have hhl := heightF_le l m j
  have cF := fun (w1 : World) (hb : Below w.heap.size w w1) => fits_any w1 p nb deep l (HTB w1 hb) (hnB w1 hb) i (heightF l m j) m (by have := hM.hm; omega) (by have := hM.hm; omega) hM.hd
  rw [decide_eq_false hf] at cF
  obtain ⟨r, hr⟩ : ∃ r, rootF l m i = r := ⟨_, rfl⟩
  rw [hr] at cR
  have hrj : (r == (j : Int)) = false := by rw [← hr]; simpa using hM.hrt
  obtain ⟨z, hz⟩ : ∃ z, heightF l m j = z := ⟨_, rfl⟩
  rw [hz] at cH cF
  obtain ⟨b, hb0⟩ : ∃ b, x.ab = b := ⟨_, rfl⟩
  rw [hb0] at cE cT
  have HB1 := Lib.hid hb1
  clear h hnb hM hf hnx hny e1 e2 e3 e4 hhl hr hz hb0 hb1 HTB hnB
  go_enter Tryd.func15, Tryd.ntmps15
  go_wp2_with (first
    | (go_at_call 44; ((with_reducible refine (cA).mono ?_); rintro e w1 ⟨rfl, rfl⟩))
    | (go_at_call 45; ((with_reducible refine (cE _ HB1.out).mono ?_); rintro e w2 ⟨rfl, hb2⟩; have hb := HB1.out.trans (hb2.mono (by simp)); clear hb2))
    | (go_at_call 46; ((with_reducible refine (cL _ hb).mono ?_); rintro e w3 ⟨rfl, rfl⟩))
    | (go_at_call 47; ((with_reducible refine (cT _ hb).mono ?_); rintro e w4 ⟨rfl, rfl⟩))
    | (go_at_call 48; ((with_reducible refine (cR _ hb).mono ?_); rintro e w5 ⟨rfl, rfl⟩))
    | (go_at_call 50; ((with_reducible refine (cH _ hb).mono ?_); rintro e w6 ⟨rfl, rfl⟩))
    | (go_at_call 49; ((with_reducible refine (cF _ hb).mono ?_); rintro e w7 ⟨rfl, hb7⟩; replace hb := hb.trans (hb7.mono hb.size); clear hb7)))
  go_ret
  exact ⟨rfl, hb⟩

end Go.Proofs.YtdegkcibadjogaaDoor

namespace Go.Proofs.YtdegkcibadjogaaDoor
open Go.RowKit Go.Lib

def t97 : ByteArray := ⟨#[97]⟩
def e1 (b : Nat) : Nd := ndF b 2 none 0 0 ⟨#[]⟩ []
def t2 (c : Nat) : Nd := ndF c 0 none 0 0 (anewS t97) []
def l0 (a : Nat) : List (Option Nd) := [some (nd0 a), none, none]
def l1 (a b : Nat) : List (Option Nd) := [some (nd0 a), some (e1 b), none]
def l2 (a b c : Nat) : List (Option Nd) := [some (nd0 a), some (e1 b), some (t2 c)]
def l3 (a b c g cap : Nat) : List (Option Nd) := [some { nd0 a with ka := some ⟨g, 0, none⟩, kc := cap, kids := [1] }, some { e1 b with up := 0 }, some (t2 c)]

theorem anew97 : (anewS t97).size ≤ 8192 := by
  have h1 := runesBytes_size_le (runesI t97 t97.size 0)
  have h2 := runesI_len t97 t97.size 0
  have h3 : t97.size = 1 := rfl
  unfold anewS
  omega

theorem aw_new (w : World) : Calls Tryd.prog 10 #[.int .i64 3, .int .i64 1] w fun e w' => e = .returned (.tuple #[.pointer (some ⟨w.heap.size + 1, 0, none⟩), .int .i64 0]) ∧ w'.heap.size = w.heap.size + 3 ∧ Below w.heap.size w w' ∧ TreeAt w' (w.heap.size + 1) w.heap.size 1 (l0 (w.heap.size + 2)) ∧ Apart (w.heap.size + 1) w.heap.size (l0 (w.heap.size + 2)) :=
  (new_any w 3 1 (by omega) (by omega) (by omega) (by omega)).mono (by
    rintro e w' ⟨rfl, h1, h2, h3⟩
    refine ⟨rfl, h1, h2, h3, ?_, ?_, ?_, ?_⟩
    · omega
    · intro i x hi
      unfold l0 at hi
      match i with
      | 0 => obtain rfl : nd0 (w.heap.size + 2) = x := by simpa using hi
             exact ⟨by show w.heap.size + 2 ≠ _; omega, by show w.heap.size + 2 ≠ _; omega⟩
      | 1 => simp at hi
      | 2 => simp at hi
      | n + 3 => simp at hi
    · intro i j x y hi hj hij
      unfold l0 at hi hj
      match i, j with
      | 0, 0 => exact absurd rfl hij
      | 0, 1 => simp at hj
      | 0, 2 => simp at hj
      | 0, n + 3 => simp at hj
      | 1, _ => simp at hi
      | 2, _ => simp at hi
      | n + 3, _ => simp at hi
    · intro i x b o hi e1 e2
      unfold l0 at hi
      match i with
      | 0 => obtain rfl : nd0 (w.heap.size + 2) = x := by simpa using hi
             exact absurd rfl e2
      | 1 => simp at hi
      | 2 => simp at hi
      | n + 3 => simp at hi)

theorem aw_el (B : Nat) (w : World) (p nb a : Nat) (h : TreeAt w p nb 1 (l0 a)) (ha : Apart p nb (l0 a)) (hnb : nb < w.heap.size) (hB : B ≤ nb) (hT : OwnT w) :
    Calls Tryd.prog 37 #[.pointer (some ⟨p, 0, none⟩), .int .i64 2, .slice none 0 0] w fun e w' => e = .returned (.tuple #[.int .i64 1, .int .i64 0]) ∧ Below B w w' ∧ ∃ b, w.heap.size < b ∧ TreeAt w' p nb 1 (l1 a b) ∧ Apart p nb (l1 a b) :=
  (elem_any B w p nb 1 (l0 a) h ha hnb hB 1 rfl 2 hT (by kernel_rfl)).mono (by
    rintro e w' ⟨rfl, h1, h2⟩
    exact ⟨rfl, h1, w.heap.size + 1, Nat.lt_succ_self _, h2, Apart.put h ha hnb 1 (e1 (w.heap.size + 1)) (Nat.le_succ _) rfl⟩)

theorem aw_text (B : Nat) (w : World) (p nb a b : Nat) (h : TreeAt w p nb 1 (l1 a b)) (ha : Apart p nb (l1 a b)) (hnb : nb < w.heap.size) (hB : B ≤ nb) :
    Calls Tryd.prog 14 #[.pointer (some ⟨p, 0, none⟩), .string ⟨#[97]⟩] w fun e w' => e = .returned (.tuple #[.int .i64 2, .int .i64 0]) ∧ Below B w w' ∧ ∃ c, w.heap.size < c ∧ TreeAt w' p nb 1 (l2 a b c) ∧ Apart p nb (l2 a b c) :=
  (text_any B w p nb 1 (l1 a b) h ha hnb hB 2 rfl t97 (by decide) anew97).mono (by
    rintro e w' ⟨rfl, h1, c, hc, h2⟩
    exact ⟨rfl, h1, c, hc, h2, Apart.put h ha hnb 2 (t2 c) (Nat.le_of_lt hc) rfl⟩)

theorem may1 (a b c : Nat) : MayIn (l2 a b c) 0 1 (nd0 a) (e1 b) 3 :=
  ⟨rfl, rfl, by decide, ⟨rfl, rfl, rfl⟩, by show (1 : Int) ≠ 0; decide, rfl, rfl, by show (0 : Int) ≠ 1; decide, (by
    intro x hx k hk
    obtain rfl : e1 b = x := Option.some.inj hx
    cases hk), rfl, by decide⟩
theorem aw_ins1 (B : Nat) (w : World) (p nb a b c : Nat) (h : TreeAt w p nb 1 (l2 a b c)) (ha : Apart p nb (l2 a b c)) (hnb : nb < w.heap.size) (hBa : B ≤ a) (hBb : B ≤ b) :
    Calls Tryd.prog 15 #[.pointer (some ⟨p, 0, none⟩), .int .i64 0, .int .i64 0, .int .i64 1] w fun e w' => e = .returned (.int .i64 0) ∧ Below B w w' ∧ ∃ g cap, TreeAt w' p nb 1 (l3 a b c g cap) :=
  ins_first B w p nb 1 (l2 a b c) h ha hnb 0 1 3 (nd0 a) (e1 b) (may1 a b c) (by show (0 : Int) + 1 + 0 ≤ 1; decide) hBa hBb

theorem may2 (a b c g cap : Nat) : MayIn (l3 a b c g cap) 1 2 { e1 b with up := 0 } (t2 c) 3 :=
  ⟨rfl, rfl, by decide, ⟨rfl, rfl, rfl⟩, by show (2 : Int) ≠ 0; decide, rfl, rfl, by show (0 : Int) ≠ 2; decide, (by
    intro x hx k hk
    obtain rfl : t2 c = x := Option.some.inj hx
    cases hk), rfl, by decide⟩
theorem aw_ins2 (w : World) (p nb a b c g cap : Nat) (h : TreeAt w p nb 1 (l3 a b c g cap)) (hnb : nb < w.heap.size) :
    Calls Tryd.prog 15 #[.pointer (some ⟨p, 0, none⟩), .int .i64 1, .int .i64 0, .int .i64 2] w fun e w' => e = .returned (.int .i64 4) ∧ Below w.heap.size w w' :=
  ins_deep w p nb 1 (l3 a b c g cap) h hnb 1 2 3 { e1 b with up := 0 } (t2 c) (may2 a b c g cap) (by show ¬ (1 : Int) + 1 + 0 ≤ 1; decide)

theorem aw_count (w : World) (p nb a b c g cap : Nat) (h : TreeAt w p nb 1 (l3 a b c g cap)) :
    Calls Tryd.prog 22 #[.pointer (some ⟨p, 0, none⟩)] w fun e w' => e = .returned (.int .i64 3) ∧ w = w' := count_any w p nb 1 (l3 a b c g cap) h
theorem aw_live1 (w : World) (p nb a b c g cap : Nat) (h : TreeAt w p nb 1 (l3 a b c g cap)) :
    Calls Tryd.prog 34 #[.pointer (some ⟨p, 0, none⟩), .int .i64 1] w fun e w' => e = .returned (.bool true) ∧ w = w' := live_any w p nb 1 (l3 a b c g cap) h 1 3 rfl
theorem aw_live2 (w : World) (p nb a b c g cap : Nat) (h : TreeAt w p nb 1 (l3 a b c g cap)) :
    Calls Tryd.prog 34 #[.pointer (some ⟨p, 0, none⟩), .int .i64 2] w fun e w' => e = .returned (.bool false) ∧ w = w' := live_any w p nb 1 (l3 a b c g cap) h 2 3 rfl

set_option maxRecDepth 20000 in
set_option maxHeartbeats 8000000 in
theorem awake_any (w : World) (hT : OwnT w) : Calls Tryd.prog 9 #[] w fun e w' => e = .returned (.bool true) ∧ Below w.heap.size w w' := by
  have cN := aw_new w
  have HT := Lib.hid hT
  clear hT
  go_enter Tryd.func9, Tryd.ntmps9
  go_wp2_with (first
    | (go_at_call 10; ((with_reducible refine (cN).mono ?_); rintro e w1 ⟨rfl, hs, hb, T1, A1⟩; have cE := aw_el w.heap.size w1 _ _ _ T1 A1 (by omega) (Nat.le_refl _) (HT.out.below hb); have S1 := Lib.hid hs; clear hs T1 A1))
    | (go_at_call 37; ((with_reducible refine (cE).mono ?_); rintro e w2 ⟨rfl, hb2, b, hb0, T2, A2⟩; replace hb := hb.trans hb2; have cT := aw_text w.heap.size w2 _ _ _ _ T2 A2 (by have := S1.out; have := hb2.size; omega) (Nat.le_refl _); have Z2 := Lib.hid (And.intro hb0 hb2.size); clear hb2 hb0 T2 A2 cE))
    | (go_at_call 14; ((with_reducible refine (cT).mono ?_); rintro e w3 ⟨rfl, hb3, c, hc0, T3, A3⟩; replace hb := hb.trans hb3; have cI := aw_ins1 w.heap.size w3 _ _ _ _ _ T3 A3 (by have := S1.out; have := Z2.out; have := hb3.size; omega) (by omega) (by have := S1.out; have := Z2.out; omega); have Z3 := Lib.hid hb3.size; clear hb3 hc0 T3 A3 cT))
    | (go_at_call 15; ((with_reducible refine (cI).mono ?_); rintro e w4 ⟨rfl, hb4, g, cap, T4⟩; replace hb := hb.trans hb4; have cI2 := aw_ins2 w4 _ _ _ _ _ _ _ T4 (by have := S1.out; have := Z2.out; have := Z3.out; have := hb4.size; omega); have HT4 := Lib.hid T4; have Z4 := Lib.hid hb4.size; clear hb4 T4 cI))
    | (go_at_call 15; ((with_reducible refine (cI2).mono ?_); rintro e w5 ⟨rfl, hb5⟩; have T5 := HT4.out.below (by have := S1.out; have := Z2.out; have := Z3.out; have := Z4.out; omega) hb5; replace hb := hb.trans (hb5.mono (by have := S1.out; have := Z2.out; have := Z3.out; have := Z4.out; omega)); have cC := aw_count w5 _ _ _ _ _ _ _ T5; have c1 := aw_live1 w5 _ _ _ _ _ _ _ T5; have c2 := aw_live2 w5 _ _ _ _ _ _ _ T5; clear hb5 T5 cI2))
    | (go_at_call 22; ((with_reducible refine (cC).mono ?_); rintro e w6 ⟨rfl, rfl⟩))
    | (go_at_call 34; ((with_reducible refine (c1).mono ?_); rintro e w7 ⟨rfl, rfl⟩))
    | (go_at_call 34; ((with_reducible refine (c2).mono ?_); rintro e w8 ⟨rfl, rfl⟩)))
  go_ret
  exact ⟨rfl, hb⟩

end Go.Proofs.YtdegkcibadjogaaDoor
