/-
  Insert: of a first kid; of one that stands too deep.
-/
import Derived.Test.YtggjoefhopoggaaDoorCEl

namespace Go.Proofs.YtggjoefhopoggaaDoor
open Go.RowKit Go.Lib

/-- What Insert asks, of a kid that is loose and a parent that is an element and has no kids. -/
structure MayIn (l : List (Option Nd)) (i j : Nat) (x y : Nd) (m : Nat) : Prop where
  hi : l[i]? = some (some x)
  hj : l[j]? = some (some y)
  hij : i ≠ j
  hx : x.ka = none ∧ x.kc = 0 ∧ x.kids = []
  ht : x.tag ≠ 0
  hl : looseT l j = true
  hr : endsR l m i = true
  hrt : rootF l m i ≠ j
  hh : endsH l m j
  hd : endsD l m i = true
  hm : m ≤ 1000
theorem ndAt_of {l : List (Option Nd)} {i : Nat} {x : Nd} (h : l[i]? = some (some x)) : ndAt l (i : Int) = some x := by
  unfold ndAt
  rw [if_pos (by omega), Int.toNat_natCast, h]; rfl

set_option maxRecDepth 20000 in
set_option maxHeartbeats 8000000 in
theorem ins_first (B : Nat) (w : World) (p nb : Nat) (deep : Int) (l : List (Option Nd)) (h : TreeAt w p nb deep l) (ha : Apart p nb l) (hnb : nb < w.heap.size) (i j m : Nat) (x y : Nd) (hM : MayIn l i j x y m) (hf : depthF l m i + 1 + heightF l m j ≤ deep) (hBx : B ≤ x.ab) (hBy : B ≤ y.ab) :
    Calls Tryd.prog 55 #[.pointer (some ⟨p, 0, none⟩), .int .i64 i, .int .i64 0, .int .i64 j] w fun e w' => e = .returned (.int .i64 0) ∧ Below B w w' ∧ ∃ g cap, TreeAt w' p nb deep (joined l i x j y g cap) := by
  have hb1 := (Below.refl _ w).alloc (Nat.le_refl _) (.cells #[.int .i64 (i : Int), .int .i64 (j : Int)] 3)
  have hnx := ndAt_of hM.hi
  have hny := ndAt_of hM.hj
  have cA := ask_any _ p nb deep l (h.below hnb hb1) w.heap.size [(i : Int), (j : Int)] (by simp) (fun k hk => by
    have hk2 : k = 0 ∨ k = 1 := by simp at hk; omega
    rcases hk2 with rfl | rfl <;> simp [go_sem])
  have e1 : askT l [(i : Int), (j : Int)] = 0 := by
    unfold askT
    rw [if_pos]
    simp [hasT, hnx, hny]
  have e2 : [(i : Int), (j : Int)].length = 2 := rfl
  rw [e1, e2] at cA
  have HTB := fun (w1 : World) (hb : Below w.heap.size w w1) => h.below hnb hb
  have hnB := fun (w1 : World) (hb : Below w.heap.size w w1) => Nat.lt_of_lt_of_le hnb hb.size
  have cE := fun (w1 : World) (hb : Below w.heap.size w w1) => element_any w1 p nb deep l (HTB w1 hb) i (hnB w1 hb)
  have e3 : elemT l (i : Int) = (some x, 0) := by unfold elemT; rw [hnx]; exact if_neg hM.ht
  rw [e3] at cE
  unfold ndV at cE
  dsimp only at cE
  have cL := fun (w1 : World) (hb : Below w.heap.size w w1) => loose_any w1 p nb deep l (HTB w1 hb) j
  rw [hM.hl] at cL
  have cT := fun (w1 : World) (hb : Below w.heap.size w w1) => takes_any w1 x 0 ((HTB w1 hb).yes i x hM.hi).2
  have e4 : takesT x 0 = true := by unfold takesT; simp
  rw [e4] at cT
  have cR := fun (w1 : World) (hb : Below w.heap.size w w1) => root_any w1 p nb deep l (HTB w1 hb) i m hM.hr
  have cH := fun (w1 : World) (hb : Below w.heap.size w w1) => height_any w1 p nb deep l (HTB w1 hb) m (by have := hM.hm; omega) j hM.hh
  have hhl := heightF_le l m j
  have cF := fun (w1 : World) (hb : Below w.heap.size w w1) => fits_any w1 p nb deep l (HTB w1 hb) (hnB w1 hb) i (heightF l m j) m (by have := hM.hm; omega) (by have := hM.hm; omega) hM.hd
  rw [decide_eq_true hf] at cF
  have cJ := fun (w1 : World) (hb : Below w.heap.size w w1) => join_first B w1 p nb deep l (HTB w1 hb) ha (hnB w1 hb) i j x y hM.hi hM.hj hM.hij hM.hx hBx hBy
  have hBw : B ≤ w.heap.size := by
    have h9 : x.ab < w.heap.size := lt_of_cell' (h.yes i x hM.hi).2.c0
    omega
  obtain ⟨r, hr⟩ : ∃ r, rootF l m i = r := ⟨_, rfl⟩
  rw [hr] at cR
  have hrj : (r == (j : Int)) = false := by rw [← hr]; simpa using hM.hrt
  obtain ⟨z, hz⟩ : ∃ z, heightF l m j = z := ⟨_, rfl⟩
  rw [hz] at cH cF
  obtain ⟨b, hb0⟩ : ∃ b, x.ab = b := ⟨_, rfl⟩
  rw [hb0] at cE cT
  have HB1 := Lib.hid hb1
  clear h ha hnb hM hf hnx hny e1 e2 e3 e4 hhl hr hz hb0 hb1 HTB hnB hBx hBy
  go_enter Tryd.func55, Tryd.ntmps55
  go_wp2_with (first
    | (go_at_call 73; ((with_reducible refine (cA).mono ?_); rintro e w1 ⟨rfl, rfl⟩))
    | (go_at_call 64; ((with_reducible refine (cE _ HB1.out).mono ?_); rintro e w2 ⟨rfl, hb2⟩; have hb := HB1.out.trans (hb2.mono (by simp)); clear hb2))
    | (go_at_call 74; ((with_reducible refine (cL _ hb).mono ?_); rintro e w3 ⟨rfl, rfl⟩))
    | (go_at_call 66; ((with_reducible refine (cT _ hb).mono ?_); rintro e w4 ⟨rfl, rfl⟩))
    | (go_at_call 44; ((with_reducible refine (cR _ hb).mono ?_); rintro e w5 ⟨rfl, rfl⟩))
    | (go_at_call 75; ((with_reducible refine (cH _ hb).mono ?_); rintro e w6 ⟨rfl, rfl⟩))
    | (go_at_call 67; ((with_reducible refine (cF _ hb).mono ?_); rintro e w7 ⟨rfl, hb7⟩; replace hb := hb.trans (hb7.mono hb.size); clear hb7))
    | (go_at_call 69; ((with_reducible refine (cJ _ hb).mono ?_); rintro e w8 ⟨rfl, hb8, g, cap, hg, hT⟩)))
  go_ret
  exact ⟨rfl, (hb.mono hBw).trans hb8, g, cap, hT⟩

set_option maxRecDepth 20000 in
set_option maxHeartbeats 8000000 in
theorem ins_deep (w : World) (p nb : Nat) (deep : Int) (l : List (Option Nd)) (h : TreeAt w p nb deep l) (hnb : nb < w.heap.size) (i j m : Nat) (x y : Nd) (hM : MayIn l i j x y m) (hf : ¬ depthF l m i + 1 + heightF l m j ≤ deep) :
    Calls Tryd.prog 55 #[.pointer (some ⟨p, 0, none⟩), .int .i64 i, .int .i64 0, .int .i64 j] w fun e w' => e = .returned (.int .i64 4) ∧ Below w.heap.size w w' := by
  have hb1 := (Below.refl _ w).alloc (Nat.le_refl _) (.cells #[.int .i64 (i : Int), .int .i64 (j : Int)] 3)
  have hnx := ndAt_of hM.hi
  have hny := ndAt_of hM.hj
  have cA := ask_any _ p nb deep l (h.below hnb hb1) w.heap.size [(i : Int), (j : Int)] (by simp) (fun k hk => by
    have hk2 : k = 0 ∨ k = 1 := by simp at hk; omega
    rcases hk2 with rfl | rfl <;> simp [go_sem])
  have e1 : askT l [(i : Int), (j : Int)] = 0 := by
    unfold askT
    rw [if_pos]
    simp [hasT, hnx, hny]
  have e2 : [(i : Int), (j : Int)].length = 2 := rfl
  rw [e1, e2] at cA
  have HTB := fun (w1 : World) (hb : Below w.heap.size w w1) => h.below hnb hb
  have hnB := fun (w1 : World) (hb : Below w.heap.size w w1) => Nat.lt_of_lt_of_le hnb hb.size
  have cE := fun (w1 : World) (hb : Below w.heap.size w w1) => element_any w1 p nb deep l (HTB w1 hb) i (hnB w1 hb)
  have e3 : elemT l (i : Int) = (some x, 0) := by unfold elemT; rw [hnx]; exact if_neg hM.ht
  rw [e3] at cE
  unfold ndV at cE
  dsimp only at cE
  have cL := fun (w1 : World) (hb : Below w.heap.size w w1) => loose_any w1 p nb deep l (HTB w1 hb) j
  rw [hM.hl] at cL
  have cT := fun (w1 : World) (hb : Below w.heap.size w w1) => takes_any w1 x 0 ((HTB w1 hb).yes i x hM.hi).2
  have e4 : takesT x 0 = true := by unfold takesT; simp
  rw [e4] at cT
  have cR := fun (w1 : World) (hb : Below w.heap.size w w1) => root_any w1 p nb deep l (HTB w1 hb) i m hM.hr
  have cH := fun (w1 : World) (hb : Below w.heap.size w w1) => height_any w1 p nb deep l (HTB w1 hb) m (by have := hM.hm; omega) j hM.hh
  have hhl := heightF_le l m j
  have cF := fun (w1 : World) (hb : Below w.heap.size w w1) => fits_any w1 p nb deep l (HTB w1 hb) (hnB w1 hb) i (heightF l m j) m (by have := hM.hm; omega) (by have := hM.hm; omega) hM.hd
  rw [decide_eq_false hf] at cF
  obtain ⟨r, hr⟩ : ∃ r, rootF l m i = r := ⟨_, rfl⟩
  rw [hr] at cR
  have hrj : (r == (j : Int)) = false := by rw [← hr]; simpa using hM.hrt
  obtain ⟨z, hz⟩ : ∃ z, heightF l m j = z := ⟨_, rfl⟩
  rw [hz] at cH cF
  obtain ⟨b, hb0⟩ : ∃ b, x.ab = b := ⟨_, rfl⟩
  rw [hb0] at cE cT
  have HB1 := Lib.hid hb1
  clear h hnb hM hf hnx hny e1 e2 e3 e4 hhl hr hz hb0 hb1 HTB hnB
  go_enter Tryd.func55, Tryd.ntmps55
  go_wp2_with (first
    | (go_at_call 73; ((with_reducible refine (cA).mono ?_); rintro e w1 ⟨rfl, rfl⟩))
    | (go_at_call 64; ((with_reducible refine (cE _ HB1.out).mono ?_); rintro e w2 ⟨rfl, hb2⟩; have hb := HB1.out.trans (hb2.mono (by simp)); clear hb2))
    | (go_at_call 74; ((with_reducible refine (cL _ hb).mono ?_); rintro e w3 ⟨rfl, rfl⟩))
    | (go_at_call 66; ((with_reducible refine (cT _ hb).mono ?_); rintro e w4 ⟨rfl, rfl⟩))
    | (go_at_call 44; ((with_reducible refine (cR _ hb).mono ?_); rintro e w5 ⟨rfl, rfl⟩))
    | (go_at_call 75; ((with_reducible refine (cH _ hb).mono ?_); rintro e w6 ⟨rfl, rfl⟩))
    | (go_at_call 67; ((with_reducible refine (cF _ hb).mono ?_); rintro e w7 ⟨rfl, hb7⟩; replace hb := hb.trans (hb7.mono hb.size); clear hb7)))
  go_ret
  exact ⟨rfl, hb⟩

end Go.Proofs.YtggjoefhopoggaaDoor
