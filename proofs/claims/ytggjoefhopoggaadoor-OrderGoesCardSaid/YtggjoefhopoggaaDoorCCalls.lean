/-
  Calls in memory; Heavy.
-/
import Derived.Test.YtggjoefhopoggaaDoorCHeavy
import Derived.Deep.RegionHeld3

namespace Go.Proofs.YtggjoefhopoggaaDoor
open Go.RowKit Go.Lib

/-- A call: its parts as they lie in memory, and what they read as. -/
structure Cl where
  what : Int
  a : Int
  b : Int
  c : Int
  s : ByteArray
  aa : Option Addr
  an : Nat
  ac : Nat
  ats : List (ByteArray × ByteArray)
  n : Pn
/-- The cells of a call. -/
structure ClCells (w : World) (b o : Nat) (x : Cl) : Prop where
  c0 : w.cell? ⟨b, o, none⟩ = some (.int .i64 x.what)
  c1 : w.cell? ⟨b, o + 1, none⟩ = some (.int .i64 x.a)
  c2 : w.cell? ⟨b, o + 2, none⟩ = some (.int .i64 x.b)
  c3 : w.cell? ⟨b, o + 3, none⟩ = some (.int .i64 x.c)
  c4 : w.cell? ⟨b, o + 4, none⟩ = some (.string x.s)
  c5 : w.cell? ⟨b, o + 5, none⟩ = some (.slice x.aa x.an x.ac)
  c6 : w.cell? ⟨b, o + 6, none⟩ = some (.int .i64 x.n.tag)
  c7 : w.cell? ⟨b, o + 7, none⟩ = some (.slice x.n.aa x.n.an x.n.ac)
  c8 : w.cell? ⟨b, o + 8, none⟩ = some (.string x.n.tx)
  c9 : w.cell? ⟨b, o + 9, none⟩ = some (.slice x.n.ka x.n.kn x.n.kc)
theorem ClCells.below {w w' : World} {b o : Nat} {x : Cl} (h : ClCells w b o x) (hb : Below w.heap.size w w') : ClCells w' b o x := by
  have hl := lt_of_cell' h.c0
  exact ⟨(hb.cell (p := ⟨b, o, none⟩) hl).trans h.c0, (hb.cell (p := ⟨b, o + 1, none⟩) hl).trans h.c1, (hb.cell (p := ⟨b, o + 2, none⟩) hl).trans h.c2, (hb.cell (p := ⟨b, o + 3, none⟩) hl).trans h.c3, (hb.cell (p := ⟨b, o + 4, none⟩) hl).trans h.c4, (hb.cell (p := ⟨b, o + 5, none⟩) hl).trans h.c5, (hb.cell (p := ⟨b, o + 6, none⟩) hl).trans h.c6, (hb.cell (p := ⟨b, o + 7, none⟩) hl).trans h.c7, (hb.cell (p := ⟨b, o + 8, none⟩) hl).trans h.c8, (hb.cell (p := ⟨b, o + 9, none⟩) hl).trans h.c9⟩
structure ClAt (w : World) (x : Cl) : Prop where
  row : RowAt w (.slice x.aa x.an x.ac) x.ats
  sz : SizedR x.ats
  tz : x.s.size ≤ 140737488355328
  n : PlAt w x.n
theorem ClAt.below {w w' : World} {x : Cl} (h : ClAt w x) (hb : Below w.heap.size w w') : ClAt w' x := ⟨h.row.below hb, h.sz, h.tz, h.n.stay hb⟩
/-- The slice reads as these calls. -/
def ClsAt (w : World) (v : Value) (l : List Cl) : Prop :=
  (∃ a c, v = .slice a 0 c ∧ l = []) ∨ ∃ b o c, v = .slice (some ⟨b, o, none⟩) l.length c ∧ l.length ≤ maxLen ∧ ∀ (j : Nat) (x : Cl), l[j]? = some x → ClCells w b (o + j * 10) x ∧ ClAt w x
theorem ClsAt.len {w : World} {v : Value} {l : List Cl} (h : ClsAt w v l) : ∃ a c, v = .slice a l.length c := by
  rcases h with ⟨a, c, rfl, rfl⟩ | ⟨b, o, c, rfl, _⟩
  · exact ⟨a, c, rfl⟩
  · exact ⟨_, c, rfl⟩
theorem ClsAt.below {w w' : World} {v : Value} {l : List Cl} (h : ClsAt w v l) (hb : Below w.heap.size w w') : ClsAt w' v l := by
  rcases h with h | ⟨b, o, c, h1, h2, h3⟩
  · exact .inl h
  · exact .inr ⟨b, o, c, h1, h2, fun j x hj => ⟨(h3 j x hj).1.below hb, (h3 j x hj).2.below hb⟩⟩

def heavyL : List Cl → Int → Bool
  | [], left => decide (left < 0)
  | x :: r, left => if left < 0 then true else if 20000 < x.s.size ∨ 200 < x.an then true else heavyL r (weighP x.n (left - (x.an : Int) - ((x.s.size / 64 : Nat) : Int)))
def heavyP (l : List Cl) : Bool := if 200 < l.length then true else heavyL l 4000

set_option maxRecDepth 20000 in
set_option maxHeartbeats 8000000 in
theorem heavy_any (w : World) (v : Value) (l : List Cl) (hv : ClsAt w v l) :
    Calls Tryd.prog 41 #[v] w fun e w' => e = .returned (.bool (heavyP l)) ∧ Below w.heap.size w w' := by
  obtain ⟨a0, c0, rfl⟩ := hv.len
  have HV := Lib.hid hv
  obtain ⟨R, hR⟩ : ∃ R, heavyP l = R := ⟨_, rfl⟩
  rw [hR]
  unfold heavyP at hR
  obtain ⟨n, hn⟩ : ∃ n, l.length = n := ⟨_, rfl⟩
  rw [hn] at hR ⊢
  have HN := Lib.hid hn
  clear hv hn
  by_cases h2 : 200 < n
  · have e1 : (200 : Int) < (n : Int) := by omega
    rw [if_pos h2] at hR
    subst hR
    go_enter Tryd.func41, Tryd.ntmps41
    go_wp2
    go_ret
    exact ⟨rfl, Below.refl _ _⟩
  · have e1 : ¬ (200 : Int) < (n : Int) := by omega
    rw [if_neg h2] at hR
    have H0 := Lib.hid hR
    clear hR
    go_enter Tryd.func41, Tryd.ntmps41
    go_wp2
    go_loopw [3, 4] (fun v3 i wr => ∃ (k : Nat) (lf : Int), k ≤ n ∧ i = .int .i64 k ∧ v3 = .int .i64 lf ∧ -2000 ≤ lf ∧ lf ≤ 4000 ∧ Hid (Below w.heap.size w wr) ∧ Hid (heavyL (l.drop k) lf = R)) (fun _ i _ => n - (RowKit.intOf i).toNat)
    case atStart => exact ⟨0, 4000, Nat.zero_le _, rfl, rfl, by omega, by omega, Lib.hid (Below.refl _ _), Lib.hid (by rw [List.drop_zero]; exact H0.out)⟩
    case round =>
      obtain ⟨k, lf, hk, rfl, rfl, hlf1, hlf2, HB, HE⟩ := hrel
      by_cases hlt : k < n
      · have hkl : k < l.length := by rw [HN.out]; exact hlt
        have hkI : (k : Int) < (n : Int) := by omega
        have hd : l.drop k = l[k] :: l.drop (k + 1) := List.drop_eq_getElem_cons hkl
        have he := HE.out
        rw [hd, heavyL] at he
        by_cases hneg : lf < 0
        · rw [if_pos hneg] at he
          subst he
          have hn1 : ¬ 0 ≤ lf := by omega
          have hn2 : decide (0 ≤ lf) = false := decide_eq_false hn1
          have hn3 : decide (lf < 0) = true := decide_eq_true hneg
          clear hd HE hkl
          go_wp2
          go_ret
          exact ⟨rfl, HB.out⟩
        · rw [if_neg hneg] at he
          have hn1 : 0 ≤ lf := by omega
          have hn2 : decide (0 ≤ lf) = true := decide_eq_true hn1
          have hget : l[k]? = some l[k] := List.getElem?_eq_getElem hkl
          obtain ⟨x, hx⟩ : ∃ x, l[k] = x := ⟨_, rfl⟩
          rw [hx] at he hget
          rcases HV.out with ⟨_, _, _, e⟩ | ⟨b, o, cc, ev, _, hc⟩
          · rw [e] at hkl; simp at hkl
          · obtain ⟨rfl, _, rfl⟩ := Value.slice.inj ev
            obtain ⟨hcl, hat⟩ := hc k x hget
            have hcl2 := hcl.below HB.out
            have hat2 := hat.below HB.out
            obtain ⟨_, _, _, _, q4, q5, q6, q7, q8, q9⟩ := hcl2
            have ptz := hat2.tz
            have cO := fun (w1 : World) (hb : Below wr.heap.size wr w1) (lf2 : Int) (b1 : -1000 ≤ lf2) (b2 : lf2 ≤ 4000) => weigh_any (sizeP x.n) x.n (Nat.le_refl _) w1 lf2 (hat2.n.stay hb) b1 b2
            have hv : x.n.v = .agg #[.int .i64 x.n.tag, .slice x.n.aa x.n.an x.n.ac, .string x.n.tx, .slice x.n.ka x.n.kn x.n.kc] := rfl
            rw [hv] at cO
            obtain ⟨s, hs⟩ : ∃ s, x.s = s := ⟨_, rfl⟩
            obtain ⟨aa, haa⟩ : ∃ z, x.aa = z := ⟨_, rfl⟩
            obtain ⟨an, han⟩ : ∃ z, x.an = z := ⟨_, rfl⟩
            obtain ⟨ac, hac⟩ : ∃ z, x.ac = z := ⟨_, rfl⟩
            rw [hs] at q4 ptz he
            rw [haa, han, hac] at q5
            rw [han] at he
            clear hcl hat hat2 hd HE hkl hget hx hc ev hv hs haa han hac
            by_cases ht : 20000 < s.size
            · have e2 : (20000 : Int) < (s.size : Int) := by omega
              rw [if_pos (.inl ht)] at he
              subst he
              clear cO
              go_wp2
              go_ret
              exact ⟨rfl, HB.out⟩
            · have e2 : ¬ (20000 : Int) < (s.size : Int) := by omega
              by_cases ha : 200 < an
              · have e3 : (200 : Int) < (an : Int) := by omega
                rw [if_pos (.inr ha)] at he
                subst he
                clear cO
                go_wp2
                go_ret
                exact ⟨rfl, HB.out⟩
              · have e3 : ¬ (200 : Int) < (an : Int) := by omega
                rw [if_neg (by omega)] at he
                obtain ⟨q, hq⟩ : ∃ q, s.size / 64 = q := ⟨_, rfl⟩
                rw [hq] at he
                have hqd : Int.tdiv (s.size : Int) 64 = (q : Int) := by rw [← hq]; exact (Int.ofNat_tdiv s.size 64).symm
                have hq2 : q ≤ 313 := by omega
                have hwq : IntKind.i64.wrap (q : Int) = (q : Int) := IntWalk.i64_in _ (by omega)
                have hw2 : IntKind.i64.wrap (lf - (an : Int)) = lf - (an : Int) := IntWalk.i64_in _ (by omega)
                have hw3 : IntKind.i64.wrap (lf - (an : Int) - (q : Int)) = lf - (an : Int) - (q : Int) := IntWalk.i64_in _ (by omega)
                have hbd := weighP_bd x.n (lf - (an : Int) - (q : Int)) (by omega) (by omega)
                have cO2 := fun (w1 : World) (hb : Below wr.heap.size wr w1) => cO w1 hb (lf - (an : Int) - (q : Int)) (by omega) (by omega)
                obtain ⟨lf2, hlf⟩ : ∃ z, weighP x.n (lf - (an : Int) - (q : Int)) = z := ⟨_, rfl⟩
                rw [hlf] at he cO2 hbd
                have HX := Lib.hid he
                have hbl : b < wr.heap.size := lt_of_cell' q4
                have hS : (wr.cell? ⟨b, o + k * 10 + 4, none⟩ = some (.string s) ∧ wr.cell? ⟨b, o + k * 10 + 5, none⟩ = some (.slice aa an ac) ∧ wr.cell? ⟨b, o + k * 10 + 6, none⟩ = some (.int .i64 x.n.tag) ∧ wr.cell? ⟨b, o + k * 10 + 7, none⟩ = some (.slice x.n.aa x.n.an x.n.ac) ∧ wr.cell? ⟨b, o + k * 10 + 8, none⟩ = some (.string x.n.tx) ∧ wr.cell? ⟨b, o + k * 10 + 9, none⟩ = some (.slice x.n.ka x.n.kn x.n.kc)) := ⟨q4, q5, q6, q7, q8, q9⟩
                have KS : Hid (∀ W', Below wr.heap.size wr W' → (W'.cell? ⟨b, o + k * 10 + 4, none⟩ = some (.string s) ∧ W'.cell? ⟨b, o + k * 10 + 5, none⟩ = some (.slice aa an ac) ∧ W'.cell? ⟨b, o + k * 10 + 6, none⟩ = some (.int .i64 x.n.tag) ∧ W'.cell? ⟨b, o + k * 10 + 7, none⟩ = some (.slice x.n.aa x.n.an x.n.ac) ∧ W'.cell? ⟨b, o + k * 10 + 8, none⟩ = some (.string x.n.tx) ∧ W'.cell? ⟨b, o + k * 10 + 9, none⟩ = some (.slice x.n.ka x.n.kn x.n.kc))) := Lib.hid (fun W' h => ⟨(h.cell hbl).trans q4, (h.cell hbl).trans q5, (h.cell hbl).trans q6, (h.cell hbl).trans q7, (h.cell hbl).trans q8, (h.cell hbl).trans q9⟩)
                have hb : Hid (Below wr.heap.size wr wr) := Lib.hid (Below.refl _ _)
                have hsz := HB.out.size
                clear cO hlf he hq
                go_upto_region 9 with (fail)
                go_region_held3 (fun W' => (W'.cell? ⟨b, o + k * 10 + 4, none⟩ = some (.string s) ∧ W'.cell? ⟨b, o + k * 10 + 5, none⟩ = some (.slice aa an ac) ∧ W'.cell? ⟨b, o + k * 10 + 6, none⟩ = some (.int .i64 x.n.tag) ∧ W'.cell? ⟨b, o + k * 10 + 7, none⟩ = some (.slice x.n.aa x.n.an x.n.ac) ∧ W'.cell? ⟨b, o + k * 10 + 8, none⟩ = some (.string x.n.tx) ∧ W'.cell? ⟨b, o + k * 10 + 9, none⟩ = some (.slice x.n.ka x.n.kn x.n.kc))) (first | (with_reducible exact hS) | (refine KS.out _ ?_; (repeat (first | (with_reducible exact hb.out) | (with_reducible exact Below.refl _ _) | (with_reducible refine Below.drew ?_) | (with_reducible refine Below.alloc ?_ ?_ _) | omega | (simp <;> omega))); done)) (first
                  | (go_at_call 53; ((with_reducible refine (cO2 _ (show Below wr.heap.size wr _ by (repeat (first | (with_reducible exact hb.out) | (with_reducible exact Below.refl _ _) | (with_reducible refine Below.drew ?_) | (with_reducible refine Below.alloc ?_ ?_ _) | omega | (simp <;> omega))))).mono ?_); rintro e w5 ⟨rfl, b5⟩; have hd2 := Lib.hid ((show Below wr.heap.size wr _ by (repeat (first | (with_reducible exact hb.out) | (with_reducible exact Below.refl _ _) | (with_reducible refine Below.drew ?_) | (with_reducible refine Below.alloc ?_ ?_ _) | omega | (simp <;> omega)))).trans (b5.mono (by first | exact hb.out.size | (simp; exact hb.out.size) | (simp; omega)))); clear hb b5; have hb := hd2; clear hd2; replace hS := KS.out _ hb.out)))
                all_goals go_wp2
                all_goals go_roundw
                case rel => exact ⟨k + 1, lf2, hlt, by go_num, rfl, hbd.1, hbd.2, Lib.hid (HB.out.trans (hb.out.mono hsz)), HX⟩
                case measure => simp [RowKit.intOf]; omega
      · have hkn : k = n := by omega
        subst hkn
        have hd : l.drop k = [] := List.drop_of_length_le (by rw [HN.out]; exact Nat.le_refl _)
        have he := HE.out
        rw [hd, heavyL] at he
        subst he
        clear hd HE
        go_wp2
        go_ret
        exact ⟨rfl, HB.out⟩

end Go.Proofs.YtggjoefhopoggaaDoor
