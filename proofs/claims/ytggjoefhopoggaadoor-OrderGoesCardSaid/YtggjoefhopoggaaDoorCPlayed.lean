/-
  Played: a tree behind calls.
-/
import Derived.Test.YtggjoefhopoggaaDoorCPlay

namespace Go.Proofs.YtggjoefhopoggaaDoor
open Go.RowKit Go.Lib

set_option maxRecDepth 20000 in
set_option maxHeartbeats 8000000 in
theorem played_any (w : World) (hT : OwnT w) (c d : Int) (v : Value) (l : List Cl) (hv : ClsAt w v l) (hh : heavyP l = false) :
    Calls Tryd.prog 42 #[.int .i64 c, .int .i64 d, v] w fun e w' => (e = .returned (.pointer none) ∧ Below w.heap.size w w') ∨ ∃ p, e = .returned (.pointer (some ⟨p, 0, none⟩)) ∧ 0 ≤ d ∧ d ≤ 40 ∧ 1 ≤ c ∧ c ≤ 2000 ∧ StP w.heap.size w d c.toNat p w' := by
  obtain ⟨a0, c0, rfl⟩ := hv.len
  by_cases hok : 1 ≤ c ∧ c ≤ 2000 ∧ 0 ≤ d ∧ d ≤ 40
  · obtain ⟨h1, h2, h3, h4⟩ := hok
    have cN := new_ok w c d h1 h2 h3 h4
    obtain ⟨hl2, hall⟩ := heavy_no hh
    have HV := Lib.hid hv
    have HALL := Lib.hid hall
    have HT := Lib.hid hT
    obtain ⟨n, hn⟩ : ∃ n, l.length = n := ⟨_, rfl⟩
    rw [hn] at hl2 ⊢
    have HN := Lib.hid hn
    have HD := Lib.hid (And.intro h3 h4)
    have HFin : Hid (∀ p w', StP w.heap.size w d c.toNat p w' → ((Ending.returned (.pointer (some ⟨p, 0, none⟩)) = .returned (.pointer none) ∧ Below w.heap.size w w') ∨ ∃ p_1, Ending.returned (.pointer (some ⟨p, 0, none⟩)) = .returned (.pointer (some ⟨p_1, 0, none⟩)) ∧ 0 ≤ d ∧ d ≤ 40 ∧ 1 ≤ c ∧ c ≤ 2000 ∧ StP w.heap.size w d c.toNat p_1 w')) := Lib.hid (fun p w' h => .inr ⟨p, rfl, h3, h4, h1, h2, h⟩)
    clear hv hall hT hn hh h1 h2 h3 h4
    go_enter Tryd.func42, Tryd.ntmps42
    go_wp2_with (go_at_call 45; ((with_reducible refine (cN).mono ?_); rintro e w1 ⟨p, rfl, hb1, hTr⟩; have H0 := Lib.hid (show StP w.heap.size w d c.toNat p w1 from ⟨hb1, hTr⟩); clear hb1 hTr))
    go_loopw [7, 9, 10] (fun pv i _ wr => ∃ (k p : Nat), k ≤ n ∧ i = .int .i64 k ∧ pv = .pointer (some ⟨p, 0, none⟩) ∧ Hid (StP w.heap.size w d c.toNat p wr)) (fun _ i _ _ => n - (RowKit.intOf i).toNat)
    case atStart => exact ⟨0, p, Nat.zero_le _, rfl, rfl, H0⟩
    case round =>
      obtain ⟨k, p, hk, rfl, rfl, HA⟩ := hrel
      by_cases hlt : k < n
      · have hkl : k < l.length := by rw [HN.out]; exact hlt
        have hkI : (k : Int) < (n : Int) := by omega
        obtain ⟨x, hget⟩ : ∃ x, l[k]? = some x := ⟨_, List.getElem?_eq_getElem hkl⟩
        obtain ⟨g1, g2, g3, g4⟩ := HALL.out x (List.mem_of_getElem? hget)
        rcases HV.out with ⟨_, _, _, e⟩ | ⟨b, o, cc, ev, _, hc⟩
        · rw [e] at hkl; simp at hkl
        · obtain ⟨rfl, _, rfl⟩ := Value.slice.inj ev
          obtain ⟨hcl, hat⟩ := hc k x hget
          have hcl2 := hcl.below HA.out.1
          have hat2 := hat.below HA.out.1
          obtain ⟨q0, q1, q2, q3, q4, q5, q6, q7, q8, q9⟩ := hcl2
          have hTr : OwnT wr := HT.out.below HA.out.1
          have hlen : x.an = x.ats.length := by obtain ⟨a, c, e⟩ := hat.row.len; exact (Value.slice.inj e).2.1
          obtain ⟨d0, d1⟩ := HD.out
          have cTx := fun (W : World) (hb : Below wr.heap.size wr W) => st_text w.heap.size w d c.toNat p wr W HA.out hb d0 x.s
          have cIn := fun (W : World) (hb : Below wr.heap.size wr W) => st_insert w.heap.size w d c.toNat p wr W HA.out hb d1 x.a x.b x.c
          have cRm := fun (W : World) (hb : Below wr.heap.size wr W) => st_remove w.heap.size w d c.toNat p wr W HA.out hb x.a
          have cDr := fun (W : World) (hb : Below wr.heap.size wr W) => st_drop w.heap.size w d c.toNat p wr W HA.out hb d1 x.a
          have cEl := fun (W : World) (hb : Below wr.heap.size wr W) => st_element w.heap.size w d c.toNat p wr W HA.out hb d0 (hTr.below hb) x.a (.slice x.aa x.an x.ac) x.ats (hat2.row.below hb) (by omega) hat.sz
          have cGr := fun (W : World) (hb : Below wr.heap.size wr W) => st_graft w.heap.size w d c.toNat p wr W HA.out hb d0 d1 rfl (hTr.below hb) x.n hat.n g3 (by omega) x.a x.b
          have cCp := fun (W : World) (hb : Below wr.heap.size wr W) => st_copy w.heap.size w d c.toNat p wr W HA.out hb rfl
          have cSA := fun (W : World) (q : Nat) (hb : Below wr.heap.size wr W) (hq0 : wr.heap.size ≤ q) (hq : q < W.heap.size) => st_set w.heap.size w d c.toNat p wr W HA.out hb HT.out rfl q hq0 hq x.a x.b x.s (.slice x.aa x.an x.ac) x.ats (hat2.row.below hb) (by omega) hat.sz
          have hv : x.n.v = .agg #[.int .i64 x.n.tag, .slice x.n.aa x.n.an x.n.ac, .string x.n.tx, .slice x.n.ka x.n.kn x.n.kc] := rfl
          rw [hv] at cGr
          obtain ⟨what, E0⟩ : ∃ z, x.what = z := ⟨_, rfl⟩
          obtain ⟨xa, E1⟩ : ∃ z, x.a = z := ⟨_, rfl⟩
          obtain ⟨xb, E2⟩ : ∃ z, x.b = z := ⟨_, rfl⟩
          obtain ⟨xc, E3⟩ : ∃ z, x.c = z := ⟨_, rfl⟩
          obtain ⟨xs, E4⟩ : ∃ z, x.s = z := ⟨_, rfl⟩
          obtain ⟨xaa, E5⟩ : ∃ z, x.aa = z := ⟨_, rfl⟩
          obtain ⟨xan, E6⟩ : ∃ z, x.an = z := ⟨_, rfl⟩
          obtain ⟨xac, E7⟩ : ∃ z, x.ac = z := ⟨_, rfl⟩
          simp only [E0, E1, E2, E3, E4, E5, E6, E7] at q0 q1 q2 q3 q4 q5 cTx cIn cRm cDr cEl cGr cSA
          have HX : Hid (True) := Lib.hid trivial
          clear E0 E1 E2 E3 E4 E5 E6 E7 hcl hat hat2 hTr hlen hc ev hget hkl hv g1 g2 g3 g4 d0 d1 HA
          go_wp2_with (first
          | (go_at_call 54; ((with_reducible refine (cTx _ (by (repeat (first | (with_reducible exact Below.refl _ _) | (with_reducible refine Below.drew ?_) | (with_reducible refine Below.alloc ?_ ?_ _) | (with_reducible refine Below.setCell ?_ ?_ _) | omega | (simp <;> omega))))).mono ?_); rintro e w5 ⟨⟨v5, rfl⟩, HA5⟩))
          | (go_at_call 55; ((with_reducible refine (cIn _ (by (repeat (first | (with_reducible exact Below.refl _ _) | (with_reducible refine Below.drew ?_) | (with_reducible refine Below.alloc ?_ ?_ _) | (with_reducible refine Below.setCell ?_ ?_ _) | omega | (simp <;> omega))))).mono ?_); rintro e w5 ⟨⟨v5, rfl⟩, HA5⟩))
          | (go_at_call 56; ((with_reducible refine (cRm _ (by (repeat (first | (with_reducible exact Below.refl _ _) | (with_reducible refine Below.drew ?_) | (with_reducible refine Below.alloc ?_ ?_ _) | (with_reducible refine Below.setCell ?_ ?_ _) | omega | (simp <;> omega))))).mono ?_); rintro e w5 ⟨⟨v5, rfl⟩, HA5⟩))
          | (go_at_call 57; ((with_reducible refine (cDr _ (by (repeat (first | (with_reducible exact Below.refl _ _) | (with_reducible refine Below.drew ?_) | (with_reducible refine Below.alloc ?_ ?_ _) | (with_reducible refine Below.setCell ?_ ?_ _) | omega | (simp <;> omega))))).mono ?_); rintro e w5 ⟨⟨v5, rfl⟩, HA5⟩))
          | (go_at_call 62; ((with_reducible refine (cEl _ (by (repeat (first | (with_reducible exact Below.refl _ _) | (with_reducible refine Below.drew ?_) | (with_reducible refine Below.alloc ?_ ?_ _) | (with_reducible refine Below.setCell ?_ ?_ _) | omega | (simp <;> omega))))).mono ?_); rintro e w5 ⟨⟨v5, rfl⟩, HA5⟩))
          | (go_at_call 46; ((with_reducible refine (cGr _ (by (repeat (first | (with_reducible exact Below.refl _ _) | (with_reducible refine Below.drew ?_) | (with_reducible refine Below.alloc ?_ ?_ _) | (with_reducible refine Below.setCell ?_ ?_ _) | omega | (simp <;> omega))))).mono ?_); rintro e w5 ⟨⟨v5, rfl⟩, HA5⟩))
          | (go_at_call 61; ((with_reducible refine (cCp _ (by (repeat (first | (with_reducible exact Below.refl _ _) | (with_reducible refine Below.drew ?_) | (with_reducible refine Below.alloc ?_ ?_ _) | (with_reducible refine Below.setCell ?_ ?_ _) | omega | (simp <;> omega))))).mono ?_); rintro e w5 ⟨p5, rfl, HA5⟩))
          | (go_at_call 58; ((with_reducible refine (cSA _ wr.heap.size (by (repeat (first | (with_reducible exact Below.refl _ _) | (with_reducible refine Below.drew ?_) | (with_reducible refine Below.alloc ?_ ?_ _) | (with_reducible refine Below.setCell ?_ ?_ _) | omega | (simp <;> omega)))) (Nat.le_refl _) (by simp)).mono ?_); rintro e w3 ⟨⟨v3, rfl⟩, hq3, cS3⟩; have z1 : w3.cell? ⟨wr.heap.size, 1, none⟩ = some (.int .i64 xa) := (World.cell?_of_block hq3).trans (by simp [go_sem]); have z2 : w3.cell? ⟨wr.heap.size, 2, none⟩ = some (.int .i64 xb) := (World.cell?_of_block hq3).trans (by simp [go_sem]); have z4 : w3.cell? ⟨wr.heap.size, 4, none⟩ = some (.string xs) := (World.cell?_of_block hq3).trans (by simp [go_sem])))
          | (go_at_call 59; ((with_reducible refine (cS3).mono ?_); rintro e w4 ⟨⟨v4, rfl⟩, hq4, cS4⟩; have t1 : w4.cell? ⟨wr.heap.size, 1, none⟩ = some (.int .i64 xa) := (World.cell?_of_block hq4).trans z1; have t2 : w4.cell? ⟨wr.heap.size, 2, none⟩ = some (.int .i64 xb) := (World.cell?_of_block hq4).trans z2))
          | (go_at_call 60; ((with_reducible refine (cS4).mono ?_); rintro e w5 ⟨⟨v5, rfl⟩, HA5⟩)))
          all_goals go_roundw
          all_goals first
            | exact ⟨k + 1, _, hlt, by go_num, rfl, HA5⟩
            | (simp [RowKit.intOf]; omega)
      · have hkn : k = n := by omega
        subst hkn
        have HF := Lib.hid (HFin.out p wr HA.out)
        go_wp2
        go_ret
        exact HF.out
  · have cN := new_bad w c d hok
    clear hok hv hh hT
    go_enter Tryd.func42, Tryd.ntmps42
    go_wp2_with (go_at_call 45; ((with_reducible refine (cN).mono ?_); rintro e w1 ⟨rfl, rfl⟩))
    go_ret
    exact .inl ⟨rfl, Below.refl _ _⟩

end Go.Proofs.YtggjoefhopoggaaDoor
