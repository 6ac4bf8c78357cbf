/-
  The law DocBack.
-/
import Derived.Test.YtehjfcefkiglaaaGreatDoorCLLong
import Derived.Test.YtehjfcefkiglaaaGreatDoorCPureI
import Derived.Test.YtehjfcefkiglaaaGreatDoorCDocD
import Derived.Deep.RegionHeld3
import Derived.Deep.DeepCutAuto

namespace Go.Proofs.YtehjfcefkiglaaaGreatDoor
open Go.RowKit Go.Lib

theorem bk_own_apart {w : World} {B D n m : Nat} {v u : Value} {xs ys : List Value} (h1 : w.ownsRow B 3 1 v n xs) (h2 : w.ownsRow D 66 3 u m ys) (g : Nat) (e1 : v.ownBlock = some g) : u.ownBlock ≠ some g := by
  intro e2
  rcases h1.2 with ⟨rfl, _⟩ | ⟨g1, _, cur1, rfl, _, hg1, _⟩
  · simp [Value.ownBlock] at e1
  · rcases h2.2 with ⟨rfl, _⟩ | ⟨g2, _, cur2, rfl, _, hg2, _⟩
    · simp [Value.ownBlock] at e2
    · have k1 : g1 = g := by simpa [Value.ownBlock] using e1
      have k2 : g2 = g := by simpa [Value.ownBlock] using e2
      subst k1
      subst k2
      rw [hg1] at hg2
      have := (Obj.cells.inj (Option.some.inj hg2)).2.1
      exact absurd this (by decide)
theorem bk_own_grown {w w' : World} {row : Option Nat} {B e size n : Nat} {v : Value} {xs : List Value} (hg : w.grownBy w' row) (h : w.ownsRow B e size v n xs) (hne : ∀ g, row = some g → v.ownBlock ≠ some g) : w'.ownsRow B e size v n xs := by
  refine ⟨h.1, ?_⟩
  rcases h.2 with h2 | ⟨g, cap, cur, hv, hb, hc, hrest⟩
  · exact .inl h2
  · subst hv
    refine .inr ⟨g, cap, cur, rfl, hb, (hg.block g (Array.getElem?_eq_some_iff.1 hc).1 ?_).trans hc, hrest⟩
    intro e
    exact hne g e.symm rfl
theorem bk_own_ne {w : World} {B e size n r : Nat} {v : Value} {xs : List Value} (h : w.ownsRow B e size v n xs) (hr : r < B) : v.ownBlock ≠ some r := by
  rcases h.2 with ⟨rfl, _⟩ | ⟨g, cap, cur, rfl, hB, _⟩
  · simp [Value.ownBlock]
  · intro e
    have : g = r := by simpa [Value.ownBlock] using e
    omega
theorem bk_own_apart2 {w : World} {B D n m : Nat} {v u : Value} {xs ys : List Value} (h1 : w.ownsRow B 3 1 v n xs) (h2 : w.ownsRow D 66 3 u m ys) (g : Nat) (e2 : u.ownBlock = some g) : v.ownBlock ≠ some g := fun e1 => bk_own_apart h1 h2 g e1 e2
theorem bk_set3 {w : World} {b : Nat} {q k : Int} {s c u : Value} (_lt : b < w.heap.size) (h0 : w.cell? ⟨b, 0, none⟩ = some (.int .i64 q)) (h1 : w.cell? ⟨b, 1, none⟩ = some s) (h2 : w.cell? ⟨b, 2, none⟩ = some (.int .i64 k)) (h3 : w.cell? ⟨b, 3, none⟩ = some c) :
    (w.setCell ⟨b, 3, none⟩ u).cell? ⟨b, 0, none⟩ = some (.int .i64 q) ∧ (w.setCell ⟨b, 3, none⟩ u).cell? ⟨b, 1, none⟩ = some s ∧ (w.setCell ⟨b, 3, none⟩ u).cell? ⟨b, 2, none⟩ = some (.int .i64 k) ∧ (w.setCell ⟨b, 3, none⟩ u).cell? ⟨b, 3, none⟩ = some u := by
  refine ⟨?_, ?_, ?_, ?_⟩ <;> simp [go_sem, *]

set_option maxRecDepth 40000 in
set_option maxHeartbeats 64000000 in
theorem lawBack_early (v u : Value) (l : List Lw) (m : Row) (p1 p2 q1 q2 : Int) (w : World) (hE : Tg.Env w) (h : DocAt w v l) (hs0 : SizedD l) (hu : RowAt w u m) (hsm : Sized m) (hml0 : m.length ≤ 140737488355328) (hx : longD (pl l) = true ∨ longD (pl l) = false ∧ (longD [⟨0, [], 0, m⟩] = true ∨ longD [⟨0, [], 0, m⟩] = false ∧ (mayD (pl l) = false ∨ mayD (pl l) = true ∧ (isD (pl l) (p1, p2) = false ∨ isD (pl l) (p1, p2) = true ∧ (isD (pl l) (q1, q2) = false ∨ isD (pl l) (q1, q2) = true ∧ 0 < cmpP (p1, p2) (q1, q2)))))) :
    Calls Tryz.prog 7 #[v, .agg #[.int .i64 p1, .int .i64 p2], .agg #[.int .i64 q1, .int .i64 q2], u] w fun e w' => e = .returned (.bool true) ∧ Below w.heap.size w w' := by
  obtain ⟨a, c, rfl⟩ := h.s.len
  obtain ⟨ua, uc, rfl⟩ := hu.len
  have cW : ∀ w1, Below w.heap.size w w1 → _ := fun w1 h1 => awake_any w1 (hE.below h1)
  have cL : ∀ w1, Below w.heap.size w w1 → _ := fun w1 h1 => llong_any _ l w1 (h.below h1) hs0
  have cM : ∀ w1, Below w.heap.size w w1 → Calls Tryz.prog 10 #[.slice (some ⟨w1.heap.size, 0, none⟩) 1 1] (w1.alloc (.cells #[.int .i64 0, .slice none 0 0, .int .i64 0, .slice ua m.length uc] 46)) fun e w' => e = .returned (.bool (longD [⟨0, [], 0, m⟩])) ∧ Below (w1.alloc (.cells #[.int .i64 0, .slice none 0 0, .int .i64 0, .slice ua m.length uc] 46)).heap.size (w1.alloc (.cells #[.int .i64 0, .slice none 0 0, .int .i64 0, .slice ua m.length uc] 46)) w' := fun w1 h1 => llong_any _ [⟨none, 0, ua, uc, ⟨0, [], 0, m⟩⟩] _ ⟨one_line w1 ⟨none, 0, ua, uc, ⟨0, [], 0, m⟩⟩, fun x hx => by
    obtain rfl := List.mem_singleton.1 hx
    exact ⟨.inl ⟨none, 0, rfl, fun _ => rfl, by decide, rfl⟩, (hu.below h1).below (below_alloc1 _ _)⟩⟩ (fun x hx => by
    obtain rfl := List.mem_singleton.1 hx
    exact ⟨Nat.zero_le _, hml0, hsm⟩)
  have hb : Hid (Below w.heap.size w w) := Lib.hid (Below.refl _ _)
  have X5 := Lib.hid ((ps_new w p1 p2).below (below_alloc1 _ (.cells #[.int .i64 q1, .int .i64 q2] 24)))
  have X6 := Lib.hid (ps_new (w.alloc (.cells #[.int .i64 p1, .int .i64 p2] 24)) q1 q2)
  rw [show (w.alloc (.cells #[.int .i64 p1, .int .i64 p2] 24)).heap.size = w.heap.size + 1 by simp] at X6
  rcases hx with hl | ⟨hl, hx⟩
  · rw [hl] at cL
    clear h hs0 hE hl hu hsm hml0 cM
    go_enter Tryz.func7, Tryz.ntmps7
    go_wp2_with (first
      | (go_at_call 10; ((with_reducible refine (cL _ ?hb).mono ?_); (case hb => (repeat (first | (with_reducible exact hb.out) | (with_reducible exact Below.refl _ _) | (with_reducible refine Below.drew ?_) | (with_reducible refine Below.alloc ?_ ?_ _) | omega | (simp <;> omega)))); rintro e w1 ⟨rfl, hk⟩; have hd := Lib.hid ((show Below w.heap.size w _ by (repeat (first | (with_reducible exact hb.out) | (with_reducible exact Below.refl _ _) | (with_reducible refine Below.drew ?_) | (with_reducible refine Below.alloc ?_ ?_ _) | omega | (simp <;> omega)))).trans (hk.mono (by (first | omega | (simp; done) | (simp; omega))))); clear hb; have hb := hd; (try clear hs); have hs := hb.out.size; clear hd hk))
      | (go_at_call 11; ((with_reducible refine (cW _ ?hb).mono ?_); (case hb => (repeat (first | (with_reducible exact hb.out) | (with_reducible exact Below.refl _ _) | (with_reducible refine Below.drew ?_) | (with_reducible refine Below.alloc ?_ ?_ _) | omega | (simp <;> omega)))); rintro e w1 ⟨rfl, hk⟩; have hd := Lib.hid ((show Below w.heap.size w _ by (repeat (first | (with_reducible exact hb.out) | (with_reducible exact Below.refl _ _) | (with_reducible refine Below.drew ?_) | (with_reducible refine Below.alloc ?_ ?_ _) | omega | (simp <;> omega)))).trans (hk.mono (by (first | omega | (simp; done) | (simp; omega))))); clear hb; have hb := hd; (try clear hs); have hs := hb.out.size; clear hd hk)))
    all_goals go_ret
    all_goals exact ⟨rfl, hb.out⟩
  rw [hl] at cL
  obtain ⟨hf, _, _⟩ := longD_false hl
  have cMay : ∀ w1, Below w.heap.size w w1 → _ := fun w1 h1 => dmay_any _ l w1 (h.below h1) hf (hE.below h1)
  have cIa : ∀ w1, Below w.heap.size w w1 → _ := fun w1 h1 => dis_any _ l p1 p2 w1 (h.s.below h1) hf.len hf.cnt
  have cIb : ∀ w1, Below w.heap.size w w1 → _ := fun w1 h1 => dis_any _ l q1 q2 w1 (h.s.below h1) hf.len hf.cnt
  have cK : ∀ w1, Below w.heap.size w w1 → _ := fun w1 _ => dcmp_any p1 p2 q1 q2 w1
  unfold psV at cIa cIb cK
  dsimp only at cIa cIb cK
  obtain ⟨n, hn⟩ : ∃ n, l.length = n := ⟨_, rfl⟩
  rw [hn] at cL cMay cIa cIb ⊢
  obtain ⟨ml, hmn⟩ : ∃ n, m.length = n := ⟨_, rfl⟩
  rw [hmn] at cM ⊢
  obtain ⟨Lm, hLm⟩ : ∃ M, longD [⟨0, [], 0, m⟩] = M := ⟨_, rfl⟩
  obtain ⟨M, hM⟩ : ∃ M, mayD (pl l) = M := ⟨_, rfl⟩
  obtain ⟨Ia, hIa⟩ : ∃ M, isD (pl l) (p1, p2) = M := ⟨_, rfl⟩
  obtain ⟨Ib, hIb⟩ : ∃ M, isD (pl l) (q1, q2) = M := ⟨_, rfl⟩
  obtain ⟨K, hK⟩ : ∃ M, cmpP (p1, p2) (q1, q2) = M := ⟨_, rfl⟩
  rw [hLm] at cM hx
  rw [hM] at cMay hx
  rw [hIa] at cIa hx
  rw [hIb] at cIb hx
  rw [hK] at cK hx
  clear h hf hs0 hE hl hu hsm hml0 hn hmn hLm hM hIa hIb hK
  rcases hx with rfl | ⟨rfl, rfl | ⟨rfl, rfl | ⟨rfl, rfl | ⟨rfl, hx⟩⟩⟩⟩
  all_goals
    (go_enter Tryz.func7, Tryz.ntmps7
     go_wp2_with (first
      | (go_at_call 10; ((with_reducible refine (cL _ ?hb).mono ?_); (case hb => (repeat (first | (with_reducible exact hb.out) | (with_reducible exact Below.refl _ _) | (with_reducible refine Below.drew ?_) | (with_reducible refine Below.alloc ?_ ?_ _) | omega | (simp <;> omega)))); rintro e w0 ⟨rfl, hk⟩; have hd := Lib.hid ((show Below w.heap.size w _ by (repeat (first | (with_reducible exact hb.out) | (with_reducible exact Below.refl _ _) | (with_reducible refine Below.drew ?_) | (with_reducible refine Below.alloc ?_ ?_ _) | omega | (simp <;> omega)))).trans (hk.mono (by (first | omega | (simp; done) | (simp; omega))))); have H5 := Lib.hid (X5.out.below hk); have H6 := Lib.hid (X6.out.below hk); obtain ⟨_, u0, u1, _, _⟩ := H5.out; obtain ⟨_, v0, v1, _, _⟩ := H6.out; clear hb; have hb := hd; (try clear hs); have hs := hb.out.size; clear hd hk))
      | (go_at_call 10; ((with_reducible refine (cM _ ?hb).mono ?_); (case hb => (repeat (first | (with_reducible exact hb.out) | (with_reducible exact Below.refl _ _) | (with_reducible refine Below.drew ?_) | (with_reducible refine Below.alloc ?_ ?_ _) | omega | (simp <;> omega)))); rintro e w1 ⟨rfl, hk⟩; have hd := Lib.hid ((show Below w.heap.size w _ by (repeat (first | (with_reducible exact hb.out) | (with_reducible exact Below.refl _ _) | (with_reducible refine Below.drew ?_) | (with_reducible refine Below.alloc ?_ ?_ _) | omega | (simp <;> omega)))).trans (hk.mono (by (first | omega | (simp; done) | (simp; omega))))); have hal := (below_alloc1 w0 _).trans (hk.mono (by simp)); have hk5 := H5.out.below hal; have hk6 := H6.out.below hal; clear H5 H6; have H5 := Lib.hid hk5; have H6 := Lib.hid hk6; (try clear u0 u1 v0 v1); obtain ⟨_, u0, u1, _, _⟩ := H5.out; obtain ⟨_, v0, v1, _, _⟩ := H6.out; clear hk5 hk6 hal; clear hb; have hb := hd; (try clear hs); have hs := hb.out.size; clear hd hk))
      | (go_at_call 13; ((with_reducible refine (cMay _ ?hb).mono ?_); (case hb => (repeat (first | (with_reducible exact hb.out) | (with_reducible exact Below.refl _ _) | (with_reducible refine Below.drew ?_) | (with_reducible refine Below.alloc ?_ ?_ _) | omega | (simp <;> omega)))); rintro e w1 ⟨rfl, hk⟩; have hd := Lib.hid ((show Below w.heap.size w _ by (repeat (first | (with_reducible exact hb.out) | (with_reducible exact Below.refl _ _) | (with_reducible refine Below.drew ?_) | (with_reducible refine Below.alloc ?_ ?_ _) | omega | (simp <;> omega)))).trans (hk.mono (by (first | omega | (simp; done) | (simp; omega))))); have hk5 := H5.out.below hk; have hk6 := H6.out.below hk; clear H5 H6; have H5 := Lib.hid hk5; have H6 := Lib.hid hk6; (try clear u0 u1 v0 v1); obtain ⟨_, u0, u1, _, _⟩ := H5.out; obtain ⟨_, v0, v1, _, _⟩ := H6.out; clear hk5 hk6; clear hb; have hb := hd; (try clear hs); have hs := hb.out.size; clear hd hk))
      | (go_at_call 19; ((with_reducible refine (cIa _ ?hb).mono ?_); (case hb => (repeat (first | (with_reducible exact hb.out) | (with_reducible exact Below.refl _ _) | (with_reducible refine Below.drew ?_) | (with_reducible refine Below.alloc ?_ ?_ _) | omega | (simp <;> omega)))); rintro e w1 ⟨rfl, hk⟩; have hd := Lib.hid ((show Below w.heap.size w _ by (repeat (first | (with_reducible exact hb.out) | (with_reducible exact Below.refl _ _) | (with_reducible refine Below.drew ?_) | (with_reducible refine Below.alloc ?_ ?_ _) | omega | (simp <;> omega)))).trans (hk.mono (by (first | omega | (simp; done) | (simp; omega))))); have hk5 := H5.out.below hk; have hk6 := H6.out.below hk; clear H5 H6; have H5 := Lib.hid hk5; have H6 := Lib.hid hk6; (try clear u0 u1 v0 v1); obtain ⟨_, u0, u1, _, _⟩ := H5.out; obtain ⟨_, v0, v1, _, _⟩ := H6.out; clear hk5 hk6; clear hb; have hb := hd; (try clear hs); have hs := hb.out.size; clear hd hk))
      | (go_at_call 19; ((with_reducible refine (cIb _ ?hb).mono ?_); (case hb => (repeat (first | (with_reducible exact hb.out) | (with_reducible exact Below.refl _ _) | (with_reducible refine Below.drew ?_) | (with_reducible refine Below.alloc ?_ ?_ _) | omega | (simp <;> omega)))); rintro e w1 ⟨rfl, hk⟩; have hd := Lib.hid ((show Below w.heap.size w _ by (repeat (first | (with_reducible exact hb.out) | (with_reducible exact Below.refl _ _) | (with_reducible refine Below.drew ?_) | (with_reducible refine Below.alloc ?_ ?_ _) | omega | (simp <;> omega)))).trans (hk.mono (by (first | omega | (simp; done) | (simp; omega))))); have hk5 := H5.out.below hk; have hk6 := H6.out.below hk; clear H5 H6; have H5 := Lib.hid hk5; have H6 := Lib.hid hk6; (try clear u0 u1 v0 v1); obtain ⟨_, u0, u1, _, _⟩ := H5.out; obtain ⟨_, v0, v1, _, _⟩ := H6.out; clear hk5 hk6; clear hb; have hb := hd; (try clear hs); have hs := hb.out.size; clear hd hk))
      | (go_at_call 23; ((with_reducible refine (cK _ ?hb).mono ?_); (case hb => (repeat (first | (with_reducible exact hb.out) | (with_reducible exact Below.refl _ _) | (with_reducible refine Below.drew ?_) | (with_reducible refine Below.alloc ?_ ?_ _) | omega | (simp <;> omega)))); rintro e w1 ⟨rfl, hk⟩; have hd := Lib.hid ((show Below w.heap.size w _ by (repeat (first | (with_reducible exact hb.out) | (with_reducible exact Below.refl _ _) | (with_reducible refine Below.drew ?_) | (with_reducible refine Below.alloc ?_ ?_ _) | omega | (simp <;> omega)))).trans (hk.mono (by (first | omega | (simp; done) | (simp; omega))))); have hk5 := H5.out.below hk; have hk6 := H6.out.below hk; clear H5 H6; have H5 := Lib.hid hk5; have H6 := Lib.hid hk6; (try clear u0 u1 v0 v1); obtain ⟨_, u0, u1, _, _⟩ := H5.out; obtain ⟨_, v0, v1, _, _⟩ := H6.out; clear hk5 hk6; clear hb; have hb := hd; (try clear hs); have hs := hb.out.size; clear hd hk))
      | (go_at_call 11; ((with_reducible refine (cW _ ?hb).mono ?_); (case hb => (repeat (first | (with_reducible exact hb.out) | (with_reducible exact Below.refl _ _) | (with_reducible refine Below.drew ?_) | (with_reducible refine Below.alloc ?_ ?_ _) | omega | (simp <;> omega)))); rintro e w1 ⟨rfl, hk⟩; have hd := Lib.hid ((show Below w.heap.size w _ by (repeat (first | (with_reducible exact hb.out) | (with_reducible exact Below.refl _ _) | (with_reducible refine Below.drew ?_) | (with_reducible refine Below.alloc ?_ ?_ _) | omega | (simp <;> omega)))).trans (hk.mono (by (first | omega | (simp; done) | (simp; omega))))); clear hb; have hb := hd; (try clear hs); have hs := hb.out.size; clear hd hk)))
     all_goals go_ret
     all_goals exact ⟨rfl, hb.out⟩)

/-- What Insert, Split leave: a document, a place in a box, whether it went. -/
def BackR (w2 : World) (X : Doc) (T1 T2 : Int) (G : Prop) (s9 s10 s11 : Value) (wx : World) : Prop :=
  ∃ (er : Int) (b : Nat), s10 = .pointer (some ⟨b, 0, none⟩) ∧ s11 = .int .i64 er ∧ Hid (Below w2.heap.size w2 wx) ∧ ((er = 0 ∧ G ∧ (∃ rx, OwnD w2.heap.size wx s9 rx ∧ pl rx = X) ∧ PsAt wx b T1 T2) ∨ er ≠ 0)

set_option maxRecDepth 40000 in
set_option maxHeartbeats 64000000 in
theorem lawBack_walk (v u : Value) (l : List Lw) (m : Row) (p1 p2 q1 q2 : Int) (w : World) (hE : Tg.Env w) (h : DocAt w v l) (hs0 : SizedD l) (hu : RowAt w u m) (hsm : Sized m) (hml0 : m.length ≤ 140737488355328) :
    Calls Tryz.prog 7 #[v, .agg #[.int .i64 p1, .int .i64 p2], .agg #[.int .i64 q1, .int .i64 q2], u] w fun e w' => e = .returned (.bool true) ∧ Below w.heap.size w w' := by
  have hp : Tryz.prog.stoodInHeld 24 = false := by kernel_rfl
  have hS : Tryz.prog.underlying 24 = some (.struct (Tryz.prog.fieldsOf 24)) := by kernel_rfl
  have hq : ∀ (a b c d : Int) (W : World), (binOp .eql 24 (.agg #[.int .i64 a, .int .i64 b]) (.agg #[.int .i64 c, .int .i64 d])).run Tryz.prog W = .ok (.bool (decide (a = c) && decide (b = d))) W := fun a b c d W => by
    rw [run_eql_struct, show (10000 : Nat) = 9999 + 1 from rfl, run_equalIn_agg W 9999 24 _ _ hS hp]
    simp only [Program.fieldsOf, Tryz.underlying24]
    go_simp
    by_cases k1 : a = c <;> by_cases k2 : b = d <;> simp_all
  have hm : Tryz.prog.eqGuardType Tryz.prog.depth 24 = false := by kernel_rfl
  have hq2 : ∀ (a b c d : Int) (W : World), (binOp .neq 24 (.agg #[.int .i64 a, .int .i64 b]) (.agg #[.int .i64 c, .int .i64 d])).run Tryz.prog W = .ok (.bool (!(decide (a = c) && decide (b = d)))) W := fun a b c d W => by
    rw [run_neq_struct, show (10000 : Nat) = 9999 + 1 from rfl, run_equalIn_agg W 9999 24 _ _ hS hp]
    simp only [Program.fieldsOf, Tryz.underlying24]
    go_simp
    by_cases k1 : a = c <;> by_cases k2 : b = d <;> simp_all
  clear hp hS
  clear hm
  by_cases hlg : longD (pl l) = true
  · exact lawBack_early v u l m p1 p2 q1 q2 w hE h hs0 hu hsm hml0 (.inl hlg)
  have hl : longD (pl l) = false := by simpa using hlg
  by_cases hlm : longD [⟨0, [], 0, m⟩] = true
  · exact lawBack_early v u l m p1 p2 q1 q2 w hE h hs0 hu hsm hml0 (.inr ⟨hl, .inl hlm⟩)
  have hlm' : longD [⟨0, [], 0, m⟩] = false := by simpa using hlm
  by_cases hm : mayD (pl l) = true
  case neg => exact lawBack_early v u l m p1 p2 q1 q2 w hE h hs0 hu hsm hml0 (.inr ⟨hl, .inr ⟨hlm', .inl (by simpa using hm)⟩⟩)
  by_cases hia : isD (pl l) (p1, p2) = true
  case neg => exact lawBack_early v u l m p1 p2 q1 q2 w hE h hs0 hu hsm hml0 (.inr ⟨hl, .inr ⟨hlm', .inr ⟨hm, .inl (by simpa using hia)⟩⟩⟩)
  by_cases hib : isD (pl l) (q1, q2) = true
  case neg => exact lawBack_early v u l m p1 p2 q1 q2 w hE h hs0 hu hsm hml0 (.inr ⟨hl, .inr ⟨hlm', .inr ⟨hm, .inr ⟨hia, .inl (by simpa using hib)⟩⟩⟩⟩)
  by_cases hka : 0 < cmpP (p1, p2) (q1, q2)
  · exact lawBack_early v u l m p1 p2 q1 q2 w hE h hs0 hu hsm hml0 (.inr ⟨hl, .inr ⟨hlm', .inr ⟨hm, .inr ⟨hia, .inr ⟨hib, hka⟩⟩⟩⟩⟩)
  obtain ⟨fm0, sm0, _⟩ := longD_false hlm'
  have hfm : Fair m := (fm0.z _ List.mem_cons_self).2.2
  have hml : m.length ≤ 20000 := by
    have e : sizeD [⟨0, [], 0, m⟩] = m.length := by rw [sizeD_cons]; rfl
    omega
  have hak : askedD (pl l) (p1, p2) (q1, q2) = true := by unfold askedD; rw [hm, hia, hib, decide_eq_true (show cmpP (p1, p2) (q1, q2) ≤ 0 by omega)]; rfl
  obtain ⟨al, aa, bl, ba, a1, a2, sp, _⟩ := askedD_span hak
  simp only [Prod.mk.injEq] at a1 a2
  obtain ⟨rfl, rfl⟩ := a1
  obtain ⟨rfl, rfl⟩ := a2
  obtain ⟨a, c, rfl⟩ := h.s.len
  obtain ⟨ua, uc, rfl⟩ := hu.len
  have cW : ∀ w1, Below w.heap.size w w1 → _ := fun w1 h1 => awake_any w1 (hE.below h1)
  have cL : ∀ w1, Below w.heap.size w w1 → _ := fun w1 h1 => llong_any _ l w1 (h.below h1) hs0
  have cM : ∀ w1, Below w.heap.size w w1 → Calls Tryz.prog 10 #[.slice (some ⟨w1.heap.size, 0, none⟩) 1 1] (w1.alloc (.cells #[.int .i64 0, .slice none 0 0, .int .i64 0, .slice ua m.length uc] 46)) fun e w' => e = .returned (.bool (longD [⟨0, [], 0, m⟩])) ∧ Below (w1.alloc (.cells #[.int .i64 0, .slice none 0 0, .int .i64 0, .slice ua m.length uc] 46)).heap.size (w1.alloc (.cells #[.int .i64 0, .slice none 0 0, .int .i64 0, .slice ua m.length uc] 46)) w' := fun w1 h1 => llong_any _ [⟨none, 0, ua, uc, ⟨0, [], 0, m⟩⟩] _ ⟨one_line w1 ⟨none, 0, ua, uc, ⟨0, [], 0, m⟩⟩, fun x hx => by
    obtain rfl := List.mem_singleton.1 hx
    exact ⟨.inl ⟨none, 0, rfl, fun _ => rfl, by decide, rfl⟩, (hu.below h1).below (below_alloc1 _ _)⟩⟩ (fun x hx => by
    obtain rfl := List.mem_singleton.1 hx
    exact ⟨Nat.zero_le _, hml0, hsm⟩)
  have hb : Hid (Below w.heap.size w w) := Lib.hid (Below.refl _ _)
  have X5 := Lib.hid ((ps_new w (al : Int) (aa : Int)).below (below_alloc1 _ (.cells #[.int .i64 (bl : Int), .int .i64 (ba : Int)] 24)))
  have X6 := Lib.hid (ps_new (w.alloc (.cells #[.int .i64 (al : Int), .int .i64 (aa : Int)] 24)) (bl : Int) (ba : Int))
  rw [show (w.alloc (.cells #[.int .i64 (al : Int), .int .i64 (aa : Int)] 24)).heap.size = w.heap.size + 1 by simp] at X6
  rw [hl] at cL
  rw [hlm'] at cM
  obtain ⟨hf, hsz, _⟩ := longD_false hl
  have cMay : ∀ w1, Below w.heap.size w w1 → _ := fun w1 h1 => dmay_any _ l w1 (h.below h1) hf (hE.below h1)
  have cIa : ∀ w1, Below w.heap.size w w1 → _ := fun w1 h1 => dis_any _ l (al : Int) (aa : Int) w1 (h.s.below h1) hf.len hf.cnt
  have cIb : ∀ w1, Below w.heap.size w w1 → _ := fun w1 h1 => dis_any _ l (bl : Int) (ba : Int) w1 (h.s.below h1) hf.len hf.cnt
  have cK : ∀ w1, Below w.heap.size w w1 → _ := fun w1 _ => dcmp_any (al : Int) (aa : Int) (bl : Int) (ba : Int) w1
  unfold psV at cIa cIb cK
  dsimp only at cIa cIb cK
  rw [hm] at cMay
  rw [hia] at cIa
  rw [hib] at cIb
  obtain ⟨K, hK⟩ : ∃ M, cmpP ((al : Int), (aa : Int)) ((bl : Int), (ba : Int)) = M := ⟨_, rfl⟩
  rw [hK] at cK hka
  obtain ⟨n, hn⟩ : ∃ n, l.length = n := ⟨_, rfl⟩
  obtain ⟨ml, hmn⟩ : ∃ n, m.length = n := ⟨_, rfl⟩
  have HD : Hid (DocAt w (.slice a n c) l) := Lib.hid (by rw [← hn]; exact h)
  have HU : Hid (RowAt w (.slice ua ml uc) m) := Lib.hid (by rw [← hmn]; exact hu)
  rw [hn] at cL cMay cIa cIb ⊢
  rw [hmn] at cM hml ⊢
  have HE := Lib.hid hE
  have HF := Lib.hid (And.intro hf hsz)
  have HM := Lib.hid (And.intro hfm hmn)
  have HS := Lib.hid (And.intro sp (And.intro hm hn))
  have HQ := Lib.hid hq2
  clear h hs0 hE hl hlg hlm hlm' hm hia hib hK hn hmn hsm hml0 hu fm0 sm0 hfm hak sp hf hsz hq hq2
  go_enter Tryz.func7, Tryz.ntmps7
  go_upto_region 3 with (first
    | (go_at_call 10; ((with_reducible refine (cL _ ?hb).mono ?_); (case hb => (repeat (first | (with_reducible exact hb.out) | (with_reducible exact Below.refl _ _) | (with_reducible refine Below.drew ?_) | (with_reducible refine Below.alloc ?_ ?_ _) | omega | (simp <;> omega)))); rintro e w0 ⟨rfl, hk⟩; have hd := Lib.hid ((show Below w.heap.size w _ by (repeat (first | (with_reducible exact hb.out) | (with_reducible exact Below.refl _ _) | (with_reducible refine Below.drew ?_) | (with_reducible refine Below.alloc ?_ ?_ _) | omega | (simp <;> omega)))).trans (hk.mono (by (first | omega | (simp; done) | (simp; omega))))); have H5 := Lib.hid (X5.out.below hk); have H6 := Lib.hid (X6.out.below hk); obtain ⟨_, u0, u1, _, _⟩ := H5.out; obtain ⟨_, v0, v1, _, _⟩ := H6.out; clear hb; have hb := hd; (try clear hs); have hs := hb.out.size; clear hd hk))
    | (go_at_call 10; ((with_reducible refine (cM _ ?hb).mono ?_); (case hb => (repeat (first | (with_reducible exact hb.out) | (with_reducible exact Below.refl _ _) | (with_reducible refine Below.drew ?_) | (with_reducible refine Below.alloc ?_ ?_ _) | omega | (simp <;> omega)))); rintro e w1 ⟨rfl, hk⟩; have hd := Lib.hid ((show Below w.heap.size w _ by (repeat (first | (with_reducible exact hb.out) | (with_reducible exact Below.refl _ _) | (with_reducible refine Below.drew ?_) | (with_reducible refine Below.alloc ?_ ?_ _) | omega | (simp <;> omega)))).trans (hk.mono (by (first | omega | (simp; done) | (simp; omega))))); have hal := (below_alloc1 w0 _).trans (hk.mono (by simp)); have hk5 := H5.out.below hal; have hk6 := H6.out.below hal; clear H5 H6; have H5 := Lib.hid hk5; have H6 := Lib.hid hk6; (try clear u0 u1 v0 v1); obtain ⟨_, u0, u1, _, _⟩ := H5.out; obtain ⟨_, v0, v1, _, _⟩ := H6.out; clear hk5 hk6 hal; clear hb; have hb := hd; (try clear hs); have hs := hb.out.size; clear hd hk))
    | (go_at_call 13; ((with_reducible refine (cMay _ ?hb).mono ?_); (case hb => (repeat (first | (with_reducible exact hb.out) | (with_reducible exact Below.refl _ _) | (with_reducible refine Below.drew ?_) | (with_reducible refine Below.alloc ?_ ?_ _) | omega | (simp <;> omega)))); rintro e w1 ⟨rfl, hk⟩; have hd := Lib.hid ((show Below w.heap.size w _ by (repeat (first | (with_reducible exact hb.out) | (with_reducible exact Below.refl _ _) | (with_reducible refine Below.drew ?_) | (with_reducible refine Below.alloc ?_ ?_ _) | omega | (simp <;> omega)))).trans (hk.mono (by (first | omega | (simp; done) | (simp; omega))))); have hk5 := H5.out.below hk; have hk6 := H6.out.below hk; clear H5 H6; have H5 := Lib.hid hk5; have H6 := Lib.hid hk6; (try clear u0 u1 v0 v1); obtain ⟨_, u0, u1, _, _⟩ := H5.out; obtain ⟨_, v0, v1, _, _⟩ := H6.out; clear hk5 hk6; clear hb; have hb := hd; (try clear hs); have hs := hb.out.size; clear hd hk))
    | (go_at_call 19; ((with_reducible refine (cIa _ ?hb).mono ?_); (case hb => (repeat (first | (with_reducible exact hb.out) | (with_reducible exact Below.refl _ _) | (with_reducible refine Below.drew ?_) | (with_reducible refine Below.alloc ?_ ?_ _) | omega | (simp <;> omega)))); rintro e w1 ⟨rfl, hk⟩; have hd := Lib.hid ((show Below w.heap.size w _ by (repeat (first | (with_reducible exact hb.out) | (with_reducible exact Below.refl _ _) | (with_reducible refine Below.drew ?_) | (with_reducible refine Below.alloc ?_ ?_ _) | omega | (simp <;> omega)))).trans (hk.mono (by (first | omega | (simp; done) | (simp; omega))))); have hk5 := H5.out.below hk; have hk6 := H6.out.below hk; clear H5 H6; have H5 := Lib.hid hk5; have H6 := Lib.hid hk6; (try clear u0 u1 v0 v1); obtain ⟨_, u0, u1, _, _⟩ := H5.out; obtain ⟨_, v0, v1, _, _⟩ := H6.out; clear hk5 hk6; clear hb; have hb := hd; (try clear hs); have hs := hb.out.size; clear hd hk))
    | (go_at_call 19; ((with_reducible refine (cIb _ ?hb).mono ?_); (case hb => (repeat (first | (with_reducible exact hb.out) | (with_reducible exact Below.refl _ _) | (with_reducible refine Below.drew ?_) | (with_reducible refine Below.alloc ?_ ?_ _) | omega | (simp <;> omega)))); rintro e w1 ⟨rfl, hk⟩; have hd := Lib.hid ((show Below w.heap.size w _ by (repeat (first | (with_reducible exact hb.out) | (with_reducible exact Below.refl _ _) | (with_reducible refine Below.drew ?_) | (with_reducible refine Below.alloc ?_ ?_ _) | omega | (simp <;> omega)))).trans (hk.mono (by (first | omega | (simp; done) | (simp; omega))))); have hk5 := H5.out.below hk; have hk6 := H6.out.below hk; clear H5 H6; have H5 := Lib.hid hk5; have H6 := Lib.hid hk6; (try clear u0 u1 v0 v1); obtain ⟨_, u0, u1, _, _⟩ := H5.out; obtain ⟨_, v0, v1, _, _⟩ := H6.out; clear hk5 hk6; clear hb; have hb := hd; (try clear hs); have hs := hb.out.size; clear hd hk))
    | (go_at_call 23; ((with_reducible refine (cK _ ?hb).mono ?_); (case hb => (repeat (first | (with_reducible exact hb.out) | (with_reducible exact Below.refl _ _) | (with_reducible refine Below.drew ?_) | (with_reducible refine Below.alloc ?_ ?_ _) | omega | (simp <;> omega)))); rintro e w2 ⟨rfl, hk⟩; have hd := Lib.hid ((show Below w.heap.size w _ by (repeat (first | (with_reducible exact hb.out) | (with_reducible exact Below.refl _ _) | (with_reducible refine Below.drew ?_) | (with_reducible refine Below.alloc ?_ ?_ _) | omega | (simp <;> omega)))).trans (hk.mono (by (first | omega | (simp; done) | (simp; omega))))); have hk5 := H5.out.below hk; have hk6 := H6.out.below hk; clear H5 H6; have H5 := Lib.hid hk5; have H6 := Lib.hid hk6; (try clear u0 u1 v0 v1); obtain ⟨_, u0, u1, _, _⟩ := H5.out; obtain ⟨_, v0, v1, _, _⟩ := H6.out; clear hk5 hk6; clear hb; have hb := hd; (try clear hs); have hs := hb.out.size; clear hd hk)))
  clear cL cM cMay cIa cIb cK cW X5 X6 hka
  have hv : Hid (Below w2.heap.size w2 w2) := Lib.hid (Below.refl _ _)
  have KS : Hid (∀ w', Below w2.heap.size w2 w' → (w'.cell? ⟨w.heap.size, 0, none⟩ = some (.int .i64 (al : Int)) ∧ w'.cell? ⟨w.heap.size, 1, none⟩ = some (.int .i64 (aa : Int)) ∧ w'.cell? ⟨w.heap.size + 1, 0, none⟩ = some (.int .i64 (bl : Int)) ∧ w'.cell? ⟨w.heap.size + 1, 1, none⟩ = some (.int .i64 (ba : Int)))) := Lib.hid (fun w' h => ⟨(H5.out.below h).c0, (H5.out.below h).c1, (H6.out.below h).c0, (H6.out.below h).c1⟩)
  obtain ⟨hf, hsz⟩ := HF.out
  obtain ⟨hfm, hmn⟩ := HM.out
  obtain ⟨sp, hm, hn⟩ := HS.out
  have hA := HD.out.below hb.out
  have hR := HU.out.below hb.out
  have hE2 := HE.out.below hb.out
  have hal : al < (pl l).length := by have := sp.hab; have := sp.hb; omega
  have hka := sp.hka
  have hbl := mayD_len hm
  have hself : Span (pl l) al aa al aa := ⟨hal, Nat.le_refl _, hka, hka, fun _ => Nat.le_refl _⟩
  have cSm : ∀ (v1 : Value) (l1 : List Lw) w1, Below w2.heap.size w2 w1 → DocAt w1 v1 l1 → pl l1 = pl l → Calls Tryz.prog 34 #[v1, .slice a n c] w1 fun e w' => e = .returned (.bool true) ∧ Below w1.heap.size w1 w' := fun v1 l1 w1 h1 h2 h3 => by
    have := dsame_any v1 (.slice a n c) l1 l w1 h2 (hA.below h1) (by rw [h3]; exact hf)
    rw [h3, sameD_refl] at this
    exact this
  have CSm := Lib.hid cSm
  have cSz : ∀ w1, Below w2.heap.size w2 w1 → _ := fun w1 h1 => dsize_any (.slice a n c) l w1 (hA.s.below h1) hf.len hf.s
  obtain ⟨S, hS⟩ : ∃ S, sizeD (pl l) = S := ⟨_, rfl⟩
  rw [hS] at cSz hsz
  have HSz := Lib.hid hS
  clear cSm hS
  have CSz := Lib.hid cSz
  clear cSz
  have hv0 := hv
  have CH : Hid (mayD (pl l) = true ∧ Fine (pl l) ∧ Span (pl l) al aa al aa) := Lib.hid ⟨hm, hf, hself⟩
  go_cut [9, 10, 11] (fun s9 s10 s11 wx => BackR w2 (insertD (pl l) al aa m) (al : Int) ((aa + m.length : Nat) : Int) (mayR m = true ∧ S + ml ≤ 4000) s9 s10 s11 wx)
  case first => as_aux_lemma =>
    by_cases hI : mayR m = true ∧ S + ml ≤ 4000
    · obtain ⟨T, hT⟩ : ∃ T, aa + m.length = T := ⟨_, rfl⟩
      have hIs : sizeD (pl l) + m.length ≤ 4000 := by rw [HSz.out, hmn]; exact hI.2
      have eI : insP (pl l) ((al : Int), (aa : Int)) m = (insertD (pl l) al aa m, (((al : Nat) : Int), ((T : Nat) : Int)), 0) := by
        unfold insP
        rw [askedD_mk hself hm, hI.1, Bool.true_and, if_pos rfl, if_neg (by omega), ← hT]
        rfl
      have cI : ∀ w1, Below w2.heap.size w2 w1 → Calls Tryz.prog 40 #[.slice a n c, .agg #[.int .i64 (al : Int), .int .i64 (aa : Int)], .slice ua ml uc] w1 fun e w' => ∃ v r, e = .returned (.tuple #[v, .agg #[.int .i64 (al : Int), .int .i64 (T : Int)], .int .i64 0]) ∧ OwnD w1.heap.size w' v r ∧ pl r = insertD (pl l) al aa m ∧ Below w1.heap.size w1 w' := fun w1 h1 => by
        have := dinsert_any (.slice a n c) (.slice ua ml uc) l m (al : Int) (aa : Int) w1 (hA.below h1) (hR.below h1) hf (hE2.below h1) (by omega) hfm
        rw [eI] at this
        exact this
      have HI := Lib.hid hI
      have HT := Lib.hid hT
      clear hI hIs eI hT hA hR hE2 hf hsz hfm hmn sp hm hn hself hbl HSz
      go_wp2_with (go_at_call 40; ((with_reducible refine (cI _ ?hb).mono ?_); (case hb => (repeat (first | (with_reducible exact hv.out) | (with_reducible exact Below.refl _ _) | (with_reducible refine Below.drew ?_) | (with_reducible refine Below.alloc ?_ ?_ _) | omega | (simp <;> omega)))); rintro e w3 ⟨vx, rx, rfl, ox, px, hk⟩; have hg := Lib.hid ((show Below w2.heap.size w2 _ by (repeat (first | (with_reducible exact hv.out) | (with_reducible exact Below.refl _ _) | (with_reducible refine Below.drew ?_) | (with_reducible refine Below.alloc ?_ ?_ _) | omega | (simp <;> omega)))).trans (hk.mono (by (first | omega | (simp; done) | (simp; omega))))); (try clear z0 z1 z2 z3); (try clear u0 u1 v0 v1); obtain ⟨u0, u1, v0, v1⟩ := KS.out _ hg.out; have OX := Lib.hid ox; have PX := Lib.hid px; obtain ⟨ux, cx, ex⟩ := own_len ox.own; subst ex; clear ox px; clear hv; have hv := hg; (try clear hsv); have hsv := hv.out.size; clear hg hk))
      go_meet
      rw [HT.out]
      exact ⟨0, w3.heap.size, rfl, rfl, Lib.hid (by (repeat (first | (with_reducible exact hv.out) | (with_reducible exact Below.refl _ _) | (with_reducible refine Below.drew ?_) | (with_reducible refine Below.alloc ?_ ?_ _) | omega | (simp <;> omega)))), .inl ⟨rfl, HI.out, ⟨rx, (OX.out.below (below_alloc1 _ _)).mono (Nat.le_refl _), PX.out⟩, ps_new _ _ _⟩⟩
    · have eI : ∃ er : Int, er ≠ 0 ∧ insP (pl l) ((al : Int), (aa : Int)) m = ([], (0, 0), er) := by
        unfold insP
        rw [askedD_mk hself hm, Bool.true_and]
        by_cases hr : mayR m = true
        · refine ⟨10, by decide, ?_⟩
          rw [if_pos hr, if_pos (by have : ¬ S + ml ≤ 4000 := fun h => hI ⟨hr, h⟩
                                    rw [HSz.out, hmn]; omega)]
        · exact ⟨1, by decide, by rw [if_neg hr]⟩
      obtain ⟨er, her, eI⟩ := eI
      have cI : ∀ w1, Below w2.heap.size w2 w1 → Calls Tryz.prog 40 #[.slice a n c, .agg #[.int .i64 (al : Int), .int .i64 (aa : Int)], .slice ua ml uc] w1 fun e w' => ∃ v r, e = .returned (.tuple #[v, .agg #[.int .i64 0, .int .i64 0], .int .i64 er]) ∧ OwnD w1.heap.size w' v r ∧ pl r = [] ∧ Below w1.heap.size w1 w' := fun w1 h1 => by
        have := dinsert_any (.slice a n c) (.slice ua ml uc) l m (al : Int) (aa : Int) w1 (hA.below h1) (hR.below h1) hf (hE2.below h1) (by omega) hfm
        rw [eI] at this
        exact this
      have HI := Lib.hid her
      clear hI eI her hA hR hE2 hf hsz hfm hmn sp hm hn hself hbl HSz
      go_wp2_with (go_at_call 40; ((with_reducible refine (cI _ ?hb).mono ?_); (case hb => (repeat (first | (with_reducible exact hv.out) | (with_reducible exact Below.refl _ _) | (with_reducible refine Below.drew ?_) | (with_reducible refine Below.alloc ?_ ?_ _) | omega | (simp <;> omega)))); rintro e w3 ⟨vx, rx, rfl, ox, px, hk⟩; have hg := Lib.hid ((show Below w2.heap.size w2 _ by (repeat (first | (with_reducible exact hv.out) | (with_reducible exact Below.refl _ _) | (with_reducible refine Below.drew ?_) | (with_reducible refine Below.alloc ?_ ?_ _) | omega | (simp <;> omega)))).trans (hk.mono (by (first | omega | (simp; done) | (simp; omega))))); (try clear z0 z1 z2 z3); (try clear u0 u1 v0 v1); obtain ⟨u0, u1, v0, v1⟩ := KS.out _ hg.out; obtain ⟨ux, cx, ex⟩ := own_len ox.own; subst ex; clear ox px; clear hv; have hv := hg; (try clear hsv); have hsv := hv.out.size; clear hg hk))
      go_meet
      exact ⟨er, w3.heap.size, rfl, rfl, Lib.hid (by (repeat (first | (with_reducible exact hv.out) | (with_reducible exact Below.refl _ _) | (with_reducible refine Below.drew ?_) | (with_reducible refine Below.alloc ?_ ?_ _) | omega | (simp <;> omega)))), .inr HI.out⟩
  case rest =>
  obtain ⟨er, pb, rfl, rfl, HB, hx⟩ := hcut
  have hv := HB
  have hsv := hv.out.size
  clear u0 u1 v0 v1
  obtain ⟨u0, u1, v0, v1⟩ := KS.out _ hv.out
  have HX := Lib.hid hx
  clear hx
  go_upto_if 68 with fail
  go_cut [] (fun wx => Hid (Below w2.heap.size w2 wx))
  case first => as_aux_lemma =>
    rcases HX.out with ⟨rfl, hI, ⟨rx, ox, px⟩, hpb⟩ | he
    · have hIs : sizeD (pl l) + m.length ≤ 4000 := by rw [HSz.out, hmn]; exact hI.2
      obtain ⟨T, hT⟩ : ∃ T, aa + m.length = T := ⟨_, rfl⟩
      have fX := insert_fine (m := m) hal hka hf hm hIs hfm
      have mX := insert_may (m := m) hal hka hm hI.1 hIs
      have sX := insert_size (m := m) hal hka
      have dX := delP_mk (insert_span m hal hka) mX
      rw [insert_back m hal hka, hT] at dX
      rw [HSz.out, hmn] at sX
      rw [hT] at hpb
      obtain ⟨X, hX⟩ : ∃ X, insertD (pl l) al aa m = X := ⟨_, rfl⟩
      rw [hX] at fX mX sX dX px
      have cDel : ∀ (vv : Value) (ry : List Lw) w1, Below w2.heap.size w2 w1 → DocAt w1 vv ry → pl ry = X → Calls Tryz.prog 38 #[vv, .agg #[.int .i64 (al : Int), .int .i64 (aa : Int)], .agg #[.int .i64 (al : Int), .int .i64 (T : Int)]] w1 (DocE (pl l) 0 w1) := fun vv ry w1 h1 h2 h3 => by
        have := ddelete_any vv ry (al : Int) (aa : Int) (al : Int) (T : Int) w1 h2 (by rw [h3]; exact fX) (hE2.below h1)
        rw [h3, dX] at this
        exact this
      have cMX : ∀ (vv : Value) (ry : List Lw) w1, Below w2.heap.size w2 w1 → DocAt w1 vv ry → pl ry = X → Calls Tryz.prog 13 #[vv] w1 fun e w' => e = .returned (.bool true) ∧ Below w1.heap.size w1 w' := fun vv ry w1 h1 h2 h3 => by
        have := dmay_any vv ry w1 h2 (by rw [h3]; exact fX) (hE2.below h1)
        rw [h3, mX] at this
        exact this
      obtain ⟨SX, hSX⟩ : ∃ X, S + ml = X := ⟨_, rfl⟩
      rw [hSX] at sX
      have cSX : ∀ (vv : Value) (ry : List Lw) w1, DocAt w1 vv ry → pl ry = X → Calls Tryz.prog 15 #[vv] w1 fun e w' => e = .returned (.int .i64 (SX : Int)) ∧ Below w1.heap.size w1 w' := fun vv ry w1 h2 h3 => by
        have fr : Fine (pl ry) := by rw [h3]; exact fX
        have := dsize_any vv ry w1 h2.s fr.len fr.s
        rw [h3, sX] at this
        exact this
      have wS : IntKind.i64.wrap ((S : Int) + (ml : Int)) = (SX : Int) := by
        rw [show (S : Int) + (ml : Int) = (SX : Int) by omega]
        exact IntWalk.i64_in _ (by have := hI.2; omega)
      have CDel := Lib.hid cDel
      have CMX := Lib.hid cMX
      have CSX := Lib.hid cSX
      have OX := Lib.hid ox
      have PX := Lib.hid px
      obtain ⟨_, s0, s1, _, _⟩ := hpb
      obtain ⟨ux, cx, ex⟩ := own_len ox.own
      subst ex
      clear hIs hI fX mX sX dX hX hT hSX cDel cMX cSX hA hR hE2 hf hsz hfm hmn sp hm hn hself hbl HSz ox px HX HB
      go_wp2_with (first
        | (go_at_call 38; ((with_reducible refine (CDel.out _ rx _ ?hb ?at_ PX.out).mono ?_); (case hb => (repeat (first | (with_reducible exact hv.out) | (with_reducible exact Below.refl _ _) | (with_reducible refine Below.drew ?_) | (with_reducible refine Below.alloc ?_ ?_ _) | omega | (simp <;> omega)))); (case at_ => exact OX.out.at); rintro e w4 ⟨vy, ry, rfl, oy, py, hk⟩; have hg := Lib.hid ((show Below w2.heap.size w2 _ by (repeat (first | (with_reducible exact hv.out) | (with_reducible exact Below.refl _ _) | (with_reducible refine Below.drew ?_) | (with_reducible refine Below.alloc ?_ ?_ _) | omega | (simp <;> omega)))).trans (hk.mono (by (first | omega | (simp; done) | (simp; omega))))); (try clear u0 u1 v0 v1); obtain ⟨u0, u1, v0, v1⟩ := KS.out _ hg.out; have OX4 := Lib.hid (OX.out.below hk); have OY4 := Lib.hid oy; have PY := Lib.hid py; obtain ⟨uy, cy, ey⟩ := own_len oy.own; subst ey; have K4 : Hid (Below w4.heap.size w4 w4) := Lib.hid (Below.refl _ _); clear hv; have hv := hg; (try clear hsv); have hsv := hv.out.size; clear hg hk oy py))
        | (go_at_call 13; ((with_reducible refine (CMX.out _ rx _ hv.out (OX4.out.at.below K4.out) PX.out).mono ?_); rintro e w5 ⟨rfl, hk⟩; have hg := Lib.hid (hv.out.trans (hk.mono (by first | exact hv.out.size | (first | omega | (simp; done) | (simp; omega))))); have k4 := Lib.hid (K4.out.trans (hk.mono K4.out.size)); clear hv K4; have hv := hg; have K4 := k4; (try clear hsv); have hsv := hv.out.size; clear hg k4 hk))
        | (go_at_call 34; ((with_reducible refine (CSm.out _ ry _ hv.out (OY4.out.at.below K4.out) PY.out).mono ?_); rintro e w6 ⟨rfl, hk⟩; have hg := Lib.hid (hv.out.trans (hk.mono (by first | exact hv.out.size | (first | omega | (simp; done) | (simp; omega))))); have k4 := Lib.hid (K4.out.trans (hk.mono K4.out.size)); clear hv K4; have hv := hg; have K4 := k4; (try clear hsv); have hsv := hv.out.size; clear hg k4 hk))
        | (go_at_call 15; ((with_reducible refine (CSX.out _ rx _ (OX4.out.at.below K4.out) PX.out).mono ?_); rintro e w7 ⟨rfl, hk⟩; have hg := Lib.hid (hv.out.trans (hk.mono (by first | exact hv.out.size | (first | omega | (simp; done) | (simp; omega))))); have k4 := Lib.hid (K4.out.trans (hk.mono K4.out.size)); clear hv K4; have hv := hg; have K4 := k4; (try clear hsv); have hsv := hv.out.size; clear hg k4 hk))
        | (go_at_call 15; ((with_reducible refine (CSz.out _ hv.out).mono ?_); rintro e w8 ⟨rfl, hk⟩; have hg := Lib.hid (hv.out.trans (hk.mono (by first | exact hv.out.size | (first | omega | (simp; done) | (simp; omega))))); have k4 := Lib.hid (K4.out.trans (hk.mono K4.out.size)); clear hv K4; have hv := hg; have K4 := k4; (try clear hsv); have hsv := hv.out.size; clear hg k4 hk)))
      go_meet
      exact hv
    · have he2 : (er == 0) = false := by simpa using he
      clear he HX
      go_wp2
      go_meet
      exact HB
  case rest =>
  have hv := hcut
  have hsv := hv.out.size
  clear hcut HB HX u0 u1 v0 v1
  obtain ⟨u0, u1, v0, v1⟩ := KS.out _ hv.out
  go_upto_region 8 with fail
  have hsc := hsv
  go_cut [14, 15, 16] (fun s9 s10 s11 wx => BackR w2 (splitD (pl l) al aa) ((al : Int) + 1) 0 ((pl l).length ≠ 200) s9 s10 s11 wx)
  case first => as_aux_lemma =>
    by_cases hI : (pl l).length = 200
    · have eI : splitP (pl l) ((al : Int), (aa : Int)) = ([], (0, 0), 10) := by
        unfold splitP
        rw [askedD_mk hself hm, if_pos rfl, if_pos hI]
      have cI : ∀ w1, Below w2.heap.size w2 w1 → Calls Tryz.prog 42 #[.slice a n c, .agg #[.int .i64 (al : Int), .int .i64 (aa : Int)]] w1 fun e w' => ∃ v r, e = .returned (.tuple #[v, .agg #[.int .i64 0, .int .i64 0], .int .i64 10]) ∧ OwnD w1.heap.size w' v r ∧ pl r = [] ∧ Below w1.heap.size w1 w' := fun w1 h1 => by
        have := dsplit_any (.slice a n c) l (al : Int) (aa : Int) w1 (hA.below h1) hf (hE2.below h1)
        rw [eI] at this
        exact this
      clear hI eI hA hR hE2 hf hsz hfm hmn sp hm hn hself hbl HSz
      go_wp2_with (go_at_call 42; ((with_reducible refine (cI _ ?hb).mono ?_); (case hb => (repeat (first | (with_reducible exact hv.out) | (with_reducible exact Below.refl _ _) | (with_reducible refine Below.drew ?_) | (with_reducible refine Below.alloc ?_ ?_ _) | omega | (simp <;> omega)))); rintro e w3 ⟨vx, rx, rfl, ox, px, hk⟩; have hg := Lib.hid ((show Below w2.heap.size w2 _ by (repeat (first | (with_reducible exact hv.out) | (with_reducible exact Below.refl _ _) | (with_reducible refine Below.drew ?_) | (with_reducible refine Below.alloc ?_ ?_ _) | omega | (simp <;> omega)))).trans (hk.mono (by (first | omega | (simp; done) | (simp; omega))))); (try clear z0 z1 z2 z3); (try clear u0 u1 v0 v1); obtain ⟨u0, u1, v0, v1⟩ := KS.out _ hg.out; obtain ⟨ux, cx, ex⟩ := own_len ox.own; subst ex; clear ox px; clear hv; have hv := hg; (try clear hsv); have hsv := hv.out.size; clear hg hk))
      go_meet
      exact ⟨10, w3.heap.size, rfl, rfl, Lib.hid (by (repeat (first | (with_reducible exact hv.out) | (with_reducible exact Below.refl _ _) | (with_reducible refine Below.drew ?_) | (with_reducible refine Below.alloc ?_ ?_ _) | omega | (simp <;> omega)))), .inr (by decide)⟩
    · have eI : splitP (pl l) ((al : Int), (aa : Int)) = (splitD (pl l) al aa, ((al : Int) + 1, 0), 0) := by
        unfold splitP
        rw [askedD_mk hself hm, if_pos rfl, if_neg hI]
        rfl
      have cI : ∀ w1, Below w2.heap.size w2 w1 → Calls Tryz.prog 42 #[.slice a n c, .agg #[.int .i64 (al : Int), .int .i64 (aa : Int)]] w1 fun e w' => ∃ v r, e = .returned (.tuple #[v, .agg #[.int .i64 ((al : Int) + 1), .int .i64 0], .int .i64 0]) ∧ OwnD w1.heap.size w' v r ∧ pl r = splitD (pl l) al aa ∧ Below w1.heap.size w1 w' := fun w1 h1 => by
        have := dsplit_any (.slice a n c) l (al : Int) (aa : Int) w1 (hA.below h1) hf (hE2.below h1)
        rw [eI] at this
        exact this
      obtain ⟨A1, hA1⟩ : ∃ x : Int, (al : Int) + 1 = x := ⟨_, rfl⟩
      rw [hA1] at cI
      have HI := Lib.hid hI
      have HT := Lib.hid hA1
      clear hI eI hA1 hA hR hE2 hf hsz hfm hmn sp hm hn hself hbl HSz
      go_wp2_with (go_at_call 42; ((with_reducible refine (cI _ ?hb).mono ?_); (case hb => (repeat (first | (with_reducible exact hv.out) | (with_reducible exact Below.refl _ _) | (with_reducible refine Below.drew ?_) | (with_reducible refine Below.alloc ?_ ?_ _) | omega | (simp <;> omega)))); rintro e w3 ⟨vx, rx, rfl, ox, px, hk⟩; have hg := Lib.hid ((show Below w2.heap.size w2 _ by (repeat (first | (with_reducible exact hv.out) | (with_reducible exact Below.refl _ _) | (with_reducible refine Below.drew ?_) | (with_reducible refine Below.alloc ?_ ?_ _) | omega | (simp <;> omega)))).trans (hk.mono (by (first | omega | (simp; done) | (simp; omega))))); (try clear z0 z1 z2 z3); (try clear u0 u1 v0 v1); obtain ⟨u0, u1, v0, v1⟩ := KS.out _ hg.out; have OX := Lib.hid ox; have PX := Lib.hid px; obtain ⟨ux, cx, ex⟩ := own_len ox.own; subst ex; clear ox px; clear hv; have hv := hg; (try clear hsv); have hsv := hv.out.size; clear hg hk))
      go_meet
      rw [HT.out]
      exact ⟨0, w3.heap.size, rfl, rfl, Lib.hid (by (repeat (first | (with_reducible exact hv.out) | (with_reducible exact Below.refl _ _) | (with_reducible refine Below.drew ?_) | (with_reducible refine Below.alloc ?_ ?_ _) | omega | (simp <;> omega)))), .inl ⟨rfl, HI.out, ⟨rx, (OX.out.below (below_alloc1 _ _)).mono hsc, PX.out⟩, ps_new _ _ _⟩⟩
  case rest =>
  obtain ⟨er, pb, rfl, rfl, HB, hx⟩ := hcut
  have hv := HB
  have hsv := hv.out.size
  clear u0 u1 v0 v1
  obtain ⟨u0, u1, v0, v1⟩ := KS.out _ hv.out
  have HX := Lib.hid hx
  clear hx
  go_upto_if 107 with fail
  go_cut [] (fun wx => Hid (Below w2.heap.size w2 wx))
  case first => as_aux_lemma =>
    rcases HX.out with ⟨rfl, hI, ⟨rx, ox, px⟩, hpb⟩ | he
    · have fX := split_fine hal hka hf hm
      have mX := split_may hal hka hm hI
      have dX : delP (splitD (pl l) al aa) ((al : Int), (aa : Int)) ((al : Int) + 1, 0) = (pl l, 0) := by
        have := delP_mk (split_span hal hka) mX
        rw [split_back hal hka] at this
        exact this
      obtain ⟨X, hX⟩ : ∃ X, splitD (pl l) al aa = X := ⟨_, rfl⟩
      rw [hX] at px fX mX dX
      obtain ⟨A1, hA1⟩ : ∃ x : Int, (al : Int) + 1 = x := ⟨_, rfl⟩
      have wS : IntKind.i64.wrap ((al : Int) + 1) = A1 := by rw [← hA1]; exact IntWalk.i64_in _ (by omega)
      rw [hA1] at hpb dX
      have cDel : ∀ (vv : Value) (ry : List Lw) w1, Below w2.heap.size w2 w1 → DocAt w1 vv ry → pl ry = X → Calls Tryz.prog 38 #[vv, .agg #[.int .i64 (al : Int), .int .i64 (aa : Int)], .agg #[.int .i64 A1, .int .i64 0]] w1 (DocE (pl l) 0 w1) := fun vv ry w1 h1 h2 h3 => by
        have := ddelete_any vv ry (al : Int) (aa : Int) A1 0 w1 h2 (by rw [h3]; exact fX) (hE2.below h1)
        rw [h3, dX] at this
        exact this
      have cMX : ∀ (vv : Value) (ry : List Lw) w1, Below w2.heap.size w2 w1 → DocAt w1 vv ry → pl ry = X → Calls Tryz.prog 13 #[vv] w1 fun e w' => e = .returned (.bool true) ∧ Below w1.heap.size w1 w' := fun vv ry w1 h1 h2 h3 => by
        have := dmay_any vv ry w1 h2 (by rw [h3]; exact fX) (hE2.below h1)
        rw [h3, mX] at this
        exact this
      have CDel := Lib.hid cDel
      have CMX := Lib.hid cMX
      have OX := Lib.hid ox
      have PX := Lib.hid px
      have HPB := Lib.hid hpb
      obtain ⟨_, s0, s1, _, _⟩ := HPB.out
      obtain ⟨ux, cx, ex⟩ := own_len ox.own
      subst ex
      have hq2 := HQ.out
      clear hI fX mX dX hX hA1 cDel cMX hA hR hE2 hf hsz hfm hmn sp hm hn hself hbl HSz ox px hpb HX HB
      go_wp2_with (first
        | (go_at_call 38; ((with_reducible refine (CDel.out _ rx _ ?hb ?at_ PX.out).mono ?_); (case hb => (repeat (first | (with_reducible exact hv.out) | (with_reducible exact Below.refl _ _) | (with_reducible refine Below.drew ?_) | (with_reducible refine Below.alloc ?_ ?_ _) | omega | (simp <;> omega)))); (case at_ => exact OX.out.at); rintro e w4 ⟨vy, ry, rfl, oy, py, hk⟩; have hg := Lib.hid ((show Below w2.heap.size w2 _ by (repeat (first | (with_reducible exact hv.out) | (with_reducible exact Below.refl _ _) | (with_reducible refine Below.drew ?_) | (with_reducible refine Below.alloc ?_ ?_ _) | omega | (simp <;> omega)))).trans (hk.mono (by (first | omega | (simp; done) | (simp; omega))))); (try clear u0 u1 v0 v1); obtain ⟨u0, u1, v0, v1⟩ := KS.out _ hg.out; have OX4 := Lib.hid (OX.out.below hk); have OY4 := Lib.hid oy; have PY := Lib.hid py; have PB4 := Lib.hid (HPB.out.below hk); (try clear s0 s1); obtain ⟨_, s0, s1, _, _⟩ := PB4.out; obtain ⟨uy, cy, ey⟩ := own_len oy.own; subst ey; have K4 : Hid (Below w4.heap.size w4 w4) := Lib.hid (Below.refl _ _); clear hv; have hv := hg; (try clear hsv); have hsv := hv.out.size; clear hg hk oy py))
        | (go_at_call 13; ((with_reducible refine (CMX.out _ rx _ hv.out (OX4.out.at.below K4.out) PX.out).mono ?_); rintro e w5 ⟨rfl, hk⟩; have hg := Lib.hid (hv.out.trans (hk.mono (by first | exact hv.out.size | (first | omega | (simp; done) | (simp; omega))))); have k4 := Lib.hid (K4.out.trans (hk.mono K4.out.size)); (try clear s0 s1); obtain ⟨_, s0, s1, _, _⟩ := PB4.out.below k4.out; (try clear u0 u1 v0 v1); obtain ⟨u0, u1, v0, v1⟩ := KS.out _ hg.out; clear hv K4; have hv := hg; have K4 := k4; (try clear hsv); have hsv := hv.out.size; clear hg k4 hk))
        | (go_at_call 34; ((with_reducible refine (CSm.out _ ry _ hv.out (OY4.out.at.below K4.out) PY.out).mono ?_); rintro e w6 ⟨rfl, hk⟩; have hg := Lib.hid (hv.out.trans (hk.mono (by first | exact hv.out.size | (first | omega | (simp; done) | (simp; omega))))); have k4 := Lib.hid (K4.out.trans (hk.mono K4.out.size)); (try clear s0 s1); obtain ⟨_, s0, s1, _, _⟩ := PB4.out.below k4.out; (try clear u0 u1 v0 v1); obtain ⟨u0, u1, v0, v1⟩ := KS.out _ hg.out; clear hv K4; have hv := hg; have K4 := k4; (try clear hsv); have hsv := hv.out.size; clear hg k4 hk)))
      go_meet
      exact hv
    · have he2 : (er == 0) = false := by simpa using he
      clear he HX
      go_wp2
      go_meet
      exact HB
  case rest =>
  have hv := hcut
  have hsv := hv.out.size
  clear hcut HB HX u0 u1 v0 v1
  obtain ⟨u0, u1, v0, v1⟩ := KS.out _ hv.out
  have sh := span_head sp
  have st := span_tail sp
  have dX := delP_mk sp hm
  have pY : partP (pl l) ((0 : Int), (0 : Int)) ((al : Int), (aa : Int)) = (eachD (pl l) partU (strs (pl l) 0 0 al aa), 0) := partP_mk sh hm
  have pZ := partP_mk st hm
  have fX := fine_delete sp hf hm
  have mX := may_delete sp hm
  have sX := size_less sp hm
  have lX := delete_length sp
  have lY := each_length (pl l) 0 0 al aa
  have lZ := each_length (pl l) bl ba ((pl l).length - 1) (cnt (pl l) ((pl l).length - 1))
  have rLow := fun i (hi : i < al) => left_low (i := i) sp hi
  have rMid := left_mid sp
  have rHigh := fun i (h1 : al < i) (h2 : i < (deleteD (pl l) al aa bl ba).length) => left_high sp h1 h2
  have eE := endD_pos (d := pl l) (by omega)
  have hbd := sp.hb
  have hab := sp.hab
  obtain ⟨X, hX⟩ : ∃ X, deleteD (pl l) al aa bl ba = X := ⟨_, rfl⟩
  obtain ⟨Y, hY⟩ : ∃ X, eachD (pl l) partU (strs (pl l) 0 0 al aa) = X := ⟨_, rfl⟩
  obtain ⟨Z, hZ⟩ : ∃ X, eachD (pl l) partU (strs (pl l) bl ba ((pl l).length - 1) (cnt (pl l) ((pl l).length - 1))) = X := ⟨_, rfl⟩
  rw [hX] at dX fX mX sX lX
  rw [hY] at pY lY
  rw [hZ] at pZ lZ
  have KL : Hid ((∀ i, i < al → X[i]! = Y[i]!) ∧ X[al]! = lnWith Y[al]! (Y[al]!.cs ++ Z[0]!.cs) ∧ ∀ i, al < i → i < X.length → X[i]! = Z[i - al]!) := Lib.hid (by
    rw [← hX, ← hY, ← hZ]
    exact ⟨rLow, rMid, rHigh⟩)
  obtain ⟨E1, hE1⟩ : ∃ x, (pl l).length - 1 = x := ⟨_, rfl⟩
  rw [hE1] at eE pZ lZ
  obtain ⟨E2, hE2'⟩ : ∃ x, cnt (pl l) E1 = x := ⟨_, rfl⟩
  rw [hE2'] at eE pZ
  have cD : ∀ w1, Below w2.heap.size w2 w1 → Calls Tryz.prog 38 #[.slice a n c, .agg #[.int .i64 (al : Int), .int .i64 (aa : Int)], .agg #[.int .i64 (bl : Int), .int .i64 (ba : Int)]] w1 (DocE X 0 w1) := fun w1 h1 => by
    have := ddelete_any (.slice a n c) l (al : Int) (aa : Int) (bl : Int) (ba : Int) w1 (hA.below h1) hf (hE2.below h1)
    rw [dX] at this
    exact this
  have cP1 : ∀ w1, Below w2.heap.size w2 w1 → Calls Tryz.prog 36 #[.slice a n c, .agg #[.int .i64 0, .int .i64 0], .agg #[.int .i64 (al : Int), .int .i64 (aa : Int)]] w1 (DocE Y 0 w1) := fun w1 h1 => by
    have := dpart_any (.slice a n c) l 0 0 (al : Int) (aa : Int) w1 (hA.below h1) hf (hE2.below h1)
    rw [pY] at this
    exact this
  have cEnd : ∀ w1, Below w2.heap.size w2 w1 → Calls Tryz.prog 17 #[.slice a n c] w1 fun e w' => e = .returned (.agg #[.int .i64 (E1 : Int), .int .i64 (E2 : Int)]) ∧ Below w1.heap.size w1 w' := fun w1 h1 => by
    have := dend_any (.slice a n c) l w1 (hA.s.below h1) hf.len
    rw [eE] at this
    exact this
  have cP2 : ∀ w1, Below w2.heap.size w2 w1 → Calls Tryz.prog 36 #[.slice a n c, .agg #[.int .i64 (bl : Int), .int .i64 (ba : Int)], .agg #[.int .i64 (E1 : Int), .int .i64 (E2 : Int)]] w1 (DocE Z 0 w1) := fun w1 h1 => by
    have := dpart_any (.slice a n c) l (bl : Int) (ba : Int) (E1 : Int) (E2 : Int) w1 (hA.below h1) hf (hE2.below h1)
    rw [pZ] at this
    exact this
  have cCnt : ∀ w1, Below w2.heap.size w2 w1 → _ := fun w1 h1 => dcount_any (.slice a n c) l (al : Int) (aa : Int) (bl : Int) (ba : Int) w1 (hA.below h1) hf (hE2.below h1)
  obtain ⟨C, hC⟩ : ∃ C, countA (pl l) ((al : Int), (aa : Int)) ((bl : Int), (ba : Int)) = C := ⟨_, rfl⟩
  rw [hC] at cCnt sX
  unfold psV at cCnt
  dsimp only at cCnt
  obtain ⟨SX, hSX⟩ : ∃ x, sizeD X = x := ⟨_, rfl⟩
  rw [hSX, HSz.out] at sX
  have wS : IntKind.i64.wrap ((S : Int) - (C : Int)) = (SX : Int) := by
    rw [show (S : Int) - (C : Int) = (SX : Int) by omega]
    exact IntWalk.i64_in _ (by omega)
  have cMX : ∀ (vv : Value) (ry : List Lw) w1, Below w2.heap.size w2 w1 → DocAt w1 vv ry → pl ry = X → Calls Tryz.prog 13 #[vv] w1 fun e w' => e = .returned (.bool true) ∧ Below w1.heap.size w1 w' := fun vv ry w1 h1 h2 h3 => by
    have := dmay_any vv ry w1 h2 (by rw [h3]; exact fX) (hE2.below h1)
    rw [h3, mX] at this
    exact this
  have cSX : ∀ (vv : Value) (ry : List Lw) w1, DocAt w1 vv ry → pl ry = X → Calls Tryz.prog 15 #[vv] w1 fun e w' => e = .returned (.int .i64 (SX : Int)) ∧ Below w1.heap.size w1 w' := fun vv ry w1 h2 h3 => by
    have fr : Fine (pl ry) := by rw [h3]; exact fX
    have := dsize_any vv ry w1 h2.s fr.len fr.s
    rw [h3, hSX] at this
    exact this
  have cAw : ∀ w1, Below w2.heap.size w2 w1 → _ := fun w1 h1 => awake_any w1 (hE2.below h1)
  have CMX := Lib.hid cMX
  have CSX := Lib.hid cSX
  have CAw := Lib.hid cAw
  have HLen : Hid (X.length + (bl - al) = (pl l).length ∧ Y.length = al + 1 ∧ Z.length + bl = (pl l).length ∧ al ≤ bl ∧ bl < (pl l).length ∧ (pl l).length ≤ 200) := Lib.hid ⟨lX, by omega, by omega, hab, hbd, hbl.2.1⟩
  have HFX := Lib.hid fX
  have hv1 := hv
  clear hA hR hE2 hf hsz hfm hmn sp hm hn hself hbl HSz sh st dX pY pZ fX mX sX lX lY lZ rLow rMid rHigh eE hbd hab hX hY hZ hE1 hE2' hC hSX cMX cSX cAw hal hka CSm hv0 CH HQ HM HS HD HU HE HF
  go_upto_region 15 with (first
    | (go_at_call 38; ((with_reducible refine (cD _ ?hb).mono ?_); (case hb => (repeat (first | (with_reducible exact hv.out) | (with_reducible exact Below.refl _ _) | (with_reducible refine Below.drew ?_) | (with_reducible refine Below.alloc ?_ ?_ _) | omega | (simp <;> omega)))); rintro e w3 ⟨vx, rx, rfl, ox, px, hk⟩; have hg := Lib.hid ((show Below w2.heap.size w2 _ by (repeat (first | (with_reducible exact hv.out) | (with_reducible exact Below.refl _ _) | (with_reducible refine Below.drew ?_) | (with_reducible refine Below.alloc ?_ ?_ _) | omega | (simp <;> omega)))).trans (hk.mono (by (first | omega | (simp; done) | (simp; omega))))); (try clear u0 u1 v0 v1); obtain ⟨u0, u1, v0, v1⟩ := KS.out _ hg.out; have OX := Lib.hid ox; have PX := Lib.hid px; obtain ⟨ux, cx, ex⟩ := own_len ox.own; subst ex; clear ox px; clear hv; have hv := hg; (try clear hsv); have hsv := hv.out.size; clear hg hk))
    | (go_at_call 36; ((with_reducible refine (cP1 _ ?hb).mono ?_); (case hb => (repeat (first | (with_reducible exact hv.out) | (with_reducible exact Below.refl _ _) | (with_reducible refine Below.drew ?_) | (with_reducible refine Below.alloc ?_ ?_ _) | omega | (simp <;> omega)))); rintro e w4 ⟨vy, ry, rfl, oy, py, hk⟩; have hg := Lib.hid ((show Below w2.heap.size w2 _ by (repeat (first | (with_reducible exact hv.out) | (with_reducible exact Below.refl _ _) | (with_reducible refine Below.drew ?_) | (with_reducible refine Below.alloc ?_ ?_ _) | omega | (simp <;> omega)))).trans (hk.mono (by (first | omega | (simp; done) | (simp; omega))))); (try clear u0 u1 v0 v1); obtain ⟨u0, u1, v0, v1⟩ := KS.out _ hg.out; have K3 := Lib.hid hk; have OY := Lib.hid oy; have PY := Lib.hid py; obtain ⟨uy, cy, ey⟩ := own_len oy.own; subst ey; clear oy py; clear hv; have hv := hg; (try clear hsv); have hsv := hv.out.size; clear hg hk)))
  have hS : (w4.cell? ⟨w.heap.size, 0, none⟩ = some (.int .i64 (al : Int)) ∧ w4.cell? ⟨w.heap.size, 1, none⟩ = some (.int .i64 (aa : Int)) ∧ w4.cell? ⟨w.heap.size + 1, 0, none⟩ = some (.int .i64 (bl : Int)) ∧ w4.cell? ⟨w.heap.size + 1, 1, none⟩ = some (.int .i64 (ba : Int))) := KS.out _ hv.out
  have h4 : Hid (Below w4.heap.size w4 w4) := Lib.hid (Below.refl _ _)
  have hs4 : w4.heap.size ≤ w4.heap.size := Nat.le_refl _
  go_region_held3 (fun w' => (w'.cell? ⟨w.heap.size, 0, none⟩ = some (.int .i64 (al : Int)) ∧ w'.cell? ⟨w.heap.size, 1, none⟩ = some (.int .i64 (aa : Int)) ∧ w'.cell? ⟨w.heap.size + 1, 0, none⟩ = some (.int .i64 (bl : Int)) ∧ w'.cell? ⟨w.heap.size + 1, 1, none⟩ = some (.int .i64 (ba : Int)))) (first | (with_reducible exact hS) | (refine KS.out _ ?_; (repeat (first | (with_reducible exact hv.out) | (with_reducible exact Below.refl _ _) | (with_reducible refine Below.drew ?_) | (with_reducible refine Below.alloc ?_ ?_ _) | omega | (simp <;> omega))); done)) (first
    | (go_at_call 17; ((with_reducible refine (cEnd _ ?hb).mono ?_); (case hb => (repeat (first | (with_reducible exact hv.out) | (with_reducible exact Below.refl _ _) | (with_reducible refine Below.drew ?_) | (with_reducible refine Below.alloc ?_ ?_ _) | omega | (simp <;> omega)))); rintro e w5 ⟨rfl, hk⟩; have hg := Lib.hid ((show Below w2.heap.size w2 _ by (repeat (first | (with_reducible exact hv.out) | (with_reducible exact Below.refl _ _) | (with_reducible refine Below.drew ?_) | (with_reducible refine Below.alloc ?_ ?_ _) | omega | (simp <;> omega)))).trans (hk.mono (by (first | omega | (simp; done) | (simp; omega))))); replace hS := KS.out _ hg.out; have hg4 := Lib.hid ((show Below w4.heap.size w4 _ by (repeat (first | (with_reducible exact h4.out) | (with_reducible exact Below.refl _ _) | (with_reducible refine Below.drew ?_) | (with_reducible refine Below.alloc ?_ ?_ _) | omega | (simp <;> omega)))).trans (hk.mono (by (first | omega | (simp; done) | (simp; omega))))); clear h4; have h4 := hg4; (try clear hs4); have hs4 := h4.out.size; clear hg4; clear hv; have hv := hg; (try clear hsv); have hsv := hv.out.size; clear hg hk))
    | (go_at_call 36; ((with_reducible refine (cP2 _ ?hb).mono ?_); (case hb => (repeat (first | (with_reducible exact hv.out) | (with_reducible exact Below.refl _ _) | (with_reducible refine Below.drew ?_) | (with_reducible refine Below.alloc ?_ ?_ _) | omega | (simp <;> omega)))); rintro e w6 ⟨vz, rz, rfl, oz, pz, hk⟩; have hg := Lib.hid ((show Below w2.heap.size w2 _ by (repeat (first | (with_reducible exact hv.out) | (with_reducible exact Below.refl _ _) | (with_reducible refine Below.drew ?_) | (with_reducible refine Below.alloc ?_ ?_ _) | omega | (simp <;> omega)))).trans (hk.mono (by (first | omega | (simp; done) | (simp; omega))))); replace hS := KS.out _ hg.out; have hg4 := Lib.hid ((show Below w4.heap.size w4 _ by (repeat (first | (with_reducible exact h4.out) | (with_reducible exact Below.refl _ _) | (with_reducible refine Below.drew ?_) | (with_reducible refine Below.alloc ?_ ?_ _) | omega | (simp <;> omega)))).trans (hk.mono (by (first | omega | (simp; done) | (simp; omega))))); clear h4; have h4 := hg4; (try clear hs4); have hs4 := h4.out.size; clear hg4; have OZ := Lib.hid oz; have PZ := Lib.hid pz; obtain ⟨uz, cz, ez⟩ := own_len oz.own; subst ez; clear oz pz; clear hv; have hv := hg; (try clear hsv); have hsv := hv.out.size; clear hg hk)))
  have AX := (OX.out.at.below K3.out).below h4.out
  have AY := OY.out.at.below h4.out
  have AZ := OZ.out.at
  obtain ⟨hl1, hl2, hl3, hl4, hl5, hl6⟩ := HLen.out
  have lx : rx.length = X.length := by rw [← PX.out, pl_length]
  have ly : ry.length = Y.length := by rw [← PY.out, pl_length]
  have lz : rz.length = Z.length := by rw [← PZ.out, pl_length]
  obtain ⟨nx, hnx⟩ : ∃ n, rx.length = n := ⟨_, rfl⟩
  obtain ⟨ny, hny⟩ : ∃ n, ry.length = n := ⟨_, rfl⟩
  obtain ⟨nz, hnz⟩ : ∃ n, rz.length = n := ⟨_, rfl⟩
  have AX2 : Hid (DocAt w6 (.slice ux nx cx) rx) := Lib.hid (by rw [← hnx]; exact AX)
  have AY2 : Hid (DocAt w6 (.slice uy ny cy) ry) := Lib.hid (by rw [← hny]; exact AY)
  have AZ2 : Hid (DocAt w6 (.slice uz nz cz) rz) := Lib.hid (by rw [← hnz]; exact AZ)
  rw [hnx, hny, hnz]
  obtain ⟨N2, hN2⟩ : ∃ n, ny + nz = n := ⟨_, rfl⟩
  have wA : IntKind.i64.wrap ((ny : Int) + (nz : Int)) = (N2 : Int) := by
    rw [show (ny : Int) + (nz : Int) = (N2 : Int) by omega]
    exact IntWalk.i64_in _ (by omega)
  have wB : IntKind.i64.wrap ((N2 : Int) - 1) = (nx : Int) := by
    rw [show (N2 : Int) - 1 = (nx : Int) by omega]
    exact IntWalk.i64_in _ (by omega)
  have wY : IntKind.i64.wrap ((ny : Int) - 1) = (al : Int) := by
    rw [show (ny : Int) - 1 = (al : Int) by omega]
    exact IntWalk.i64_in _ (by omega)
  have HNN : Hid (rx.length = nx ∧ ry.length = ny ∧ rz.length = nz ∧ X.length = nx ∧ Y.length = ny ∧ Z.length = nz ∧ ny = al + 1 ∧ nx + 1 = ny + nz ∧ 0 < nz ∧ nx ≤ 1000 ∧ nz ≤ 1000) := Lib.hid ⟨hnx, hny, hnz, by omega, by omega, by omega, by omega, by omega, by omega, by omega, by omega⟩
  clear AX AY AZ hl1 hl2 hl3 hl4 hl5 hl6 lx ly lz hnx hny hnz hN2 K3 OX OY OZ cD cP1 cEnd cP2 h4 hs4
  have KS6 : Hid (∀ w', Below w6.heap.size w6 w' → (w'.cell? ⟨w.heap.size, 0, none⟩ = some (.int .i64 (al : Int)) ∧ w'.cell? ⟨w.heap.size, 1, none⟩ = some (.int .i64 (aa : Int)) ∧ w'.cell? ⟨w.heap.size + 1, 0, none⟩ = some (.int .i64 (bl : Int)) ∧ w'.cell? ⟨w.heap.size + 1, 1, none⟩ = some (.int .i64 (ba : Int)))) := Lib.hid (fun w' h => KS.out _ (hv.out.trans (h.mono hv.out.size)))
  have hr : Hid (Below w6.heap.size w6 w6) := Lib.hid (Below.refl _ _)
  have hS : (w6.cell? ⟨w.heap.size, 0, none⟩ = some (.int .i64 (al : Int)) ∧ w6.cell? ⟨w.heap.size, 1, none⟩ = some (.int .i64 (aa : Int)) ∧ w6.cell? ⟨w.heap.size + 1, 0, none⟩ = some (.int .i64 (bl : Int)) ∧ w6.cell? ⟨w.heap.size + 1, 1, none⟩ = some (.int .i64 (ba : Int))) := KS6.out _ hr.out
  clear u0 u1 v0 v1
  go_upto_region 16 with fail
  go_cut [195] (fun s wx => s = .bool false ∧ Hid (Below w6.heap.size w6 wx))
  case first => as_aux_lemma =>
    go_region_held3 (fun w' => (w'.cell? ⟨w.heap.size, 0, none⟩ = some (.int .i64 (al : Int)) ∧ w'.cell? ⟨w.heap.size, 1, none⟩ = some (.int .i64 (aa : Int)) ∧ w'.cell? ⟨w.heap.size + 1, 0, none⟩ = some (.int .i64 (bl : Int)) ∧ w'.cell? ⟨w.heap.size + 1, 1, none⟩ = some (.int .i64 (ba : Int)))) (first | (with_reducible exact hS) | (refine KS6.out _ ?_; (repeat (first | (with_reducible exact hr.out) | (with_reducible exact Below.refl _ _) | (with_reducible refine Below.drew ?_) | (with_reducible refine Below.alloc ?_ ?_ _) | omega | (simp <;> omega))); done)) (first
      | (go_at_call 13; ((with_reducible refine (CMX.out _ rx _ (hv.out.trans (Below.mono ?hb hv.out.size)) ?at_ PX.out).mono ?_); (case hb => exact (show Below w6.heap.size w6 _ by (repeat (first | (with_reducible exact hr.out) | (with_reducible exact Below.refl _ _) | (with_reducible refine Below.drew ?_) | (with_reducible refine Below.alloc ?_ ?_ _) | omega | (simp <;> omega))))); (try (case at_ => exact AX2.out.below (by (repeat (first | (with_reducible exact hr.out) | (with_reducible exact Below.refl _ _) | (with_reducible refine Below.drew ?_) | (with_reducible refine Below.alloc ?_ ?_ _) | omega | (simp <;> omega)))))); rintro e w7 ⟨rfl, hk⟩; have hg := Lib.hid ((show Below w6.heap.size w6 _ by (repeat (first | (with_reducible exact hr.out) | (with_reducible exact Below.refl _ _) | (with_reducible refine Below.drew ?_) | (with_reducible refine Below.alloc ?_ ?_ _) | omega | (simp <;> omega)))).trans (hk.mono (by (first | omega | (simp; done) | (simp; omega))))); replace hS := KS6.out _ hg.out; clear hr; have hr := hg; (try clear hsr); have hsr := hr.out.size; clear hg hk))
      | (go_at_call 15; ((with_reducible refine (CSX.out _ rx _ ?at_ PX.out).mono ?_); (try (case at_ => exact AX2.out.below (by (repeat (first | (with_reducible exact hr.out) | (with_reducible exact Below.refl _ _) | (with_reducible refine Below.drew ?_) | (with_reducible refine Below.alloc ?_ ?_ _) | omega | (simp <;> omega)))))); rintro e w8 ⟨rfl, hk⟩; have hg := Lib.hid ((show Below w6.heap.size w6 _ by (repeat (first | (with_reducible exact hr.out) | (with_reducible exact Below.refl _ _) | (with_reducible refine Below.drew ?_) | (with_reducible refine Below.alloc ?_ ?_ _) | omega | (simp <;> omega)))).trans (hk.mono (by (first | omega | (simp; done) | (simp; omega))))); replace hS := KS6.out _ hg.out; clear hr; have hr := hg; (try clear hsr); have hsr := hr.out.size; clear hg hk))
      | (go_at_call 15; ((with_reducible refine (CSz.out _ (hv.out.trans (Below.mono ?hb hv.out.size))).mono ?_); (case hb => (repeat (first | (with_reducible exact hr.out) | (with_reducible exact Below.refl _ _) | (with_reducible refine Below.drew ?_) | (with_reducible refine Below.alloc ?_ ?_ _) | omega | (simp <;> omega)))); (try (case at_ => exact AX2.out.below (by (repeat (first | (with_reducible exact hr.out) | (with_reducible exact Below.refl _ _) | (with_reducible refine Below.drew ?_) | (with_reducible refine Below.alloc ?_ ?_ _) | omega | (simp <;> omega)))))); rintro e w9 ⟨rfl, hk⟩; have hg := Lib.hid ((show Below w6.heap.size w6 _ by (repeat (first | (with_reducible exact hr.out) | (with_reducible exact Below.refl _ _) | (with_reducible refine Below.drew ?_) | (with_reducible refine Below.alloc ?_ ?_ _) | omega | (simp <;> omega)))).trans (hk.mono (by (first | omega | (simp; done) | (simp; omega))))); replace hS := KS6.out _ hg.out; clear hr; have hr := hg; (try clear hsr); have hsr := hr.out.size; clear hg hk))
      | (go_at_call 54; ((with_reducible refine (cCnt _ (hv.out.trans (Below.mono ?hb hv.out.size))).mono ?_); (case hb => (repeat (first | (with_reducible exact hr.out) | (with_reducible exact Below.refl _ _) | (with_reducible refine Below.drew ?_) | (with_reducible refine Below.alloc ?_ ?_ _) | omega | (simp <;> omega)))); (try (case at_ => exact AX2.out.below (by (repeat (first | (with_reducible exact hr.out) | (with_reducible exact Below.refl _ _) | (with_reducible refine Below.drew ?_) | (with_reducible refine Below.alloc ?_ ?_ _) | omega | (simp <;> omega)))))); rintro e w10 ⟨rfl, hk⟩; have hg := Lib.hid ((show Below w6.heap.size w6 _ by (repeat (first | (with_reducible exact hr.out) | (with_reducible exact Below.refl _ _) | (with_reducible refine Below.drew ?_) | (with_reducible refine Below.alloc ?_ ?_ _) | omega | (simp <;> omega)))).trans (hk.mono (by (first | omega | (simp; done) | (simp; omega))))); replace hS := KS6.out _ hg.out; clear hr; have hr := hg; (try clear hsr); have hsr := hr.out.size; clear hg hk)))
    all_goals go_wp2
    all_goals go_meet
    all_goals exact ⟨rfl, hr⟩
  case rest =>
  obtain ⟨rfl, hr1⟩ := hcut
  have hcc := hr1
  have AX := Lib.hid (AX2.out.below hcc.out)
  have AY := Lib.hid (AY2.out.below hcc.out)
  have AZ := Lib.hid (AZ2.out.below hcc.out)
  have hvL := Lib.hid (hv.out.trans (hcc.out.mono hv.out.size))
  clear AX2 AY2 AZ2 hS KS6 KS wS CMX CSX CSz cCnt hv hsv hr hr1 hcc wA wB
  go_wp2
  go_loopw [25, 26] (fun i _ wr => ∃ k : Nat, k ≤ nx ∧ i = .int .i64 k ∧ Hid (Below wc.heap.size wc wr)) (fun i _ _ => nx - (RowKit.intOf i).toNat)
  case atStart => exact ⟨0, Nat.zero_le _, rfl, Lib.hid (Below.refl _ _)⟩
  case round =>
    obtain ⟨k, hk, rfl, HB⟩ := hrel
    by_cases hlt : k < nx
    · have hny : ny = al + 1 := HNN.out.2.2.2.2.2.2.1
      have hnxz : nx + 1 = ny + nz := HNN.out.2.2.2.2.2.2.2.1
      have hnx1 := HNN.out.2.2.2.2.2.2.2.2.2.1
      have hnz1 := HNN.out.2.2.2.2.2.2.2.2.2.2
      have hkl : k < rx.length := by rw [HNN.out.1]; exact hlt
      obtain ⟨b, o, d1, e, hlc, hcm, hbl, hcs⟩ := AX.out.s.lies (by omega)
      rw [HNN.out.1] at e hlc
      obtain ⟨rfl, _, rfl⟩ := Value.slice.inj e
      unfold maxLen at hcm
      obtain ⟨q, za, n1, zc, kk, ra, n2, rc, x0, x1, x2, x3, hag⟩ := (hcs.below hbl HB.out).agg hkl
      have hlnx : (rx[k]!).ln = X[k]! := by rw [← pl_get _ _ hkl, PX.out]
      have fxk : (rx[k]!).ln.ls.length ≤ 50000 ∧ (rx[k]!).ln.cs.length ≤ 50000 ∧ Fair (rx[k]!).ln.cs := by
        refine HFX.out.z _ ?_
        rw [hlnx]
        exact at_mem (by have := HNN.out.2.2.2.1; omega)
      have LX := Lib.hid (AX.out.n _ (mem_get hkl))
      have hbw : b < wr.heap.size := Nat.lt_of_lt_of_le hbl HB.out.size
      have hkI : (k : Int) < (nx : Int) := by omega
      have hws := HB.out.size
      have HCS := Lib.hid (And.intro hcs hbl)
      clear e hcs
      rcases Nat.lt_trichotomy k al with hka | hka | hka
      · as_aux_lemma =>
        have hkm : k < ry.length := by rw [HNN.out.2.1]; omega
        obtain ⟨b', o', d2, e', hlc', hcm', hbl', hcs'⟩ := AY.out.s.lies (by omega)
        rw [HNN.out.2.1] at e' hlc'
        obtain ⟨rfl, _, rfl⟩ := Value.slice.inj e'
        unfold maxLen at hcm'
        obtain ⟨q', za', n1', zc', kk', ra', n2', rc', y0, y1, y2, y3, hag'⟩ := (hcs'.below hbl' HB.out).agg hkm
        have hM : sameL (rx[k]!).ln (ry[k]!).ln = true := sameL_iff.2 (by rw [hlnx, ← pl_get _ _ hkm, PY.out]; exact KL.out.1 k hka)
        have cF : ∀ w1, Below wc.heap.size wc w1 → _ := fun w1 h1 => rlsameA rx[k]! ry[k]! w1 (LX.out.below h1) ((AY.out.n _ (mem_get hkm)).below h1) fxk
        rw [hag, hag', hM] at cF
        have hkA : (k : Int) < (al : Int) := by omega
        have hkY : (k : Int) < (ny : Int) := by omega
        have hbw' : b' < wr.heap.size := Nat.lt_of_lt_of_le hbl' HB.out.size
        clear hcs' e' hkl hkm hM hag hag' hlnx fxk hny hnxz hka
        go_wp2
        obtain ⟨WR, hWR⟩ : ∃ W, wr.alloc (.cells #[.int .i64 q', .slice za' n1' zc', .int .i64 kk', .slice ra' n2' rc'] 46) = W := ⟨_, rfl⟩
        have hAR : Below wr.heap.size wr WR := by rw [← hWR]; exact below_alloc1 _ _
        obtain ⟨_, l0, l1, l2, l3, _, _, _, _⟩ : BoxAt WR wr.heap.size q' (.slice za' n1' zc') kk' (.slice ra' n2' rc') := by rw [← hWR]; exact box_new _ _ _ _ _
        rw [hWR]
        replace x0 := (hAR.cell (p := ⟨b, o + k * 4, none⟩) hbw).trans x0
        replace x1 := (hAR.cell (p := ⟨b, o + k * 4 + 1, none⟩) hbw).trans x1
        replace x2 := (hAR.cell (p := ⟨b, o + k * 4 + 2, none⟩) hbw).trans x2
        replace x3 := (hAR.cell (p := ⟨b, o + k * 4 + 3, none⟩) hbw).trans x3
        have HBR := Lib.hid (HB.out.trans (hAR.mono hws))
        clear HB hAR hWR y0 y1 y2 y3
        have HB := HBR
        have hws := HB.out.size
        go_still_tail 5, (by kernel_rfl)
        change wpList _ _ _ _ _ WR.drew
        go_wp2_with (go_at_call 56; ((with_reducible refine (cF _ ?hb).mono ?_); (case hb => (repeat (first | (with_reducible exact HB.out) | (with_reducible exact Below.refl _ _) | (with_reducible refine Below.drew ?_) | (with_reducible refine Below.alloc ?_ ?_ _) | omega | (simp <;> omega)))); rintro e w12 ⟨rfl, hk12⟩; have hb4 := Lib.hid ((show Below wc.heap.size wc _ by (repeat (first | (with_reducible exact HB.out) | (with_reducible exact Below.refl _ _) | (with_reducible refine Below.drew ?_) | (with_reducible refine Below.alloc ?_ ?_ _) | omega | (simp <;> omega)))).trans (hk12.mono (by (first | omega | (simp; done) | (simp; omega)))))))
        go_roundw
        case rel => exact ⟨k + 1, hlt, by go_num, Lib.hid hb4.out⟩
        case measure => simp [RowKit.intOf]; omega
      · as_aux_lemma =>  
        subst hka
        have hkm : k < ry.length := by rw [HNN.out.2.1]; omega
        have h0z : 0 < rz.length := by rw [HNN.out.2.2.1]; omega
        obtain ⟨b', o', d2, e', hlc', hcm', hbl', hcs'⟩ := AY.out.s.lies (by omega)
        rw [HNN.out.2.1] at e' hlc'
        obtain ⟨rfl, _, rfl⟩ := Value.slice.inj e'
        unfold maxLen at hcm'
        obtain ⟨q', za', n1', zc', kk', ra', n2', rc', y0, y1, y2, y3, hag'⟩ := (hcs'.below hbl' HB.out).agg hkm
        obtain ⟨b3, o3, d3, e3, hlc3, hcm3, hbl3, hcs3⟩ := AZ.out.s.lies h0z
        rw [HNN.out.2.2.1] at e3 hlc3
        obtain ⟨rfl, _, rfl⟩ := Value.slice.inj e3
        unfold maxLen at hcm3
        have hlm : (rx[k]!).ln = lnWith (ry[k]!).ln ((ry[k]!).ln.cs ++ (rz[0]!).ln.cs) := by
          rw [hlnx, KL.out.2.1, ← PY.out, ← PZ.out, pl_get ry k hkm, pl_get rz 0 h0z]
        have LY := AY.out.n _ (mem_get hkm)
        have LZ := Lib.hid (AZ.out.n _ (mem_get h0z))
        obtain ⟨y, hy⟩ : ∃ y, ry[k]! = y := ⟨_, rfl⟩
        rw [hy] at hag' hlm LY
        have hz1 : y.ln.ls.length ≤ 50000 := by have := fxk.1; rw [hlm] at this; exact this
        have hz2 : y.ln.cs.length + (rz[0]!).ln.cs.length ≤ 50000 := by
          have := fxk.2.1
          rw [hlm] at this
          have h9 : (y.ln.cs ++ (rz[0]!).ln.cs).length ≤ 50000 := this
          rwa [List.length_append] at h9
        have cO : ∀ w1, Below wc.heap.size wc w1 → _ := fun w1 h1 => rlown_any y.ln.q y.ln.k y.sl y.sc y.ln.ls y.ln.cs w1 (LY.below h1) hz1 (by omega)
        have hag2 : (.agg #[.int .i64 y.ln.q, y.sl, .int .i64 y.ln.k, y.sc] : Value) = .agg #[.int .i64 q', .slice za' n1' zc', .int .i64 kk', .slice ra' n2' rc'] := hag'
        rw [hag2] at cO
        obtain ⟨⟨Q, LS, KK, CS⟩, hyl⟩ : ∃ L, y.ln = L := ⟨_, rfl⟩
        obtain ⟨ZS, hZS⟩ : ∃ L, (rz[0]!).ln.cs = L := ⟨_, rfl⟩
        rw [hyl] at cO hlm hz1 hz2
        rw [hZS] at hlm hz2
        dsimp only at cO hz1 hz2
        have hM : sameL (rx[k]!).ln ⟨Q, LS, KK, CS ++ ZS⟩ = true := sameL_iff.2 hlm
        obtain ⟨CZ, hCZ⟩ : ∃ L, CS ++ ZS = L := ⟨_, rfl⟩
        rw [hCZ] at hM
        have HCZ2 := Lib.hid hCZ
        clear hCZ
        have HM2 := Lib.hid hM
        have HAG := Lib.hid hag
        have HXC := Lib.hid (And.intro x0 (And.intro x1 (And.intro x2 x3)))
        have HFK := Lib.hid fxk
        have HZS := Lib.hid hZS
        have HZ2 := Lib.hid hz2
        have HCZ := Lib.hid (And.intro hcs3 hbl3)
        have hkY : (k : Int) < (ny : Int) := by omega
        have hkA : ¬ (k : Int) < (k : Int) := by omega
        have hnzN : 0 < nz := by omega
        have hbw' : b' < wr.heap.size := Nat.lt_of_lt_of_le hbl' HB.out.size
        have hbw3 : b3 < wr.heap.size := Nat.lt_of_lt_of_le hbl3 HB.out.size
        clear hcs' hcs3 e' e3 hkl hkm hM hag hag' hag2 hlnx fxk hny hnxz hlm LY hy hyl hZS hz1 hz2
        go_upto_region 27 with (go_at_call 55; ((with_reducible refine (cO _ ?hb).mono ?_); (case hb => (repeat (first | (with_reducible exact HB.out) | (with_reducible exact Below.refl _ _) | (with_reducible refine Below.drew ?_) | (with_reducible refine Below.alloc ?_ ?_ _) | omega | (simp <;> omega)))); rintro e w5 ⟨sl', sc', rfl, ho, hb5⟩; obtain ⟨_, l0, l1, l2, l3, g0, g1, g2, g3⟩ := (box_new wr 0 0 (.slice none 0 0) (.slice none 0 0)).below hb5; have HO := Lib.hid ho; have HB5 := Lib.hid hb5; obtain ⟨a3, c3, e3⟩ := own_len ho.1; obtain ⟨a4, c4, e4⟩ := own_len ho.2; subst e3 e4; clear ho hb5))
        clear x0 x1 x2 x3 y0 y1 y2 y3 l0 l1 l2 l3 g0 g1 g2 g3
        obtain ⟨W7, hW7⟩ : ∃ W, ((((w5.setCell ⟨wr.heap.size, 0, none⟩ (.int .i64 Q)).setCell ⟨wr.heap.size, 1, none⟩ (.slice a3 LS.length c3)).setCell ⟨wr.heap.size, 2, none⟩ (.int .i64 KK)).setCell ⟨wr.heap.size, 3, none⟩ (.slice a4 CS.length c4)) = W := ⟨_, rfl⟩
        have BX7 : BoxAt W7 wr.heap.size Q (.slice a3 LS.length c3) KK (.slice a4 CS.length c4) := by rw [← hW7]; exact put4_box ((box_new wr 0 0 (.slice none 0 0) (.slice none 0 0)).below HB5.out)
        have O7 : OwnLn (wr.heap.size + 1) W7 (.slice a3 LS.length c3) (.slice a4 CS.length c4) LS CS := by
          rw [← hW7]
          have := HO.out
          rw [World.size_alloc] at this
          exact put4_own this (by omega)
        have HR7 : Below wr.heap.size wr W7 := by
          rw [← hW7]
          exact put4_below ((below_alloc1 wr _).trans (HB5.out.mono (by rw [World.size_alloc]; omega))) (Nat.le_refl _)
        rw [hW7]
        have HB7 : Below wc.heap.size wc W7 := HB.out.trans (HR7.mono hws)
        obtain ⟨(ba : Int), za2, n12, zc2, kk2, ra2, n22, rc2, z0, z1, z2, z3, k0, k1, k2, k3, k4, k5⟩ := (HCZ.out.1.below HCZ.out.2 HB7).get h0z
        simp only [Nat.zero_mul, Nat.add_zero] at z0 z1 z2 z3
        have RZ : RowAt W7 (.slice ra2 n22 rc2) ZS := by
          have := (LZ.out.below HB7).r
          rw [k3, HZS.out] at this
          exact this
        have RZ2 := Lib.hid (RZ.below ((Below.refl _ W7).drew))
        have O72 := Lib.hid (O7.below ((Below.refl _ W7).drew))
        have HR72 := Lib.hid HR7.drew
        have hs7 := HR7.size
        have hlt7 : wr.heap.size < W7.heap.size := BX7.lt
        have BX72 := Lib.hid BX7
        obtain ⟨_, l0, l1, l2, l3, g0, g1, g2, g3⟩ := BX7
        clear hW7 RZ O7 HR7 HB7 k0 k1 k2 k3 k4 k5 HO HB5 cO
        go_still_tail 6, (by kernel_rfl)
        change wpList _ _ _ _ _ W7.drew
        go_upto_region 28 with (at_builtin; go_loud (refine wpList_append_row rfl _ _ rfl (wr.heap.size + 1) _ CS rfl O72.out.2 _ ZS rfl RZ2.out (by have := HZ2.out; omega) (by first | omega | (simp; omega)) ?_; intro v8 w8 own8 grow8; rw [HCZ2.out] at own8; have hne : some wr.heap.size ≠ (Value.slice a4 CS.length c4).ownBlock := (fun e => bk_own_ne O72.out.2 (show wr.heap.size < wr.heap.size + 1 by omega) e.symm); have BXD := BX72.out.below (show Below W7.heap.size W7 W7.drew from (Below.refl _ W7).drew); have hltD : wr.heap.size < W7.drew.heap.size := BXD.lt; clear l0 l1 l2 l3 g0 g1 g2 g3 z0 z1 z2 z3; have l0 := (grow8.cell_far ⟨wr.heap.size, 0, none⟩ hltD hne).trans BXD.c0; have l1 := (grow8.cell_far ⟨wr.heap.size, 1, none⟩ hltD hne).trans BXD.c1; have l2 := (grow8.cell_far ⟨wr.heap.size, 2, none⟩ hltD hne).trans BXD.c2; have l3 := (grow8.cell_far ⟨wr.heap.size, 3, none⟩ hltD hne).trans BXD.c3; have g3 := (grow8.frozen_far ⟨wr.heap.size, 3, none⟩ hltD hne).trans BXD.f3; have OZ8 := Lib.hid (bk_own_grown grow8 O72.out.1 (fun g e => bk_own_apart2 O72.out.1 O72.out.2 g e)); have OC8 := Lib.hid own8; have HLT8 : Hid (wr.heap.size < w8.heap.size) := Lib.hid (Nat.lt_of_lt_of_le hltD grow8.size); have HR8 := Lib.hid (below_grown HR72.out (by first | omega | (simp; omega)) (O72.out.2.mono (show wr.heap.size ≤ wr.heap.size + 1 by omega)) grow8); obtain ⟨a5, c5, e5⟩ := own_len own8; subst e5; clear own8 grow8 hne BXD hltD))
        obtain ⟨W9, hW9⟩ : ∃ W, w8.setCell ⟨wr.heap.size, 3, none⟩ (.slice a5 CZ.length c5) = W := ⟨_, rfl⟩
        rw [hW9]
        have n0 : W9.cell? ⟨wr.heap.size, 0, none⟩ = some (.int .i64 Q) := by rw [← hW9]; exact (bk_set3 (w := w8) (b := wr.heap.size) HLT8.out l0 l1 l2 l3).1
        have n1 : W9.cell? ⟨wr.heap.size, 1, none⟩ = some (.slice a3 LS.length c3) := by rw [← hW9]; exact (bk_set3 (w := w8) (b := wr.heap.size) HLT8.out l0 l1 l2 l3).2.1
        have n2 : W9.cell? ⟨wr.heap.size, 2, none⟩ = some (.int .i64 KK) := by rw [← hW9]; exact (bk_set3 (w := w8) (b := wr.heap.size) HLT8.out l0 l1 l2 l3).2.2.1
        have n3 : W9.cell? ⟨wr.heap.size, 3, none⟩ = some (.slice a5 CZ.length c5) := by rw [← hW9]; exact (bk_set3 (w := w8) (b := wr.heap.size) HLT8.out l0 l1 l2 l3).2.2.2
        have HR9 : Below wr.heap.size wr W9 := by rw [← hW9]; exact HR8.out.setCell (p := ⟨wr.heap.size, 3, none⟩) (Nat.le_refl _) _
        have LN9 : LnAt W9 (.slice a3 LS.length c3) (.slice a5 CZ.length c5) LS CZ := by
          rw [← hW9]
          exact ⟨intsAt_of_own (own_setCell OZ8.out (show wr.heap.size < wr.heap.size + 1 by omega)), rowAt_of_own (own_setCell OC8.out (show wr.heap.size < wr.heap.size + 1 by omega))⟩
        have HB9 := HB.out.trans (HR9.mono hws)
        have hdr : Below W9.heap.size W9 W9.drew := (Below.refl _ W9).drew
        have cF : Calls Tryz.prog 56 #[aggL rx[k]!, .agg #[.int .i64 Q, .slice a3 LS.length c3, .int .i64 KK, .slice a5 CZ.length c5]] W9.drew fun e w' => e = .returned (.bool (sameL (rx[k]!).ln ⟨Q, LS, KK, CZ⟩)) ∧ Below W9.drew.heap.size W9.drew w' :=
          rlsame_any (rx[k]!).ln.q (rx[k]!).ln.k Q KK (rx[k]!).sl (rx[k]!).sc _ _ (rx[k]!).ln.ls LS (rx[k]!).ln.cs CZ W9.drew (LX.out.below (HB9.drew)) (LN9.below hdr) HFK.out.1 HFK.out.2.1
        rw [HAG.out, HM2.out] at cF
        obtain ⟨m0, m1, m2, m3⟩ := HXC.out
        have x0 := (HR9.cell (p := ⟨b, o + k * 4, none⟩) hbw).trans m0
        have x1 := (HR9.cell (p := ⟨b, o + k * 4 + 1, none⟩) hbw).trans m1
        have x2 := (HR9.cell (p := ⟨b, o + k * 4 + 2, none⟩) hbw).trans m2
        have x3 := (HR9.cell (p := ⟨b, o + k * 4 + 3, none⟩) hbw).trans m3
        have HBR := Lib.hid HB9
        clear hW9 HR9 LN9 hdr HB9 m0 m1 m2 m3 l0 l1 l2 l3 g3 HB
        have HB := HBR
        have hws := HB.out.size
        go_still_tail 5, (by kernel_rfl)
        change wpList _ _ _ _ _ W9.drew
        go_wp2_with (go_at_call 56; ((with_reducible refine cF.mono ?_); rintro e w12 ⟨rfl, hk12⟩; have hb4 := Lib.hid (HB.out.drew.trans (hk12.mono (by first | exact hws | (simp; exact hws) | omega)))))
        go_roundw
        case rel => exact ⟨k + 1, hlt, by go_num, Lib.hid hb4.out⟩
        case measure => simp [RowKit.intOf]; omega
      · as_aux_lemma =>
        obtain ⟨j, hj⟩ : ∃ j, k - al = j := ⟨_, rfl⟩
        have hkm : j < rz.length := by rw [HNN.out.2.2.1]; omega
        obtain ⟨b', o', d2, e', hlc', hcm', hbl', hcs'⟩ := AZ.out.s.lies (by omega)
        rw [HNN.out.2.2.1] at e' hlc'
        obtain ⟨rfl, _, rfl⟩ := Value.slice.inj e'
        unfold maxLen at hcm'
        obtain ⟨q', za', n1', zc', kk', ra', n2', rc', y0, y1, y2, y3, hag'⟩ := (hcs'.below hbl' HB.out).agg hkm
        have hM : sameL (rx[k]!).ln (rz[j]!).ln = true := sameL_iff.2 (by rw [hlnx, ← pl_get _ _ hkm, PZ.out, ← hj]; exact KL.out.2.2 k hka (by have := HNN.out.2.2.2.1; omega))
        have cF : ∀ w1, Below wc.heap.size wc w1 → _ := fun w1 h1 => rlsameA rx[k]! rz[j]! w1 (LX.out.below h1) ((AZ.out.n _ (mem_get hkm)).below h1) fxk
        rw [hag, hag', hM] at cF
        have hkA : ¬ (k : Int) < (al : Int) := by omega
        have hkA2 : ((k : Int) == (al : Int)) = false := by simp; omega
        have hkA3 : ¬ (k : Int) = (al : Int) := by omega
        obtain ⟨J, hJ⟩ : ∃ x : Int, (k : Int) - (ny : Int) = x := ⟨_, rfl⟩
        have wJ : IntKind.i64.wrap ((k : Int) - (ny : Int)) = J := by rw [← hJ]; exact IntWalk.i64_in _ (by omega)
        have wJ2 : IntKind.i64.wrap (J + 1) = (j : Int) := by
          rw [show J + 1 = (j : Int) by omega]
          exact IntWalk.i64_in _ (by omega)
        have hjZ : (j : Int) < (nz : Int) := by omega
        have hbw' : b' < wr.heap.size := Nat.lt_of_lt_of_le hbl' HB.out.size
        clear hcs' e' hkl hkm hM hag hag' hlnx fxk hny hnxz hka hj hJ
        go_wp2
        obtain ⟨WR, hWR⟩ : ∃ W, wr.alloc (.cells #[.int .i64 q', .slice za' n1' zc', .int .i64 kk', .slice ra' n2' rc'] 46) = W := ⟨_, rfl⟩
        have hAR : Below wr.heap.size wr WR := by rw [← hWR]; exact below_alloc1 _ _
        obtain ⟨_, l0, l1, l2, l3, _, _, _, _⟩ : BoxAt WR wr.heap.size q' (.slice za' n1' zc') kk' (.slice ra' n2' rc') := by rw [← hWR]; exact box_new _ _ _ _ _
        rw [hWR]
        replace x0 := (hAR.cell (p := ⟨b, o + k * 4, none⟩) hbw).trans x0
        replace x1 := (hAR.cell (p := ⟨b, o + k * 4 + 1, none⟩) hbw).trans x1
        replace x2 := (hAR.cell (p := ⟨b, o + k * 4 + 2, none⟩) hbw).trans x2
        replace x3 := (hAR.cell (p := ⟨b, o + k * 4 + 3, none⟩) hbw).trans x3
        have HBR := Lib.hid (HB.out.trans (hAR.mono hws))
        clear HB hAR hWR y0 y1 y2 y3
        have HB := HBR
        have hws := HB.out.size
        go_still_tail 5, (by kernel_rfl)
        change wpList _ _ _ _ _ WR.drew
        go_wp2_with (go_at_call 56; ((with_reducible refine (cF _ ?hb).mono ?_); (case hb => (repeat (first | (with_reducible exact HB.out) | (with_reducible exact Below.refl _ _) | (with_reducible refine Below.drew ?_) | (with_reducible refine Below.alloc ?_ ?_ _) | omega | (simp <;> omega)))); rintro e w12 ⟨rfl, hk12⟩; have hb4 := Lib.hid ((show Below wc.heap.size wc _ by (repeat (first | (with_reducible exact HB.out) | (with_reducible exact Below.refl _ _) | (with_reducible refine Below.drew ?_) | (with_reducible refine Below.alloc ?_ ?_ _) | omega | (simp <;> omega)))).trans (hk12.mono (by (first | omega | (simp; done) | (simp; omega)))))))
        go_roundw
        case rel => exact ⟨k + 1, hlt, by go_num, Lib.hid hb4.out⟩
        case measure => simp [RowKit.intOf]; omega
    · have hkn : k = nx := by omega
      subst hkn
      have hvv := Lib.hid (hvL.out.trans (HB.out.mono hvL.out.size))
      go_wp2_with (go_at_call 11; ((with_reducible refine (CAw.out _ hvv.out).mono ?_); rintro e w33 ⟨rfl, hk9⟩; have hvw := Lib.hid (hvv.out.trans (hk9.mono hvv.out.size))))
      go_ret
      exact ⟨rfl, hb.out.trans (hvw.out.mono hb.out.size)⟩

end Go.Proofs.YtehjfcefkiglaaaGreatDoor
