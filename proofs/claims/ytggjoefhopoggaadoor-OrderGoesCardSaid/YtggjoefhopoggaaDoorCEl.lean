/-
  Element without attributes; Text.
  A kid comes in: slices.Insert into nothing, join, Insert.
-/
import Derived.Test.YtggjoefhopoggaaDoorCNew
import Derived.OwnWalk

namespace Go.Proofs.YtggjoefhopoggaaDoor
open Go.RowKit Go.Lib

set_option maxRecDepth 20000 in
set_option maxHeartbeats 4000000 in
theorem elem_any (B : Nat) (w : World) (p nb : Nat) (deep : Int) (l : List (Option Nd)) (h : TreeAt w p nb deep l) (ha : Apart p nb l) (hnb : nb < w.heap.size) (hB : B ≤ nb) (k : Nat) (hk : ixN l 0 = (k : Int)) (tag : Int) (hT : OwnT w) (ht : (nameOf tag).toList.isEmpty = false) :
    Calls Tryd.prog 62 #[.pointer (some ⟨p, 0, none⟩), .int .i64 tag, .slice none 0 0] w fun e w' => e = .returned (.tuple #[.int .i64 k, .int .i64 0]) ∧ Below B w w' ∧ TreeAt w' p nb deep (l.set k (some (ndF (w.heap.size + 1) tag none 0 0 ⟨#[]⟩ []))) := by
  have cI := is_any w p nb deep l h
  have cE := isel_any tag w hT
  rw [ht] at cE
  have cO := own_nil w
  have cA := add_any B w p nb deep l h ha hnb hB k hk tag none 0 0 ⟨#[]⟩ []
  clear h ha hnb hk hT ht
  go_enter Tryd.func62, Tryd.ntmps62
  go_wp2_with (first
    | (go_at_call 47; ((with_reducible refine (cI).mono ?_); rintro e w1 ⟨rfl, rfl⟩))
    | (go_at_call 79; ((with_reducible refine (cE).mono ?_); rintro e w2 ⟨rfl, rfl⟩))
    | (go_at_call 78; ((with_reducible refine (cO).mono ?_); rintro e w3 ⟨rfl, rfl⟩))
    | (go_at_call 72; ((with_reducible refine (cA).mono ?_); rintro e w4 ⟨rfl, hw4⟩)))
  go_ret2
  exact ⟨rfl, hw4⟩

set_option maxRecDepth 20000 in
set_option maxHeartbeats 4000000 in
theorem text_any (B : Nat) (w : World) (p nb : Nat) (deep : Int) (l : List (Option Nd)) (h : TreeAt w p nb deep l) (ha : Apart p nb l) (hnb : nb < w.heap.size) (hB : B ≤ nb) (k : Nat) (hk : ixN l 0 = (k : Int)) (s : ByteArray) (hs : s.size ≤ 8192) (hs2 : (anewS s).size ≤ 8192) :
    Calls Tryd.prog 54 #[.pointer (some ⟨p, 0, none⟩), .string s] w fun e w' => e = .returned (.tuple #[.int .i64 k, .int .i64 0]) ∧ Below B w w' ∧ ∃ b, w.heap.size < b ∧ TreeAt w' p nb deep (l.set k (some (ndF b 0 none 0 0 (anewS s) []))) := by
  have cI := is_any w p nb deep l h
  have cN := anew_any s w
  rw [if_pos hs, decide_eq_true hs2] at cN
  have cA := fun (w1 : World) (hb : Below w.heap.size w w1) => add_any B w1 p nb deep l (h.below hnb hb) ha (Nat.lt_of_lt_of_le hnb hb.size) hB k hk 0 none 0 0 (anewS s) []
  have hBw : B ≤ w.heap.size := by omega
  obtain ⟨S, hS⟩ : ∃ S, anewS s = S := ⟨_, rfl⟩
  rw [hS] at cN cA ⊢
  clear h ha hnb hk hs hs2 hS
  go_enter Tryd.func54, Tryd.ntmps54
  go_wp2_with (first
    | (go_at_call 47; ((with_reducible refine (cI).mono ?_); rintro e w1 ⟨rfl, rfl⟩))
    | (go_at_call 71; ((with_reducible refine (cN).mono ?_); rintro e w2 ⟨rfl, hb⟩))
    | (go_at_call 72; ((with_reducible refine (cA w2 hb).mono ?_); rintro e w4 ⟨rfl, hw4, hT4⟩)))
  go_ret2
  exact ⟨rfl, (hb.mono hBw).trans hw4, _, by have := hb.size; omega, hT4⟩

end Go.Proofs.YtggjoefhopoggaaDoor

namespace Go.Proofs.YtggjoefhopoggaaDoor
open Go.RowKit Go.Lib

theorem infoIntD : (Tryd.prog.info? 3).map (fun i => (i.zero, i.size, i.bytes)) = some (some (.int .i64 0), 1, 8) := by kernel_rfl
theorem own_one {w : World} {B : Nat} {v u : Value} {t : TypeId} (h : w.ownsRow B t 1 v 1 [u]) : ∃ g cap, v = .slice (some ⟨g, 0, none⟩) 1 cap ∧ B ≤ g ∧ w.cell? ⟨g, 0, none⟩ = some u := by
  rcases h.2 with ⟨_, h0⟩ | ⟨g, cap, cur, rfl, hB, hc, _, _, _, ht⟩
  · omega
  · refine ⟨g, cap, rfl, hB, ?_⟩
    have h1 : cur.toList[0]? = some u := by
      have := congrArg (·[0]?) ht
      simpa [List.getElem?_take] using this
    simp only [World.cell?, hc]
    simpa using h1
set_option maxRecDepth 20000 in
set_option maxHeartbeats 4000000 in
theorem sins_nil (w : World) (q : Nat) (z : Int) (hq : w.cell? ⟨q, 0, none⟩ = some (.int .i64 z)) :
    Calls Tryd.prog 84 #[.slice none 0 0, .int .i64 0, .slice (some ⟨q, 0, none⟩) 1 1] w fun e w' => ∃ g cap, e = .returned (.slice (some ⟨g, 0, none⟩) 1 cap) ∧ w.heap.size ≤ g ∧ Below w.heap.size w w' ∧ w'.cell? ⟨g, 0, none⟩ = some (.int .i64 z) := by
  obtain ⟨i0, hi, hz0, hz1, hz2⟩ := info_parts infoIntD
  have HQ := Lib.hid hq
  clear hq
  go_enter Tryd.func84, Tryd.ntmps84
  go_wp2_with (at_builtin; refine wpList_append_own _ rfl _ _ 24 rfl w.heap.size 3 i0 _ 1 8 Tryd.underlying24 hi hz0 hz1 hz2 rfl (by decide) _ _ _ rfl (World.ownsRow_nil _ _ _ _) ⟨q, 0, none⟩ 1 1 [.int .i64 z] rfl (by simp) (by
    intro j u hu
    have hj : j = 0 := by
      have := (List.getElem?_eq_some_iff.1 hu).1
      simpa using this
    subst hj
    obtain rfl : Value.int .i64 z = u := by simpa using hu
    exact HQ.out) (by simp [Value.oneCell']) (by unfold maxLen; omega) (by omega) (Nat.le_refl _) ?_; intro v' w1 hown' hgrow _)
  go_ret
  obtain ⟨g, cap, rfl, hg, hc⟩ := own_one hown'
  exact ⟨g, cap, rfl, hg, Below.grown (Below.refl _ w) (show w.grownBy w1 none from hgrow) (Nat.le_refl _) (fun k e => by cases e), hc⟩

/-! ### a node turns -/
theorem Apart.turn {w : World} {p nb : Nat} {deep : Int} {l : List (Option Nd)} (h : TreeAt w p nb deep l) (ha : Apart p nb l) (hnb : nb < w.heap.size) {i : Nat} {x : Nd} (hi : l[i]? = some (some x)) (x' : Nd) (e : x'.ab = x.ab) (hk : ∀ b o, x'.ka = some ⟨b, o, none⟩ → x'.kids ≠ [] → w.heap.size ≤ b) : Apart p nb (l.set i (some x')) := by
  have hp : p < w.heap.size := lt_of_cell' h.c0
  have hl : ∀ (j : Nat) (y : Nd), (l.set i (some x'))[j]? = some (some y) → (j = i ∧ y = x') ∨ (j ≠ i ∧ l[j]? = some (some y)) := fun j y hj => by
    rw [List.getElem?_set] at hj
    split at hj
    · rename_i e
      split at hj
      · exact .inl ⟨e.symm, by simpa using hj.symm⟩
      · cases hj
    · rename_i e
      exact .inr ⟨fun e2 => e e2.symm, hj⟩
  have hn : ∀ (j : Nat) (y : Nd), (l.set i (some x'))[j]? = some (some y) → ∃ z, l[j]? = some (some z) ∧ y.ab = z.ab ∧ y.ab < w.heap.size := fun j y hj => by
    rcases hl j y hj with ⟨rfl, rfl⟩ | ⟨_, h1⟩
    · exact ⟨x, hi, e, by rw [e]; exact lt_of_cell' (h.yes _ _ hi).2.c0⟩
    · exact ⟨y, h1, rfl, lt_of_cell' (h.yes _ _ h1).2.c0⟩
  refine ⟨ha.pn, fun j y hj => ?_, fun j k y z hj hk2 hne => ?_, fun j y b o hj e1 e2 => ?_⟩
  · obtain ⟨z, h1, h2, _⟩ := hn j y hj
    rw [h2]; exact ha.pa j z h1
  · obtain ⟨y2, h1, h2, _⟩ := hn j y hj
    obtain ⟨z2, h3, h4, _⟩ := hn k z hk2
    rw [h2, h4]; exact ha.aa j k y2 z2 h1 h3 hne
  · rcases hl j y hj with ⟨rfl, rfl⟩ | ⟨_, h1⟩
    · have hb := hk b o e1 e2
      exact ⟨by omega, by omega, fun m z hm => by obtain ⟨_, _, _, h4⟩ := hn m z hm; omega⟩
    · obtain ⟨a1, a2, a3⟩ := ha.ka j y b o h1 e1 e2
      exact ⟨a1, a2, fun m z hm => by obtain ⟨z2, h3, h4, _⟩ := hn m z hm; rw [h4]; exact a3 m z2 h3⟩
theorem NodeAt.but {q : Nat} {w w' : World} {y : Nd} (h : NodeAt w y) (hb : But q w w') (h1 : y.ab ≠ q) (h2 : ∀ b o, y.ka = some ⟨b, o, none⟩ → y.kids ≠ [] → b ≠ q) : NodeAt w' y := by
  have hl := lt_of_cell' h.c0
  have hc : ∀ j, w'.cell? ⟨y.ab, j, none⟩ = w.cell? ⟨y.ab, j, none⟩ := fun j => hb.cell hl h1 j
  refine ⟨(hc 0).trans h.c0, (hc 1).trans h.c1, (hc 2).trans h.c2, (hc 3).trans h.c3, (hc 4).trans h.c4, (hc 5).trans h.c5, fun j => (World.frozen?_of_block (w := w) (hb.block y.ab hl h1)).trans (h.f j), ?_, h.kl⟩
  rcases h.ks with hk | ⟨b, o, e, hk⟩
  · exact .inl hk
  · by_cases h0 : y.kids = []
    · exact .inl h0
    · exact .inr ⟨b, o, e, fun j hj => (hb.cell (ka_lt h e h0) (h2 b o e h0) (o + j)).trans (hk j hj)⟩
theorem TreeAt.turn {w w' : World} {p nb : Nat} {deep : Int} {l : List (Option Nd)} (h : TreeAt w p nb deep l) (ha : Apart p nb l) (hnb : nb < w.heap.size) {i : Nat} {x : Nd} (hi : l[i]? = some (some x)) (x' : Nd) (e : x'.ab = x.ab) (hb : But x.ab w w') (hx : NodeAt w' x') : TreeAt w' p nb deep (l.set i (some x')) := by
  have hpl := lt_of_cell' h.c0
  obtain ⟨n1, n2⟩ := ha.pa i x hi
  have hil : i < l.length := (List.getElem?_eq_some_iff.1 hi).1
  refine ⟨(hb.cell hpl (fun e => n1 e.symm) 0).trans h.c0, ?_, (hb.cell hpl (fun e => n1 e.symm) 2).trans h.c2, by rw [List.length_set]; exact h.le, fun j hj => ?_, fun j y hj => ?_, fun j => (World.frozen?_of_block (w := w) (hb.block nb hnb (fun e => n2 e.symm))).trans (h.f j)⟩
  · rw [List.length_set]; exact (hb.cell hpl (fun e => n1 e.symm) 1).trans h.c1
  · rw [List.getElem?_set] at hj
    split at hj
    · rename_i e2
      subst e2
      cases hj
    · exact (hb.cell hnb (fun e => n2 e.symm) j).trans (h.no j hj)
  · rw [hb.cell hnb (fun e => n2 e.symm) j]
    rw [List.getElem?_set] at hj
    split at hj
    · rename_i e2
      subst e2
      obtain rfl : x' = y := by simpa using hj
      exact ⟨by rw [e]; exact (h.yes _ _ hi).1, hx⟩
    · rename_i e2
      obtain ⟨y1, y2⟩ := h.yes j y hj
      exact ⟨y1, y2.but hb (ha.aa j i y x hj hi (fun e => e2 e.symm)) (fun b o e1 e3 => (ha.ka j y b o hj e1 e3).2.2 i x hi)⟩
theorem NodeAt.setUp {w : World} {y : Nd} (h : NodeAt w y) (h2 : ∀ b o, y.ka = some ⟨b, o, none⟩ → y.kids ≠ [] → b ≠ y.ab) (u : Int) : NodeAt (w.setCell ⟨y.ab, 4, none⟩ (.int .i64 u)) { y with up := u } := by
  have hc : ∀ j, j ≠ 4 → (w.setCell ⟨y.ab, 4, none⟩ (.int .i64 u)).cell? ⟨y.ab, j, none⟩ = w.cell? ⟨y.ab, j, none⟩ := fun j hj => World.cell?_setCell_other _ _ _ _ (fun e => hj (congrArg Addr.off e).symm)
  refine ⟨(hc 0 (by decide)).trans h.c0, (hc 1 (by decide)).trans h.c1, (hc 2 (by decide)).trans h.c2, (hc 3 (by decide)).trans h.c3, World.cell?_setCell_same _ _ _ h.c4, (hc 5 (by decide)).trans h.c5, fun j => by rw [World.frozen?_setCell]; exact h.f j, ?_, h.kl⟩
  rcases h.ks with hk | ⟨b, o, e, hk⟩
  · exact .inl hk
  · by_cases h0 : y.kids = []
    · exact .inl h0
    · exact .inr ⟨b, o, e, fun j hj => (World.cell?_setCell_far w ⟨y.ab, 4, none⟩ _ _ (fun e2 => h2 b o e h0 e2.symm)).trans (hk j hj)⟩
theorem NodeAt.setKids {w : World} {x : Nd} (h : NodeAt w x) (g cap : Nat) (z : Int) (hg : g ≠ x.ab) (hz : w.cell? ⟨g, 0, none⟩ = some (.int .i64 z)) : NodeAt (w.setCell ⟨x.ab, 5, none⟩ (.slice (some ⟨g, 0, none⟩) 1 cap)) { x with ka := some ⟨g, 0, none⟩, kc := cap, kids := [z] } := by
  have hc : ∀ j, j ≠ 5 → (w.setCell ⟨x.ab, 5, none⟩ (.slice (some ⟨g, 0, none⟩) 1 cap)).cell? ⟨x.ab, j, none⟩ = w.cell? ⟨x.ab, j, none⟩ := fun j hj => World.cell?_setCell_other _ _ _ _ (fun e => hj (congrArg Addr.off e).symm)
  refine ⟨(hc 0 (by decide)).trans h.c0, (hc 1 (by decide)).trans h.c1, (hc 2 (by decide)).trans h.c2, (hc 3 (by decide)).trans h.c3, (hc 4 (by decide)).trans h.c4, World.cell?_setCell_same _ _ _ h.c5, fun j => by rw [World.frozen?_setCell]; exact h.f j, .inr ⟨g, 0, rfl, fun j hj => ?_⟩, by show 1 ≤ 2000; omega⟩
  obtain rfl : j = 0 := by simpa using hj
  exact (World.cell?_setCell_far w ⟨x.ab, 5, none⟩ _ _ (fun e2 => hg e2.symm)).trans hz

/-- A parent's first kid. -/
def joined (l : List (Option Nd)) (i : Nat) (x : Nd) (j : Nat) (y : Nd) (g cap : Nat) : List (Option Nd) := (l.set i (some { x with ka := some ⟨g, 0, none⟩, kc := cap, kids := [(j : Int)] })).set j (some { y with up := i })
set_option maxRecDepth 20000 in
set_option maxHeartbeats 4000000 in
theorem join_first (B : Nat) (w : World) (p nb : Nat) (deep : Int) (l : List (Option Nd)) (h : TreeAt w p nb deep l) (ha : Apart p nb l) (hnb : nb < w.heap.size) (i j : Nat) (x y : Nd) (hi : l[i]? = some (some x)) (hj : l[j]? = some (some y)) (hij : i ≠ j) (hx : x.ka = none ∧ x.kc = 0 ∧ x.kids = []) (hBx : B ≤ x.ab) (hBy : B ≤ y.ab) :
    Calls Tryd.prog 69 #[.pointer (some ⟨p, 0, none⟩), .int .i64 i, .int .i64 0, .int .i64 j] w fun e w' => e = .returned (.tuple #[]) ∧ Below B w w' ∧ ∃ g cap, w.heap.size ≤ g ∧ TreeAt w' p nb deep (joined l i x j y g cap) := by
  have hb1 := (Below.refl _ w).alloc (Nat.le_refl _) (.cells #[.int .i64 (j : Int)] 3)
  have hsz : (w.alloc (.cells #[.int .i64 (j : Int)] 3)).heap.size = w.heap.size + 1 := by simp
  have cS := sins_nil (w.alloc (.cells #[.int .i64 (j : Int)] 3)) w.heap.size j (by simp [go_sem])
  have hT := h.below hnb hb1
  have hil : i < l.length := (List.getElem?_eq_some_iff.1 hi).1
  have hjl : j < l.length := (List.getElem?_eq_some_iff.1 hj).1
  have c1 := h.c1
  have hle := h.le
  obtain ⟨x1, x2⟩ := h.yes i x hi
  have x5 := x2.c5
  rw [hx.1, hx.2.1, hx.2.2, List.length_nil] at x5
  obtain ⟨n, hn⟩ : ∃ n, l.length = n := ⟨_, rfl⟩
  rw [hn] at hil hjl c1 hle
  have hiI : (i : Int) < (n : Int) := by omega
  have hjI : (j : Int) < (n : Int) := by omega
  have xf := x2.f 5
  have HT := Lib.hid h
  have HA := Lib.hid ha
  have HN := Lib.hid hn
  have HI := Lib.hid hi
  have HJ := Lib.hid hj
  have HB1 := Lib.hid hb1
  have HBB := Lib.hid (And.intro hBx hBy)
  clear hBx hBy
  obtain ⟨bx, hbx⟩ : ∃ b, x.ab = b := ⟨_, rfl⟩
  obtain ⟨by_, hby⟩ : ∃ b, y.ab = b := ⟨_, rfl⟩
  rw [hbx] at x1 x5 xf
  have HBX := Lib.hid hbx
  have HBY := Lib.hid hby
  have hxb : bx < w.heap.size := lt_of_cell' x5
  clear h ha hn hi hj hT hb1 hbx hby x2 hx
  go_enter Tryd.func69, Tryd.ntmps69
  go_upto_region 1 with fail
  go_wp2_with (go_at_call 84; ((with_reducible refine (cS).mono ?_); rintro e w1 ⟨g, cap, rfl, hg, hb2, hz⟩; have hb : Below w.heap.size w w1 := HB1.out.trans (hb2.mono (by omega)); have T1 := HT.out.below hnb hb; obtain ⟨x1', x2'⟩ := T1.yes i x HI.out; obtain ⟨y1', y2'⟩ := T1.yes j y HJ.out; have d1 := T1.c1; rw [HN.out] at d1; rw [HBY.out] at y1'; have x5' := x2'.c5; have xf' := x2'.f 5; have y4' := y2'.c4; have yf' := y2'.f 4; rw [HBX.out] at x5' xf'; rw [HBY.out] at y4' yf'; obtain ⟨n1, n2⟩ := HA.out.pa i x HI.out; have n3 := HA.out.aa i j x y HI.out HJ.out hij; rw [HBX.out] at n1 n2 n3; rw [HBY.out] at n3; have X2 := Lib.hid x2'; have Y2 := Lib.hid y2'; have HT1 := Lib.hid T1; have HZ := Lib.hid hz; clear x2' y2' T1 hz))
  go_end0
  have ex := HBX.out
  have ey := HBY.out
  subst ex
  subst ey
  refine ⟨rfl, (((hb.mono (Nat.le_trans HBB.out.1 (Nat.le_of_lt hxb))).setCell (p := ⟨x.ab, 5, none⟩) HBB.out.1 _).setCell (p := ⟨y.ab, 4, none⟩) HBB.out.2 _), g, cap, by omega, ?_⟩
  have hn1 : nb < w1.heap.size := Nat.lt_of_lt_of_le hnb hb.size
  have b5 : But x.ab w1 (w1.setCell ⟨x.ab, 5, none⟩ (.slice (some ⟨g, 0, none⟩) 1 cap)) := (But.refl _ _).setCell 5 _
  have NX := X2.out.setKids g cap j (by omega) HZ.out
  have T2 := TreeAt.turn HT1.out HA.out hn1 HI.out { x with ka := some ⟨g, 0, none⟩, kc := cap, kids := [(j : Int)] } rfl b5 NX
  have A2 := Apart.turn HT.out HA.out hnb HI.out { x with ka := some ⟨g, 0, none⟩, kc := cap, kids := [(j : Int)] } rfl (fun b o e _ => by
    simp only [Option.some.injEq, Addr.mk.injEq] at e
    omega)
  have hj2 : (l.set i (some { x with ka := some ⟨g, 0, none⟩, kc := cap, kids := [(j : Int)] }))[j]? = some (some y) := by
    rw [List.getElem?_set, if_neg hij]; exact HJ.out
  have NY0 := Y2.out.but b5 (fun e => n3 e.symm) (fun b o e1 e2 => (HA.out.ka j y b o HJ.out e1 e2).2.2 i x HI.out)
  have NY := NY0.setUp (fun b o e1 e2 => (HA.out.ka j y b o HJ.out e1 e2).2.2 j y HJ.out) i
  exact TreeAt.turn T2 A2 (by simpa [World.setCell] using hn1) hj2 { y with up := (i : Int) } rfl ((But.refl _ _).setCell 4 _) NY

end Go.Proofs.YtggjoefhopoggaaDoor
