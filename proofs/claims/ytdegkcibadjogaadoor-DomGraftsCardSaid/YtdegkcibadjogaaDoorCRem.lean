/-
  Remove.
-/
import Derived.Test.YtdegkcibadjogaaDoorCGrow

namespace Go.Proofs.YtdegkcibadjogaaDoor
open Go.RowKit Go.Lib

/-- A kid has gone out. -/
def removedZ (l : List (Option Nd)) (i : Nat) (x : Nd) (at_ j : Nat) (y : Nd) : List (Option Nd) := (l.set i (some { x with kids := delZ x.kids at_ })).set j (some { y with up := -1 })
/-- What stands behind Delete and the two stores. -/
theorem Full.removed {B : Nat} {w w1 : World} {p nb : Nat} {deep : Int} {l : List (Option Nd)} (h : Full B w p nb deep l) {i at_ j g : Nat} {x y : Nd} (hi : l[i]? = some (some x)) (hj : l[j]? = some (some y)) (hij : i ≠ j) (hat : at_ < x.kids.length) (hg : x.ka = some ⟨g, 0, none⟩)
    (own : w1.ownsRow B 3 1 (.slice (some ⟨g, 0, none⟩) (delZ x.kids at_).length x.kc) (delZ x.kids at_).length (cellsZ (delZ x.kids at_))) (hgr : w.grownBy w1 (some g)) :
    Full B ((w1.setCell ⟨x.ab, 5, none⟩ (.slice (some ⟨g, 0, none⟩) (delZ x.kids at_).length x.kc)).setCell ⟨y.ab, 4, none⟩ (.int .i64 (-1))) p nb deep (removedZ l i x at_ j y) ∧
    Below B w ((w1.setCell ⟨x.ab, 5, none⟩ (.slice (some ⟨g, 0, none⟩) (delZ x.kids at_).length x.kc)).setCell ⟨y.ab, 4, none⟩ (.int .i64 (-1))) := by
  have hkg : x.ks.ownBlock = some g := ks_block hg
  obtain ⟨hxB, _, _⟩ := h.ab i x hi
  obtain ⟨hyB, _, _⟩ := h.ab j y hj
  have kx : g ≠ x.ab := ((h.kb i x g hi hkg).2.2 i x hi).1
  have hxl : x.ab < w.heap.size := lt_of_cell' (h.t.yes i x hi).2.c0
  have xn := (h.t.yes i x hi).2
  have hb1 : Below B w w1 := (Below.refl B w).grown hgr (by have := h.bn; have := h.ln; omega) (fun k e => by
    obtain rfl : g = k := by simpa using e
    exact ((h.own i x hi).lt _ hkg).1)
  have hW : ∀ b, b < w.heap.size → b ≠ g → w1.heap[b]? = w.heap[b]? := fun b hb hn => hgr.block b hb (fun e => hn (by simpa using e))
  have T2 : Turned x w (w1.setCell ⟨x.ab, 5, none⟩ (.slice (some ⟨g, 0, none⟩) (delZ x.kids at_).length x.kc)) :=
    ⟨by simpa [World.setCell] using hgr.size, fun b hb hn hk => (Below.heap_setCell w1 ⟨x.ab, 5, none⟩ _ b hn).trans (hW b hb (fun e => hk (by rw [e]; exact hkg)))⟩
  have hxw : ∀ k, w1.cell? ⟨x.ab, k, none⟩ = w.cell? ⟨x.ab, k, none⟩ := fun k => World.cell?_of_block (w := w) (hW x.ab hxl (fun e => kx e.symm))
  have hc : ∀ k, k ≠ 5 → (w1.setCell ⟨x.ab, 5, none⟩ (.slice (some ⟨g, 0, none⟩) (delZ x.kids at_).length x.kc)).cell? ⟨x.ab, k, none⟩ = w.cell? ⟨x.ab, k, none⟩ := fun k hk => (World.cell?_setCell_other _ _ _ _ (fun e => hk (congrArg Addr.off e).symm)).trans (hxw k)
  have hne : (Value.slice (some (⟨g, 0, none⟩ : Addr)) (delZ x.kids at_).length x.kc).ownBlock ≠ some x.ab := fun e => kx (by simpa [Value.ownBlock] using e)
  have hlen := delZ_len hat
  have NX : NodeAt (w1.setCell ⟨x.ab, 5, none⟩ (.slice (some ⟨g, 0, none⟩) (delZ x.kids at_).length x.kc)) { x with kids := delZ x.kids at_ } := by
    refine ⟨(hc 0 (by decide)).trans xn.c0, (hc 1 (by decide)).trans xn.c1, (hc 2 (by decide)).trans xn.c2, (hc 3 (by decide)).trans xn.c3, (hc 4 (by decide)).trans xn.c4, ?_, fun k => by rw [World.frozen?_setCell]; exact (World.frozen?_of_block (w := w) (hW x.ab hxl (fun e => kx e.symm))).trans (xn.f k), ?_, by have := xn.kl; show (delZ x.kids at_).length ≤ 2000; omega⟩
    · refine (World.cell?_setCell_same _ _ _ ((hxw 5).trans xn.c5)).trans ?_
      show some (Value.slice (some ⟨g, 0, none⟩) (delZ x.kids at_).length x.kc) = some (Value.slice x.ka (delZ x.kids at_).length x.kc)
      rw [hg]
    · obtain ⟨ka, kc, e, hk⟩ := own_kids own
      obtain ⟨e1, _⟩ : (some (⟨g, 0, none⟩ : Addr)) = ka ∧ x.kc = kc := by simpa using e
      rcases hk with h0 | ⟨b, o, e2, h0⟩
      · exact .inl h0
      · rw [← e1] at e2
        refine .inr ⟨b, o, hg.trans e2, fun k hk2 => ?_⟩
        refine (World.cell?_setCell_far w1 ⟨x.ab, 5, none⟩ _ _ (fun e3 => kx ?_)).trans (h0 k hk2)
        simp only [Option.some.injEq, Addr.mk.injEq] at e2
        have e4 : x.ab = b := e3
        omega
  have F2 := Full.turn h hi { x with kids := delZ x.kids at_ } rfl T2 NX (by
    show World.ownsRow _ B 3 1 (.slice x.ka (delZ x.kids at_).length x.kc) (delZ x.kids at_).length (cellsZ (delZ x.kids at_))
    rw [hg]
    exact own.kept (grown_set w1 x.ab 5 _) (.inr hne)) (.inl (by
    show (Value.slice x.ka (delZ x.kids at_).length x.kc).ownBlock = _
    rw [hkg, hg]; rfl))
  have hj2 : (l.set i (some { x with kids := delZ x.kids at_ }))[j]? = some (some y) := by
    rw [List.getElem?_set, if_neg hij]; exact hj
  have hyy : ∀ b, y.ks.ownBlock = some b → b ≠ y.ab := fun b e => ((h.kb j y b hj e).2.2 j y hj).1
  have NY := (F2.t.yes j y hj2).2.setUp (fun b o e1 _ => hyy b (ks_block e1)) (-1)
  exact ⟨Full.turn F2 hj2 { y with up := -1 } rfl ⟨by simp [World.setCell], fun b _ hn _ => Below.heap_setCell _ ⟨y.ab, 4, none⟩ _ b hn⟩ NY ((F2.own j y hj2).kept (grown_set _ y.ab 4 _) (.inr (fun e => hyy _ e rfl))) (.inl rfl),
    (hb1.setCell (p := ⟨x.ab, 5, none⟩) hxB _).setCell (p := ⟨y.ab, 4, none⟩) hyB _⟩

set_option maxRecDepth 20000 in
set_option maxHeartbeats 8000000 in
theorem remove_any (B : Nat) (w : World) (p nb : Nat) (deep : Int) (l : List (Option Nd)) (h : Full B w p nb deep l) (i at_ j : Nat) (x y : Nd) (hi : l[i]? = some (some x)) (hj : l[j]? = some (some y)) (hij : i ≠ j) (hup : y.up = (i : Int)) (hix : ixZ x.kids (j : Int) 0 = (at_ : Int)) (hat : at_ < x.kids.length) :
    Calls Tryd.prog 29 #[.pointer (some ⟨p, 0, none⟩), .int .i64 j] w fun e w' => e = .returned (.int .i64 0) ∧ Below B w w' ∧ Full B w' p nb deep (removedZ l i x at_ j y) := by
  have hb1 := (Below.refl _ w).alloc (Nat.le_refl _) (.cells #[.int .i64 (j : Int)] 3)
  have hny := ndAt_of hj
  have hnx := ndAt_of hi
  have F1 := h.below hb1
  have cA := ask_any _ p nb deep l F1.t w.heap.size [(j : Int)] (by simp) (fun k hk => by
    obtain rfl : k = 0 := by simpa using hk
    simp [go_sem])
  have e1 : askT l [(j : Int)] = 0 := by
    unfold askT
    rw [if_pos]
    simp [hasT, hny]
  have e2 : [(j : Int)].length = 1 := rfl
  rw [e1, e2] at cA
  have cI := index_any _ p nb deep (j : Int) l F1.t
  have e3 : indexT l (j : Int) = (at_ : Int) := by
    unfold indexT upT
    rw [hny]
    show (match ndAt l y.up with | none => -1 | some x => ixZ x.kids (j : Int) 0) = _
    rw [hup, hnx]
    exact hix
  rw [e3] at cI
  obtain ⟨g, hg⟩ : ∃ g, x.ka = some ⟨g, 0, none⟩ := by
    rcases (h.own i x hi).2 with ⟨e, h0⟩ | ⟨g, cap, cur, e, _⟩
    · omega
    · unfold Nd.ks at e
      simp only [Value.slice.injEq] at e
      exact ⟨g, e.1⟩
  have hown : ∀ wq, Below w.heap.size w wq → wq.ownsRow B 3 1 (.slice (some ⟨g, 0, none⟩) x.kids.length x.kc) x.kids.length (cellsZ x.kids) := fun wq hb => by
    have := (h.below hb).own i x hi
    unfold Nd.ks at this
    rw [hg] at this
    exact this
  have cD := fun (wq : World) (hb : Below w.heap.size w wq) => sdel_any B wq g x.kc x.kids at_ (hown wq hb) hat
  have KW : Hid (∀ wq, Below w.heap.size w wq → ∀ w2, wq.grownBy w2 (some g) → (w2.cell? ⟨x.ab, 5, none⟩ = some x.ks ∧ w2.frozen? ⟨x.ab, 5, none⟩ = false) ∧ w2.cell? ⟨y.ab, 4, none⟩ = some (.int .i64 y.up) ∧ w2.frozen? ⟨y.ab, 4, none⟩ = false) := Lib.hid (fun wq hb w2 hgr => by
    have F := h.below hb
    obtain ⟨_, _, a3⟩ := h.kb i x g hi (ks_block hg)
    have kx := (a3 i x hi).1
    have ky := (a3 j y hj).1
    have hbx := hgr.block x.ab (lt_of_cell' (F.t.yes i x hi).2.c0) (fun e => kx (by simpa using e.symm))
    have hby := hgr.block y.ab (lt_of_cell' (F.t.yes j y hj).2.c0) (fun e => ky (by simpa using e.symm))
    exact ⟨⟨(World.cell?_of_block (w := wq) hbx).trans (F.t.yes i x hi).2.c5, (World.frozen?_of_block (w := wq) hbx).trans ((F.t.yes i x hi).2.f 5)⟩, (World.cell?_of_block (w := wq) hby).trans (F.t.yes j y hj).2.c4, (World.frozen?_of_block (w := wq) hby).trans ((F.t.yes j y hj).2.f 4)⟩)
  have KR : Hid (∀ wq, Below w.heap.size w wq → ∀ w2, w2.ownsRow B 3 1 (.slice (some ⟨g, 0, none⟩) (delZ x.kids at_).length x.kc) (delZ x.kids at_).length (cellsZ (delZ x.kids at_)) → wq.grownBy w2 (some g) → Below B w ((w2.setCell ⟨x.ab, 5, none⟩ (.slice (some ⟨g, 0, none⟩) (delZ x.kids at_).length x.kc)).setCell ⟨y.ab, 4, none⟩ (.int .i64 (-1))) ∧ Full B ((w2.setCell ⟨x.ab, 5, none⟩ (.slice (some ⟨g, 0, none⟩) (delZ x.kids at_).length x.kc)).setCell ⟨y.ab, 4, none⟩ (.int .i64 (-1))) p nb deep (removedZ l i x at_ j y)) := Lib.hid (fun wq hb w2 own hgr => by
    obtain ⟨r1, r2⟩ := (h.below hb).removed hi hj hij hat hg own hgr
    exact ⟨(hb.mono (by have := h.bn; have := h.ln; omega)).trans r2, r1⟩)
  have hjl : j < l.length := (List.getElem?_eq_some_iff.1 hj).1
  have hil : i < l.length := (List.getElem?_eq_some_iff.1 hi).1
  have c1 := F1.t.c1
  obtain ⟨xc, xn⟩ := F1.t.yes i x hi
  obtain ⟨yc, yn⟩ := F1.t.yes j y hj
  have y4 := yn.c4
  have x5 := xn.c5
  rw [hup] at y4
  rw [hg] at x5
  have hle := h.t.le
  have hkl := (h.t.yes i x hi).2.kl
  have hw1 : IntKind.i64.wrap ((at_ : Int) + 1) = (at_ : Int) + 1 := IntWalk.i64_in _ (by omega)
  obtain ⟨n, hn⟩ : ∃ n, l.length = n := ⟨_, rfl⟩
  rw [hn] at hil hjl c1 hle
  have hiI : (i : Int) < (n : Int) := by omega
  have hjI : (j : Int) < (n : Int) := by omega
  obtain ⟨bx, hbx⟩ : ∃ b, x.ab = b := ⟨_, rfl⟩
  obtain ⟨by_, hby⟩ : ∃ b, y.ab = b := ⟨_, rfl⟩
  rw [hbx] at xc x5 KW KR
  rw [hby] at yc y4 KW KR
  have HB1 := Lib.hid hb1
  clear h F1 hi hj hij hup hix hat hny hnx e1 e2 e3 hg hown xn yn hn hbx hby hb1 hkl
  go_enter Tryd.func29, Tryd.ntmps29
  go_wp2_with (first
    | (go_at_call 44; ((with_reducible refine (cA).mono ?_); rintro e w1 ⟨rfl, rfl⟩))
    | (go_at_call 28; ((with_reducible refine (cI).mono ?_); rintro e w1 ⟨rfl, rfl⟩)))
  go_quiet (fail)
  have HQ : Hid (Below w.heap.size w ((w.alloc (.cells #[.int .i64 (j : Int)] 3)).drewN nq)) := Lib.hid (HB1.out.trans ((bdraws _ nq).mono (by simp)))
  go_wp2_with (go_at_call 79; ((with_reducible refine (cD _ HQ.out).mono ?_); rintro e w2 ⟨rfl, own2, gr2⟩; obtain ⟨⟨d5, g5⟩, d4, g4⟩ := KW.out _ HQ.out _ gr2; have HR := Lib.hid (KR.out _ HQ.out _ own2 gr2); clear own2 gr2))
  go_ret
  exact ⟨rfl, HR.out⟩

end Go.Proofs.YtdegkcibadjogaaDoor
