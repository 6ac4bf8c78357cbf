/-
  Remove.
  SetTag, SetText.
-/
import Derived.Test.YtggjoefhopoggaaDoorCGrow

namespace Go.Proofs.YtggjoefhopoggaaDoor
open Go.RowKit Go.Lib

/-- A kid has gone out. -/
def removedZ (l : List (Option Nd)) (i : Nat) (x : Nd) (at_ j : Nat) (y : Nd) : List (Option Nd) := (l.set i (some { x with kids := delZ x.kids at_ })).set j (some { y with up := -1 })
/-- What stands behind Delete and the two stores. -/
theorem Full.removed {B : Nat} {w w1 : World} {p nb : Nat} {deep : Int} {l : List (Option Nd)} (h : Full B w p nb deep l) {i at_ j g : Nat} {x y : Nd} (hi : l[i]? = some (some x)) (hj : l[j]? = some (some y)) (hij : i ≠ j) (hat : at_ < x.kids.length) (hg : x.ka = some ⟨g, 0, none⟩)
    (own : w1.ownsRow B 3 1 (.slice (some ⟨g, 0, none⟩) (delZ x.kids at_).length x.kc) (delZ x.kids at_).length (cellsZ (delZ x.kids at_))) (hgr : w.grownBy w1 (some g)) :
    Full B ((w1.setCell ⟨x.ab, 5, none⟩ (.slice (some ⟨g, 0, none⟩) (delZ x.kids at_).length x.kc)).setCell ⟨y.ab, 4, none⟩ (.int .i64 (-1))) p nb deep (removedZ l i x at_ j y) ∧
    Below B w ((w1.setCell ⟨x.ab, 5, none⟩ (.slice (some ⟨g, 0, none⟩) (delZ x.kids at_).length x.kc)).setCell ⟨y.ab, 4, none⟩ (.int .i64 (-1))) := by
  have hkg : x.ks.ownBlock = some g := ks_block hg
  obtain ⟨hxB, _, _⟩ := h.ab i x hi
  obtain ⟨hyB, _, _⟩ := h.ab j y hj
  have kx : g ≠ x.ab := ((h.kb i x g hi hkg).2.2 i x hi).1
  have hxl : x.ab < w.heap.size := lt_of_cell' (h.t.yes i x hi).2.c0
  have xn := (h.t.yes i x hi).2
  have hb1 : Below B w w1 := (Below.refl B w).grown hgr (by have := h.bn; have := h.ln; omega) (fun k e => by
    obtain rfl : g = k := by simpa using e
    exact ((h.own i x hi).lt _ hkg).1)
  have hW : ∀ b, b < w.heap.size → b ≠ g → w1.heap[b]? = w.heap[b]? := fun b hb hn => hgr.block b hb (fun e => hn (by simpa using e))
  have T2 : Turned x w (w1.setCell ⟨x.ab, 5, none⟩ (.slice (some ⟨g, 0, none⟩) (delZ x.kids at_).length x.kc)) :=
    ⟨by simpa [World.setCell] using hgr.size, fun b hb hn hk => (Below.heap_setCell w1 ⟨x.ab, 5, none⟩ _ b hn).trans (hW b hb (fun e => hk (by rw [e]; exact hkg)))⟩
  have hxw : ∀ k, w1.cell? ⟨x.ab, k, none⟩ = w.cell? ⟨x.ab, k, none⟩ := fun k => World.cell?_of_block (w := w) (hW x.ab hxl (fun e => kx e.symm))
  have hc : ∀ k, k ≠ 5 → (w1.setCell ⟨x.ab, 5, none⟩ (.slice (some ⟨g, 0, none⟩) (delZ x.kids at_).length x.kc)).cell? ⟨x.ab, k, none⟩ = w.cell? ⟨x.ab, k, none⟩ := fun k hk => (World.cell?_setCell_other _ _ _ _ (fun e => hk (congrArg Addr.off e).symm)).trans (hxw k)
  have hne : (Value.slice (some (⟨g, 0, none⟩ : Addr)) (delZ x.kids at_).length x.kc).ownBlock ≠ some x.ab := fun e => kx (by simpa [Value.ownBlock] using e)
  have hlen := delZ_len hat
  have NX : NodeAt (w1.setCell ⟨x.ab, 5, none⟩ (.slice (some ⟨g, 0, none⟩) (delZ x.kids at_).length x.kc)) { x with kids := delZ x.kids at_ } := by
    refine ⟨(hc 0 (by decide)).trans xn.c0, (hc 1 (by decide)).trans xn.c1, (hc 2 (by decide)).trans xn.c2, (hc 3 (by decide)).trans xn.c3, (hc 4 (by decide)).trans xn.c4, ?_, fun k => by rw [World.frozen?_setCell]; exact (World.frozen?_of_block (w := w) (hW x.ab hxl (fun e => kx e.symm))).trans (xn.f k), ?_, by have := xn.kl; show (delZ x.kids at_).length ≤ 2000; omega⟩
    · refine (World.cell?_setCell_same _ _ _ ((hxw 5).trans xn.c5)).trans ?_
      show some (Value.slice (some ⟨g, 0, none⟩) (delZ x.kids at_).length x.kc) = some (Value.slice x.ka (delZ x.kids at_).length x.kc)
      rw [hg]
    · obtain ⟨ka, kc, e, hk⟩ := own_kids own
      obtain ⟨e1, _⟩ : (some (⟨g, 0, none⟩ : Addr)) = ka ∧ x.kc = kc := by simpa using e
      rcases hk with h0 | ⟨b, o, e2, h0⟩
      · exact .inl h0
      · rw [← e1] at e2
        refine .inr ⟨b, o, hg.trans e2, fun k hk2 => ?_⟩
        refine (World.cell?_setCell_far w1 ⟨x.ab, 5, none⟩ _ _ (fun e3 => kx ?_)).trans (h0 k hk2)
        simp only [Option.some.injEq, Addr.mk.injEq] at e2
        have e4 : x.ab = b := e3
        omega
  have F2 := Full.turn h hi { x with kids := delZ x.kids at_ } rfl T2 NX (by
    show World.ownsRow _ B 3 1 (.slice x.ka (delZ x.kids at_).length x.kc) (delZ x.kids at_).length (cellsZ (delZ x.kids at_))
    rw [hg]
    exact own.kept (grown_set w1 x.ab 5 _) (.inr hne)) (.inl (by
    show (Value.slice x.ka (delZ x.kids at_).length x.kc).ownBlock = _
    rw [hkg, hg]; rfl))
  have hj2 : (l.set i (some { x with kids := delZ x.kids at_ }))[j]? = some (some y) := by
    rw [List.getElem?_set, if_neg hij]; exact hj
  have hyy : ∀ b, y.ks.ownBlock = some b → b ≠ y.ab := fun b e => ((h.kb j y b hj e).2.2 j y hj).1
  have NY := (F2.t.yes j y hj2).2.setUp (fun b o e1 _ => hyy b (ks_block e1)) (-1)
  exact ⟨Full.turn F2 hj2 { y with up := -1 } rfl ⟨by simp [World.setCell], fun b _ hn _ => Below.heap_setCell _ ⟨y.ab, 4, none⟩ _ b hn⟩ NY ((F2.own j y hj2).kept (grown_set _ y.ab 4 _) (.inr (fun e => hyy _ e rfl))) (.inl rfl),
    (hb1.setCell (p := ⟨x.ab, 5, none⟩) hxB _).setCell (p := ⟨y.ab, 4, none⟩) hyB _⟩

set_option maxRecDepth 20000 in
set_option maxHeartbeats 8000000 in
theorem remove_any (B : Nat) (w : World) (p nb : Nat) (deep : Int) (l : List (Option Nd)) (h : Full B w p nb deep l) (i at_ j : Nat) (x y : Nd) (hi : l[i]? = some (some x)) (hj : l[j]? = some (some y)) (hij : i ≠ j) (hup : y.up = (i : Int)) (hix : ixZ x.kids (j : Int) 0 = (at_ : Int)) (hat : at_ < x.kids.length) :
    Calls Tryd.prog 56 #[.pointer (some ⟨p, 0, none⟩), .int .i64 j] w fun e w' => e = .returned (.int .i64 0) ∧ Below B w w' ∧ Full B w' p nb deep (removedZ l i x at_ j y) := by
  have hb1 := (Below.refl _ w).alloc (Nat.le_refl _) (.cells #[.int .i64 (j : Int)] 3)
  have hny := ndAt_of hj
  have hnx := ndAt_of hi
  have F1 := h.below hb1
  have cA := ask_any _ p nb deep l F1.t w.heap.size [(j : Int)] (by simp) (fun k hk => by
    obtain rfl : k = 0 := by simpa using hk
    simp [go_sem])
  have e1 : askT l [(j : Int)] = 0 := by
    unfold askT
    rw [if_pos]
    simp [hasT, hny]
  have e2 : [(j : Int)].length = 1 := rfl
  rw [e1, e2] at cA
  have cI := index_any _ p nb deep (j : Int) l F1.t
  have e3 : indexT l (j : Int) = (at_ : Int) := by
    unfold indexT upT
    rw [hny]
    show (match ndAt l y.up with | none => -1 | some x => ixZ x.kids (j : Int) 0) = _
    rw [hup, hnx]
    exact hix
  rw [e3] at cI
  obtain ⟨g, hg⟩ : ∃ g, x.ka = some ⟨g, 0, none⟩ := by
    rcases (h.own i x hi).2 with ⟨e, h0⟩ | ⟨g, cap, cur, e, _⟩
    · omega
    · unfold Nd.ks at e
      simp only [Value.slice.injEq] at e
      exact ⟨g, e.1⟩
  have hown : ∀ wq, Below w.heap.size w wq → wq.ownsRow B 3 1 (.slice (some ⟨g, 0, none⟩) x.kids.length x.kc) x.kids.length (cellsZ x.kids) := fun wq hb => by
    have := (h.below hb).own i x hi
    unfold Nd.ks at this
    rw [hg] at this
    exact this
  have cD := fun (wq : World) (hb : Below w.heap.size w wq) => sdel_any B wq g x.kc x.kids at_ (hown wq hb) hat
  have KW : Hid (∀ wq, Below w.heap.size w wq → ∀ w2, wq.grownBy w2 (some g) → (w2.cell? ⟨x.ab, 5, none⟩ = some x.ks ∧ w2.frozen? ⟨x.ab, 5, none⟩ = false) ∧ w2.cell? ⟨y.ab, 4, none⟩ = some (.int .i64 y.up) ∧ w2.frozen? ⟨y.ab, 4, none⟩ = false) := Lib.hid (fun wq hb w2 hgr => by
    have F := h.below hb
    obtain ⟨_, _, a3⟩ := h.kb i x g hi (ks_block hg)
    have kx := (a3 i x hi).1
    have ky := (a3 j y hj).1
    have hbx := hgr.block x.ab (lt_of_cell' (F.t.yes i x hi).2.c0) (fun e => kx (by simpa using e.symm))
    have hby := hgr.block y.ab (lt_of_cell' (F.t.yes j y hj).2.c0) (fun e => ky (by simpa using e.symm))
    exact ⟨⟨(World.cell?_of_block (w := wq) hbx).trans (F.t.yes i x hi).2.c5, (World.frozen?_of_block (w := wq) hbx).trans ((F.t.yes i x hi).2.f 5)⟩, (World.cell?_of_block (w := wq) hby).trans (F.t.yes j y hj).2.c4, (World.frozen?_of_block (w := wq) hby).trans ((F.t.yes j y hj).2.f 4)⟩)
  have KR : Hid (∀ wq, Below w.heap.size w wq → ∀ w2, w2.ownsRow B 3 1 (.slice (some ⟨g, 0, none⟩) (delZ x.kids at_).length x.kc) (delZ x.kids at_).length (cellsZ (delZ x.kids at_)) → wq.grownBy w2 (some g) → Below B w ((w2.setCell ⟨x.ab, 5, none⟩ (.slice (some ⟨g, 0, none⟩) (delZ x.kids at_).length x.kc)).setCell ⟨y.ab, 4, none⟩ (.int .i64 (-1))) ∧ Full B ((w2.setCell ⟨x.ab, 5, none⟩ (.slice (some ⟨g, 0, none⟩) (delZ x.kids at_).length x.kc)).setCell ⟨y.ab, 4, none⟩ (.int .i64 (-1))) p nb deep (removedZ l i x at_ j y)) := Lib.hid (fun wq hb w2 own hgr => by
    obtain ⟨r1, r2⟩ := (h.below hb).removed hi hj hij hat hg own hgr
    exact ⟨(hb.mono (by have := h.bn; have := h.ln; omega)).trans r2, r1⟩)
  have hjl : j < l.length := (List.getElem?_eq_some_iff.1 hj).1
  have hil : i < l.length := (List.getElem?_eq_some_iff.1 hi).1
  have c1 := F1.t.c1
  obtain ⟨xc, xn⟩ := F1.t.yes i x hi
  obtain ⟨yc, yn⟩ := F1.t.yes j y hj
  have y4 := yn.c4
  have x5 := xn.c5
  rw [hup] at y4
  rw [hg] at x5
  have hle := h.t.le
  have hkl := (h.t.yes i x hi).2.kl
  have hw1 : IntKind.i64.wrap ((at_ : Int) + 1) = (at_ : Int) + 1 := IntWalk.i64_in _ (by omega)
  obtain ⟨n, hn⟩ : ∃ n, l.length = n := ⟨_, rfl⟩
  rw [hn] at hil hjl c1 hle
  have hiI : (i : Int) < (n : Int) := by omega
  have hjI : (j : Int) < (n : Int) := by omega
  obtain ⟨bx, hbx⟩ : ∃ b, x.ab = b := ⟨_, rfl⟩
  obtain ⟨by_, hby⟩ : ∃ b, y.ab = b := ⟨_, rfl⟩
  rw [hbx] at xc x5 KW KR
  rw [hby] at yc y4 KW KR
  have HB1 := Lib.hid hb1
  clear h F1 hi hj hij hup hix hat hny hnx e1 e2 e3 hg hown xn yn hn hbx hby hb1 hkl
  go_enter Tryd.func56, Tryd.ntmps56
  go_wp2_with (first
    | (go_at_call 73; ((with_reducible refine (cA).mono ?_); rintro e w1 ⟨rfl, rfl⟩))
    | (go_at_call 34; ((with_reducible refine (cI).mono ?_); rintro e w1 ⟨rfl, rfl⟩)))
  go_quiet (fail)
  have HQ : Hid (Below w.heap.size w ((w.alloc (.cells #[.int .i64 (j : Int)] 3)).drewN nq)) := Lib.hid (HB1.out.trans ((bdraws _ nq).mono (by simp)))
  go_wp2_with (go_at_call 76; ((with_reducible refine (cD _ HQ.out).mono ?_); rintro e w2 ⟨rfl, own2, gr2⟩; obtain ⟨⟨d5, g5⟩, d4, g4⟩ := KW.out _ HQ.out _ gr2; have HR := Lib.hid (KR.out _ HQ.out _ own2 gr2); clear own2 gr2))
  go_ret
  exact ⟨rfl, HR.out⟩

end Go.Proofs.YtggjoefhopoggaaDoor

namespace Go.Proofs.YtggjoefhopoggaaDoor
open Go.RowKit Go.Lib

theorem NodeAt.setTag {w : World} {y : Nd} (h : NodeAt w y) (h2 : ∀ b o, y.ka = some ⟨b, o, none⟩ → y.kids ≠ [] → b ≠ y.ab) (t : Int) : NodeAt (w.setCell ⟨y.ab, 0, none⟩ (.int .i64 t)) { y with tag := t } := by
  have hc : ∀ j, j ≠ 0 → (w.setCell ⟨y.ab, 0, none⟩ (.int .i64 t)).cell? ⟨y.ab, j, none⟩ = w.cell? ⟨y.ab, j, none⟩ := fun j hj => World.cell?_setCell_other _ _ _ _ (fun e => hj (congrArg Addr.off e).symm)
  refine ⟨World.cell?_setCell_same _ _ _ h.c0, (hc 1 (by decide)).trans h.c1, (hc 2 (by decide)).trans h.c2, (hc 3 (by decide)).trans h.c3, (hc 4 (by decide)).trans h.c4, (hc 5 (by decide)).trans h.c5, fun j => by rw [World.frozen?_setCell]; exact h.f j, ?_, h.kl⟩
  rcases h.ks with hk | ⟨b, o, e, hk⟩
  · exact .inl hk
  · by_cases h0 : y.kids = []
    · exact .inl h0
    · exact .inr ⟨b, o, e, fun j hj => (World.cell?_setCell_far w ⟨y.ab, 0, none⟩ _ _ (fun e2 => h2 b o e h0 e2.symm)).trans (hk j hj)⟩
theorem Full.setTag {B : Nat} {w : World} {p nb : Nat} {deep : Int} {l : List (Option Nd)} (h : Full B w p nb deep l) {j : Nat} {y : Nd} (hj : l[j]? = some (some y)) (t : Int) : Full B (w.setCell ⟨y.ab, 0, none⟩ (.int .i64 t)) p nb deep (l.set j (some { y with tag := t })) := by
  have hyy : ∀ b, y.ks.ownBlock = some b → b ≠ y.ab := fun b e => ((h.kb j y b hj e).2.2 j y hj).1
  exact Full.turn h hj { y with tag := t } rfl ⟨by simp [World.setCell], fun b _ hn _ => Below.heap_setCell _ ⟨y.ab, 0, none⟩ _ b hn⟩ ((h.t.yes j y hj).2.setTag (fun b o e1 _ => hyy b (ks_block e1)) t) ((h.own j y hj).kept (grown_set _ y.ab 0 _) (.inr (fun e => hyy _ e rfl))) (.inl rfl)

set_option maxRecDepth 20000 in
set_option maxHeartbeats 4000000 in
theorem settag_any (B : Nat) (w : World) (p nb : Nat) (deep : Int) (l : List (Option Nd)) (h : Full B w p nb deep l) (j : Nat) (y : Nd) (t : Int) (hj : l[j]? = some (some y)) (hj0 : j ≠ 0) (hy : y.tag ≠ 0) (hT : OwnT w) (ht : (nameOf t).toList.isEmpty = false) :
    Calls Tryd.prog 60 #[.pointer (some ⟨p, 0, none⟩), .int .i64 j, .int .i64 t] w fun e w' => e = .returned (.int .i64 0) ∧ Below B w w' ∧ Full B w' p nb deep (l.set j (some { y with tag := t })) := by
  have cE := element_any w p nb deep l h.t (j : Int) h.ln
  have e1 : elemT l (j : Int) = (some y, 0) := by unfold elemT; rw [ndAt_of hj]; exact if_neg hy
  rw [e1] at cE
  unfold ndV at cE
  dsimp only at cE
  have cI := fun (w1 : World) (hb : Below w.heap.size w w1) => isel_any t w1 (hT.below hb)
  rw [ht] at cI
  have KR : Hid (∀ w1, Below w.heap.size w w1 → (w1.cell? ⟨y.ab, 0, none⟩ = some (.int .i64 y.tag) ∧ w1.frozen? ⟨y.ab, 0, none⟩ = false) ∧ Below B w (w1.setCell ⟨y.ab, 0, none⟩ (.int .i64 t)) ∧ Full B (w1.setCell ⟨y.ab, 0, none⟩ (.int .i64 t)) p nb deep (l.set j (some { y with tag := t }))) := Lib.hid (fun w1 hb => by
    have F := h.below hb
    have := h.bn
    have := h.ln
    exact ⟨⟨(F.t.yes j y hj).2.c0, (F.t.yes j y hj).2.f 0⟩, (hb.mono (by omega)).setCell (p := ⟨y.ab, 0, none⟩) (h.ab j y hj).1 _, F.setTag hj t⟩)
  have hjb : ((j : Int) == 0) = false := by simpa using hj0
  obtain ⟨b, hb0⟩ : ∃ b, y.ab = b := ⟨_, rfl⟩
  rw [hb0] at cE KR ⊢
  clear h hj hj0 hy hT ht e1 hb0
  go_enter Tryd.func60, Tryd.ntmps60
  go_wp2_with (first
    | (go_at_call 64; ((with_reducible refine (cE).mono ?_); rintro e w1 ⟨rfl, hb⟩; obtain ⟨⟨d0, g0⟩, hR⟩ := KR.out w1 hb; have HR := Lib.hid hR; clear hR))
    | (go_at_call 79; ((with_reducible refine (cI _ hb).mono ?_); rintro e w2 ⟨rfl, rfl⟩)))
  go_ret
  exact ⟨rfl, HR.out⟩

theorem NodeAt.setText {w : World} {y : Nd} (h : NodeAt w y) (h2 : ∀ b o, y.ka = some ⟨b, o, none⟩ → y.kids ≠ [] → b ≠ y.ab) (t : ByteArray) : NodeAt (w.setCell ⟨y.ab, 2, none⟩ (.string t)) { y with tx := t } := by
  have hc : ∀ j, j ≠ 2 → (w.setCell ⟨y.ab, 2, none⟩ (.string t)).cell? ⟨y.ab, j, none⟩ = w.cell? ⟨y.ab, j, none⟩ := fun j hj => World.cell?_setCell_other _ _ _ _ (fun e => hj (congrArg Addr.off e).symm)
  refine ⟨(hc 0 (by decide)).trans h.c0, (hc 1 (by decide)).trans h.c1, World.cell?_setCell_same _ _ _ h.c2, (hc 3 (by decide)).trans h.c3, (hc 4 (by decide)).trans h.c4, (hc 5 (by decide)).trans h.c5, fun j => by rw [World.frozen?_setCell]; exact h.f j, ?_, h.kl⟩
  rcases h.ks with hk | ⟨b, o, e, hk⟩
  · exact .inl hk
  · by_cases h0 : y.kids = []
    · exact .inl h0
    · exact .inr ⟨b, o, e, fun j hj => (World.cell?_setCell_far w ⟨y.ab, 2, none⟩ _ _ (fun e2 => h2 b o e h0 e2.symm)).trans (hk j hj)⟩
theorem Full.setText {B : Nat} {w : World} {p nb : Nat} {deep : Int} {l : List (Option Nd)} (h : Full B w p nb deep l) {j : Nat} {y : Nd} (hj : l[j]? = some (some y)) (t : ByteArray) : Full B (w.setCell ⟨y.ab, 2, none⟩ (.string t)) p nb deep (l.set j (some { y with tx := t })) := by
  have hyy : ∀ b, y.ks.ownBlock = some b → b ≠ y.ab := fun b e => ((h.kb j y b hj e).2.2 j y hj).1
  exact Full.turn h hj { y with tx := t } rfl ⟨by simp [World.setCell], fun b _ hn _ => Below.heap_setCell _ ⟨y.ab, 2, none⟩ _ b hn⟩ ((h.t.yes j y hj).2.setText (fun b o e1 _ => hyy b (ks_block e1)) t) ((h.own j y hj).kept (grown_set _ y.ab 2 _) (.inr (fun e => hyy _ e rfl))) (.inl rfl)

set_option maxRecDepth 20000 in
set_option maxHeartbeats 4000000 in
theorem settext_any (B : Nat) (w : World) (p nb : Nat) (deep : Int) (l : List (Option Nd)) (h : Full B w p nb deep l) (j : Nat) (y : Nd) (s : ByteArray) (hj : l[j]? = some (some y)) (hy : y.tag = 0) (hs : s.size ≤ 8192) (hs2 : (anewS s).size ≤ 8192) :
    Calls Tryd.prog 59 #[.pointer (some ⟨p, 0, none⟩), .int .i64 j, .string s] w fun e w' => e = .returned (.int .i64 0) ∧ Below B w w' ∧ Full B w' p nb deep (l.set j (some { y with tx := anewS s })) ∧ But y.ab w w' := by
  have hb1 := (Below.refl _ w).alloc (Nat.le_refl _) (.cells #[.int .i64 (j : Int)] 3)
  have F1 := h.below hb1
  have cA := ask_any _ p nb deep l F1.t w.heap.size [(j : Int)] (by simp) (fun k hk => by
    obtain rfl : k = 0 := by simpa using hk
    simp [go_sem])
  have e1 : askT l [(j : Int)] = 0 := by
    unfold askT
    rw [if_pos]
    simp [hasT, ndAt_of hj]
  have e2 : [(j : Int)].length = 1 := rfl
  rw [e1, e2] at cA
  have cN := anew_any s (w.alloc (.cells #[.int .i64 (j : Int)] 3))
  rw [if_pos hs, decide_eq_true hs2] at cN
  obtain ⟨S, hS⟩ : ∃ S, anewS s = S := ⟨_, rfl⟩
  rw [hS] at cN ⊢
  have KR : Hid (∀ w1, Below w.heap.size w w1 → (w1.cell? ⟨y.ab, 2, none⟩ = some (.string y.tx) ∧ w1.frozen? ⟨y.ab, 2, none⟩ = false) ∧ Below B w (w1.setCell ⟨y.ab, 2, none⟩ (.string S)) ∧ Full B (w1.setCell ⟨y.ab, 2, none⟩ (.string S)) p nb deep (l.set j (some { y with tx := S })) ∧ But y.ab w (w1.setCell ⟨y.ab, 2, none⟩ (.string S))) := Lib.hid (fun w1 hb => by
    have F := h.below hb
    have := h.bn
    have := h.ln
    exact ⟨⟨(F.t.yes j y hj).2.c2, (F.t.yes j y hj).2.f 2⟩, (hb.mono (by omega)).setCell (p := ⟨y.ab, 2, none⟩) (h.ab j y hj).1 _, F.setText hj S, But.setCell ⟨hb.size, fun b hb2 _ => hb.block b hb2⟩ 2 _⟩)
  have hjl : j < l.length := (List.getElem?_eq_some_iff.1 hj).1
  have c1 := F1.t.c1
  obtain ⟨yc, yn⟩ := F1.t.yes j y hj
  have y0 := yn.c0
  rw [hy] at y0
  have hle := h.t.le
  obtain ⟨n, hn⟩ : ∃ n, l.length = n := ⟨_, rfl⟩
  rw [hn] at hjl c1 hle
  have hjI : (j : Int) < (n : Int) := by omega
  obtain ⟨b, hb0⟩ : ∃ b, y.ab = b := ⟨_, rfl⟩
  rw [hb0] at yc y0 KR ⊢
  have HB1 := Lib.hid hb1
  clear h F1 hj hy hs hs2 e1 e2 hS yn hn hb0 hb1
  go_enter Tryd.func59, Tryd.ntmps59
  go_wp2_with (first
    | (go_at_call 73; ((with_reducible refine (cA).mono ?_); rintro e w1 ⟨rfl, rfl⟩))
    | (go_at_call 71; ((with_reducible refine (cN).mono ?_); rintro e w2 ⟨rfl, hb2⟩; obtain ⟨⟨d0, g0⟩, hR⟩ := KR.out w2 (HB1.out.trans (hb2.mono (by simp))); have HR := Lib.hid hR; clear hR hb2)))
  go_ret
  exact ⟨rfl, HR.out⟩

end Go.Proofs.YtggjoefhopoggaaDoor
