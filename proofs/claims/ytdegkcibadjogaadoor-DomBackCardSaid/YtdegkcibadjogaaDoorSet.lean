/-
  SetTag, SetText.
-/
import Derived.Test.YtdegkcibadjogaaDoorRem
namespace Go.Proofs.YtdegkcibadjogaaDoor
open Go.RowKit Go.Lib

theorem NodeAt.setTag {w : World} {y : Nd} (h : NodeAt w y) (h2 : ∀ b o, y.ka = some ⟨b, o, none⟩ → y.kids ≠ [] → b ≠ y.ab) (t : Int) : NodeAt (w.setCell ⟨y.ab, 0, none⟩ (.int .i64 t)) { y with tag := t } := by
  have hc : ∀ j, j ≠ 0 → (w.setCell ⟨y.ab, 0, none⟩ (.int .i64 t)).cell? ⟨y.ab, j, none⟩ = w.cell? ⟨y.ab, j, none⟩ := fun j hj => World.cell?_setCell_other _ _ _ _ (fun e => hj (congrArg Addr.off e).symm)
  refine ⟨World.cell?_setCell_same _ _ _ h.c0, (hc 1 (by decide)).trans h.c1, (hc 2 (by decide)).trans h.c2, (hc 3 (by decide)).trans h.c3, (hc 4 (by decide)).trans h.c4, (hc 5 (by decide)).trans h.c5, fun j => by rw [World.frozen?_setCell]; exact h.f j, ?_, h.kl⟩
  rcases h.ks with hk | ⟨b, o, e, hk⟩
  · exact .inl hk
  · by_cases h0 : y.kids = []
    · exact .inl h0
    · exact .inr ⟨b, o, e, fun j hj => (World.cell?_setCell_far w ⟨y.ab, 0, none⟩ _ _ (fun e2 => h2 b o e h0 e2.symm)).trans (hk j hj)⟩
theorem Full.setTag {B : Nat} {w : World} {p nb : Nat} {deep : Int} {l : List (Option Nd)} (h : Full B w p nb deep l) {j : Nat} {y : Nd} (hj : l[j]? = some (some y)) (t : Int) : Full B (w.setCell ⟨y.ab, 0, none⟩ (.int .i64 t)) p nb deep (l.set j (some { y with tag := t })) := by
  have hyy : ∀ b, y.ks.ownBlock = some b → b ≠ y.ab := fun b e => ((h.kb j y b hj e).2.2 j y hj).1
  exact Full.turn h hj { y with tag := t } rfl ⟨by simp [World.setCell], fun b _ hn _ => Below.heap_setCell _ ⟨y.ab, 0, none⟩ _ b hn⟩ ((h.t.yes j y hj).2.setTag (fun b o e1 _ => hyy b (ks_block e1)) t) ((h.own j y hj).kept (grown_set _ y.ab 0 _) (.inr (fun e => hyy _ e rfl))) (.inl rfl)

set_option maxRecDepth 20000 in
set_option maxHeartbeats 4000000 in
theorem settag_any (B : Nat) (w : World) (p nb : Nat) (deep : Int) (l : List (Option Nd)) (h : Full B w p nb deep l) (j : Nat) (y : Nd) (t : Int) (hj : l[j]? = some (some y)) (hj0 : j ≠ 0) (hy : y.tag ≠ 0) (hT : OwnT w) (ht : (nameOf t).toList.isEmpty = false) :
    Calls Tryd.prog 35 #[.pointer (some ⟨p, 0, none⟩), .int .i64 j, .int .i64 t] w fun e w' => e = .returned (.int .i64 0) ∧ Below B w w' ∧ Full B w' p nb deep (l.set j (some { y with tag := t })) := by
  have cE := element_any w p nb deep l h.t (j : Int) h.ln
  have e1 : elemT l (j : Int) = (some y, 0) := by unfold elemT; rw [ndAt_of hj]; exact if_neg hy
  rw [e1] at cE
  unfold ndV at cE
  dsimp only at cE
  have cI := fun (w1 : World) (hb : Below w.heap.size w w1) => isel_any t w1 (hT.below hb)
  rw [ht] at cI
  have KR : Hid (∀ w1, Below w.heap.size w w1 → (w1.cell? ⟨y.ab, 0, none⟩ = some (.int .i64 y.tag) ∧ w1.frozen? ⟨y.ab, 0, none⟩ = false) ∧ Below B w (w1.setCell ⟨y.ab, 0, none⟩ (.int .i64 t)) ∧ Full B (w1.setCell ⟨y.ab, 0, none⟩ (.int .i64 t)) p nb deep (l.set j (some { y with tag := t }))) := Lib.hid (fun w1 hb => by
    have F := h.below hb
    have := h.bn
    have := h.ln
    exact ⟨⟨(F.t.yes j y hj).2.c0, (F.t.yes j y hj).2.f 0⟩, (hb.mono (by omega)).setCell (p := ⟨y.ab, 0, none⟩) (h.ab j y hj).1 _, F.setTag hj t⟩)
  have hjb : ((j : Int) == 0) = false := by simpa using hj0
  obtain ⟨b, hb0⟩ : ∃ b, y.ab = b := ⟨_, rfl⟩
  rw [hb0] at cE KR ⊢
  clear h hj hj0 hy hT ht e1 hb0
  go_enter Tryd.func35, Tryd.ntmps35
  go_wp2_with (first
    | (go_at_call 45; ((with_reducible refine (cE).mono ?_); rintro e w1 ⟨rfl, hb⟩; obtain ⟨⟨d0, g0⟩, hR⟩ := KR.out w1 hb; have HR := Lib.hid hR; clear hR))
    | (go_at_call 82; ((with_reducible refine (cI _ hb).mono ?_); rintro e w2 ⟨rfl, rfl⟩)))
  go_ret
  exact ⟨rfl, HR.out⟩

theorem NodeAt.setText {w : World} {y : Nd} (h : NodeAt w y) (h2 : ∀ b o, y.ka = some ⟨b, o, none⟩ → y.kids ≠ [] → b ≠ y.ab) (t : ByteArray) : NodeAt (w.setCell ⟨y.ab, 2, none⟩ (.string t)) { y with tx := t } := by
  have hc : ∀ j, j ≠ 2 → (w.setCell ⟨y.ab, 2, none⟩ (.string t)).cell? ⟨y.ab, j, none⟩ = w.cell? ⟨y.ab, j, none⟩ := fun j hj => World.cell?_setCell_other _ _ _ _ (fun e => hj (congrArg Addr.off e).symm)
  refine ⟨(hc 0 (by decide)).trans h.c0, (hc 1 (by decide)).trans h.c1, World.cell?_setCell_same _ _ _ h.c2, (hc 3 (by decide)).trans h.c3, (hc 4 (by decide)).trans h.c4, (hc 5 (by decide)).trans h.c5, fun j => by rw [World.frozen?_setCell]; exact h.f j, ?_, h.kl⟩
  rcases h.ks with hk | ⟨b, o, e, hk⟩
  · exact .inl hk
  · by_cases h0 : y.kids = []
    · exact .inl h0
    · exact .inr ⟨b, o, e, fun j hj => (World.cell?_setCell_far w ⟨y.ab, 2, none⟩ _ _ (fun e2 => h2 b o e h0 e2.symm)).trans (hk j hj)⟩
theorem Full.setText {B : Nat} {w : World} {p nb : Nat} {deep : Int} {l : List (Option Nd)} (h : Full B w p nb deep l) {j : Nat} {y : Nd} (hj : l[j]? = some (some y)) (t : ByteArray) : Full B (w.setCell ⟨y.ab, 2, none⟩ (.string t)) p nb deep (l.set j (some { y with tx := t })) := by
  have hyy : ∀ b, y.ks.ownBlock = some b → b ≠ y.ab := fun b e => ((h.kb j y b hj e).2.2 j y hj).1
  exact Full.turn h hj { y with tx := t } rfl ⟨by simp [World.setCell], fun b _ hn _ => Below.heap_setCell _ ⟨y.ab, 2, none⟩ _ b hn⟩ ((h.t.yes j y hj).2.setText (fun b o e1 _ => hyy b (ks_block e1)) t) ((h.own j y hj).kept (grown_set _ y.ab 2 _) (.inr (fun e => hyy _ e rfl))) (.inl rfl)

set_option maxRecDepth 20000 in
set_option maxHeartbeats 4000000 in
theorem settext_any (B : Nat) (w : World) (p nb : Nat) (deep : Int) (l : List (Option Nd)) (h : Full B w p nb deep l) (j : Nat) (y : Nd) (s : ByteArray) (hj : l[j]? = some (some y)) (hy : y.tag = 0) (hs : s.size ≤ 8192) (hs2 : (anewS s).size ≤ 8192) :
    Calls Tryd.prog 32 #[.pointer (some ⟨p, 0, none⟩), .int .i64 j, .string s] w fun e w' => e = .returned (.int .i64 0) ∧ Below B w w' ∧ Full B w' p nb deep (l.set j (some { y with tx := anewS s })) ∧ But y.ab w w' := by
  have hb1 := (Below.refl _ w).alloc (Nat.le_refl _) (.cells #[.int .i64 (j : Int)] 3)
  have F1 := h.below hb1
  have cA := ask_any _ p nb deep l F1.t w.heap.size [(j : Int)] (by simp) (fun k hk => by
    obtain rfl : k = 0 := by simpa using hk
    simp [go_sem])
  have e1 : askT l [(j : Int)] = 0 := by
    unfold askT
    rw [if_pos]
    simp [hasT, ndAt_of hj]
  have e2 : [(j : Int)].length = 1 := rfl
  rw [e1, e2] at cA
  have cN := anew_any s (w.alloc (.cells #[.int .i64 (j : Int)] 3))
  rw [if_pos hs, decide_eq_true hs2] at cN
  obtain ⟨S, hS⟩ : ∃ S, anewS s = S := ⟨_, rfl⟩
  rw [hS] at cN ⊢
  have KR : Hid (∀ w1, Below w.heap.size w w1 → (w1.cell? ⟨y.ab, 2, none⟩ = some (.string y.tx) ∧ w1.frozen? ⟨y.ab, 2, none⟩ = false) ∧ Below B w (w1.setCell ⟨y.ab, 2, none⟩ (.string S)) ∧ Full B (w1.setCell ⟨y.ab, 2, none⟩ (.string S)) p nb deep (l.set j (some { y with tx := S })) ∧ But y.ab w (w1.setCell ⟨y.ab, 2, none⟩ (.string S))) := Lib.hid (fun w1 hb => by
    have F := h.below hb
    have := h.bn
    have := h.ln
    exact ⟨⟨(F.t.yes j y hj).2.c2, (F.t.yes j y hj).2.f 2⟩, (hb.mono (by omega)).setCell (p := ⟨y.ab, 2, none⟩) (h.ab j y hj).1 _, F.setText hj S, But.setCell ⟨hb.size, fun b hb2 _ => hb.block b hb2⟩ 2 _⟩)
  have hjl : j < l.length := (List.getElem?_eq_some_iff.1 hj).1
  have c1 := F1.t.c1
  obtain ⟨yc, yn⟩ := F1.t.yes j y hj
  have y0 := yn.c0
  rw [hy] at y0
  have hle := h.t.le
  obtain ⟨n, hn⟩ : ∃ n, l.length = n := ⟨_, rfl⟩
  rw [hn] at hjl c1 hle
  have hjI : (j : Int) < (n : Int) := by omega
  obtain ⟨b, hb0⟩ : ∃ b, y.ab = b := ⟨_, rfl⟩
  rw [hb0] at yc y0 KR ⊢
  have HB1 := Lib.hid hb1
  clear h F1 hj hy hs hs2 e1 e2 hS yn hn hb0 hb1
  go_enter Tryd.func32, Tryd.ntmps32
  go_wp2_with (first
    | (go_at_call 44; ((with_reducible refine (cA).mono ?_); rintro e w1 ⟨rfl, rfl⟩))
    | (go_at_call 42; ((with_reducible refine (cN).mono ?_); rintro e w2 ⟨rfl, hb2⟩; obtain ⟨⟨d0, g0⟩, hR⟩ := KR.out w2 (HB1.out.trans (hb2.mono (by simp))); have HR := Lib.hid hR; clear hR hb2)))
  go_ret
  exact ⟨rfl, HR.out⟩

end Go.Proofs.YtdegkcibadjogaaDoor
