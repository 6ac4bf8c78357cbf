/-
  The same: SetText, SetTag, SetAttrs.
-/
import Derived.Test.YtggjoefhopoggaaDoorCKeep

namespace Go.Proofs.YtggjoefhopoggaaDoor
open Go.RowKit Go.Lib

theorem ask_one (w : World) (p nb : Nat) (deep id : Int) (l : List (Option Nd)) (h : TreeAt w p nb deep l) (hln : nb < w.heap.size) :
    Calls Tryd.prog 73 #[.pointer (some ⟨p, 0, none⟩), .slice (some ⟨w.heap.size, 0, none⟩) 1 1] (w.alloc (.cells #[.int .i64 id] 3)) fun e w' => e = .returned (.int .i64 (if hasT l id then 0 else 2)) ∧ w.alloc (.cells #[.int .i64 id] 3) = w' := by
  have hb1 := (Below.refl _ w).alloc (Nat.le_refl _) (.cells #[.int .i64 id] 3)
  have cA := ask_any _ p nb deep l (h.below hln hb1) w.heap.size [id] (by simp) (fun k hk => by
    obtain rfl : k = 0 := by simpa using hk
    simp [go_sem])
  have e1 : askT l [id] = if hasT l id then 0 else 2 := by
    unfold askT
    simp
  have e2 : [id].length = 1 := rfl
  rw [e1, e2] at cA
  exact cA

/-- As Kept; its nodes are where they were, and no block aside has turned. -/
def Kept2 (B : Nat) (w : World) (p : Nat) (deep : Int) (l : List (Option Nd)) (e : Ending) (w' : World) : Prop :=
  (∃ v, e = .returned v) ∧ Below B w w' ∧ ∃ nb l', Full B w' p nb deep l' ∧ Inv deep l' ∧ l'.length = l.length ∧ (∀ (j : Nat) (y : Nd), l'[j]? = some (some y) → ∃ (k : Nat) (x : Nd), l[k]? = some (some x) ∧ y.ab = x.ab) ∧ ∀ q, q < w.heap.size → (∀ (j : Nat) (y : Nd), l[j]? = some (some y) → y.ab ≠ q) → w'.heap[q]? = w.heap[q]?
theorem Kept2.kept {B : Nat} {w w' : World} {p : Nat} {deep : Int} {l : List (Option Nd)} {e : Ending} (h : Kept2 B w p deep l e w') : Kept B w p deep l.length e w' := by
  obtain ⟨h1, h2, nb, l', h3, h4, h5, _⟩ := h
  exact ⟨h1, h2, nb, l', h3, h4, h5⟩
theorem kept2_of {B : Nat} {w w' : World} {p nb : Nat} {deep : Int} {l : List (Option Nd)} {e : Ending} (h : Full B w p nb deep l) (hi : Inv deep l) (he : ∃ v, e = .returned v) (hb : Below w.heap.size w w') : Kept2 B w p deep l e w' :=
  ⟨he, hb.mono (by have := h.bn; have := h.ln; omega), nb, l, h.below hb, hi, rfl, fun j y hj => ⟨j, y, hj, rfl⟩, fun q hq _ => hb.block q hq⟩
theorem same_ab {l : List (Option Nd)} {j : Nat} {y y' : Nd} (hj : l[j]? = some (some y)) (e : y'.ab = y.ab) : ∀ (k : Nat) (z : Nd), (l.set j (some y'))[k]? = some (some z) → ∃ (m : Nat) (x : Nd), l[m]? = some (some x) ∧ z.ab = x.ab := fun k z hk => by
  rcases set_get hk with ⟨_, e2⟩ | ⟨_, h⟩
  · obtain rfl := Option.some.inj e2
    exact ⟨j, y, hj, e⟩
  · exact ⟨k, z, h, rfl⟩

set_option maxRecDepth 20000 in
set_option maxHeartbeats 4000000 in
theorem settext_keep2 (B : Nat) (w : World) (p nb : Nat) (deep : Int) (l : List (Option Nd)) (h : Full B w p nb deep l) (hI : Inv deep l) (id : Int) (s : ByteArray) :
    Calls Tryd.prog 59 #[.pointer (some ⟨p, 0, none⟩), .int .i64 id, .string s] w (Kept2 B w p deep l) := by
  have KP := Lib.hid (fun (e : Ending) (w' : World) (he : ∃ v, e = .returned v) (hb : Below w.heap.size w w') => kept2_of (w' := w') h hI he hb)
  have hb1 := (Below.refl _ w).alloc (Nat.le_refl _) (.cells #[.int .i64 id] 3)
  have cA := ask_one w p nb deep id l h.t h.ln
  cases hx : ndAt l id with
  | none =>
    rw [(nd_none hx).1, if_neg (by decide)] at cA
    have HB := Lib.hid hb1
    clear h hI hx hb1
    go_enter Tryd.func59, Tryd.ntmps59
    go_wp2_with (go_at_call 73; ((with_reducible refine (cA).mono ?_); rintro e w1 ⟨rfl, rfl⟩))
    go_ret
    exact KP.out _ _ ⟨_, rfl⟩ HB.out
  | some y =>
    obtain ⟨j, rfl, hj⟩ := nd_id hx
    by_cases hy : y.tag = 0
    · by_cases hs : s.size ≤ 8192 ∧ (anewS s).size ≤ 8192
      · refine (settext_any B w p nb deep l h j y s hj hy hs.1 hs.2).mono ?_
        rintro e w' ⟨rfl, h1, h2, h3⟩
        refine ⟨⟨_, rfl⟩, h1, nb, _, h2, ?_, by rw [List.length_set], same_ab hj rfl, fun q hq hne => h3.block q hq (fun e => hne j y hj e.symm)⟩
        refine hI.same hj rfl rfl id (fun e => ?_) ⟨hI.ats j y hj, hs.2⟩
        obtain ⟨x0, a1, a2, a3⟩ := hI.host
        rw [e] at hj
        rw [a1] at hj
        obtain rfl := Option.some.inj (Option.some.inj hj)
        omega
      · have cN := fun w => anew_any s w
        obtain ⟨v, hv⟩ : ∃ v, (Value.tuple (if s.size ≤ 8192 then #[.string (anewS s), .bool (decide ((anewS s).size ≤ 8192))] else #[.string ⟨#[]⟩, .bool false])) = .tuple #[v, .bool false] := by
          by_cases h1 : s.size ≤ 8192
          · rw [if_pos h1, decide_eq_false (fun h2 => hs ⟨h1, h2⟩)]; exact ⟨_, rfl⟩
          · rw [if_neg h1]; exact ⟨_, rfl⟩
        rw [hv] at cN
        rw [(nd_some hj).1, if_pos rfl] at cA
        have F1 := h.below hb1
        have hjl : j < l.length := (List.getElem?_eq_some_iff.1 hj).1
        have c1 := F1.t.c1
        obtain ⟨yc, yn⟩ := F1.t.yes j y hj
        have y0 := yn.c0
        rw [hy] at y0
        have hle := h.t.le
        obtain ⟨n, hn⟩ : ∃ n, l.length = n := ⟨_, rfl⟩
        rw [hn] at hjl c1 hle
        have hjI : (j : Int) < (n : Int) := by omega
        obtain ⟨b, hb0⟩ : ∃ b, y.ab = b := ⟨_, rfl⟩
        rw [hb0] at yc y0
        have HB := Lib.hid hb1
        clear h hI hx hj hb1 hs hv F1 yn hy hn hb0
        go_enter Tryd.func59, Tryd.ntmps59
        go_wp2_with (first
          | (go_at_call 73; ((with_reducible refine (cA).mono ?_); rintro e w1 ⟨rfl, rfl⟩))
          | (go_at_call 71; ((with_reducible refine (cN _).mono ?_); rintro e w2 ⟨rfl, hb2⟩)))
        go_ret
        exact KP.out _ _ ⟨_, rfl⟩ (HB.out.trans (hb2.mono (by simp)))
    · rw [(nd_some hj).1, if_pos rfl] at cA
      have F1 := h.below hb1
      have hjl : j < l.length := (List.getElem?_eq_some_iff.1 hj).1
      have c1 := F1.t.c1
      obtain ⟨yc, yn⟩ := F1.t.yes j y hj
      have y0 := yn.c0
      have htb : (y.tag == 0) = false := by simpa using hy
      have hle := h.t.le
      obtain ⟨n, hn⟩ : ∃ n, l.length = n := ⟨_, rfl⟩
      rw [hn] at hjl c1 hle
      have hjI : (j : Int) < (n : Int) := by omega
      obtain ⟨b, hb0⟩ : ∃ b, y.ab = b := ⟨_, rfl⟩
      rw [hb0] at yc y0
      have HB := Lib.hid hb1
      clear h hI hx hj hb1 F1 yn hn hb0
      go_enter Tryd.func59, Tryd.ntmps59
      go_wp2_with (go_at_call 73; ((with_reducible refine (cA).mono ?_); rintro e w1 ⟨rfl, rfl⟩))
      go_ret
      exact KP.out _ _ ⟨_, rfl⟩ HB.out

theorem settext_keep (B : Nat) (w : World) (p nb : Nat) (deep : Int) (l : List (Option Nd)) (h : Full B w p nb deep l) (hI : Inv deep l) (id : Int) (s : ByteArray) :
    Calls Tryd.prog 59 #[.pointer (some ⟨p, 0, none⟩), .int .i64 id, .string s] w (Kept B w p deep l.length) := (settext_keep2 B w p nb deep l h hI id s).mono (fun _ _ h => h.kept)

theorem name0 : (nameOf 0).toList.isEmpty = true := by kernel_rfl
set_option maxRecDepth 20000 in
set_option maxHeartbeats 4000000 in
theorem settag_keep (B : Nat) (w : World) (p nb : Nat) (deep : Int) (l : List (Option Nd)) (h : Full B w p nb deep l) (hI : Inv deep l) (id t : Int) (hT : OwnT w) :
    Calls Tryd.prog 60 #[.pointer (some ⟨p, 0, none⟩), .int .i64 id, .int .i64 t] w (Kept B w p deep l.length) := by
  have KP := Lib.hid (fun (e : Ending) (w' : World) (he : ∃ v, e = .returned v) (hb : Below w.heap.size w w') => kept_of (w' := w') h hI he hb)
  have cE := element_any w p nb deep l h.t id h.ln
  have bad : ∀ c : Int, c ≠ 0 → elemT l id = (none, c) → Calls Tryd.prog 60 #[.pointer (some ⟨p, 0, none⟩), .int .i64 id, .int .i64 t] w (Kept B w p deep l.length) := fun c hc e => by
    rw [e] at cE
    unfold ndV at cE
    dsimp only at cE
    have hcb : (c == 0) = false := by simpa using hc
    clear h hI hT e
    go_enter Tryd.func60, Tryd.ntmps60
    go_wp2_with (go_at_call 64; ((with_reducible refine (cE).mono ?_); rintro e w1 ⟨rfl, hb⟩))
    go_ret
    exact KP.out _ _ ⟨_, rfl⟩ hb
  cases hx : ndAt l id with
  | none => exact bad 2 (by decide) (by unfold elemT; rw [hx])
  | some y =>
    obtain ⟨j, rfl, hj⟩ := nd_id hx
    by_cases hy : y.tag = 0
    · exact bad 6 (by decide) (by unfold elemT; rw [hx]; exact if_pos hy)
    · have e1 : elemT l (j : Int) = (some y, 0) := by unfold elemT; rw [hx]; exact if_neg hy
      by_cases hj0 : j = 0
      · rw [e1] at cE
        unfold ndV at cE
        dsimp only at cE
        subst hj0
        rw [show ((0 : Nat) : Int) = 0 from rfl] at cE ⊢
        clear bad h hI hT hx hj hy e1
        go_enter Tryd.func60, Tryd.ntmps60
        go_wp2_with (go_at_call 64; ((with_reducible refine (cE).mono ?_); rintro e w1 ⟨rfl, hb⟩))
        go_ret
        exact KP.out _ _ ⟨_, rfl⟩ hb
      · cases ht : (nameOf t).toList.isEmpty with
        | false =>
          refine (settag_any B w p nb deep l h j y t hj hj0 hy hT ht).mono ?_
          rintro e w' ⟨rfl, h1, h2⟩
          refine ⟨⟨_, rfl⟩, h1, nb, _, h2, ?_, by rw [List.length_set]⟩
          refine hI.same hj rfl rfl (fun e => ?_) (fun e => absurd e hj0) (hI.own j y hj)
          have e2 : t = 0 := e
          rw [e2, name0] at ht
          cases ht
        | true =>
          rw [e1] at cE
          unfold ndV at cE
          dsimp only at cE
          have cI := fun (w1 : World) (hb : Below w.heap.size w w1) => isel_any t w1 (hT.below hb)
          rw [ht] at cI
          have hjb : ((j : Int) == 0) = false := by simpa using hj0
          clear bad h hI hT hx hj hy e1 ht
          go_enter Tryd.func60, Tryd.ntmps60
          go_wp2_with (first
            | (go_at_call 64; ((with_reducible refine (cE).mono ?_); rintro e w1 ⟨rfl, hb⟩))
            | (go_at_call 79; ((with_reducible refine (cI _ hb).mono ?_); rintro e w2 ⟨rfl, rfl⟩)))
          go_ret
          exact KP.out _ _ ⟨_, rfl⟩ hb

theorem NodeAt.setAttrs {w : World} {y : Nd} (h : NodeAt w y) (h2 : ∀ b o, y.ka = some ⟨b, o, none⟩ → y.kids ≠ [] → b ≠ y.ab) (aa : Option Addr) (an ac : Nat) (ats : List (ByteArray × ByteArray)) : NodeAt (w.setCell ⟨y.ab, 1, none⟩ (.slice aa an ac)) { y with aa := aa, an := an, ac := ac, ats := ats } := by
  have hc : ∀ j, j ≠ 1 → (w.setCell ⟨y.ab, 1, none⟩ (.slice aa an ac)).cell? ⟨y.ab, j, none⟩ = w.cell? ⟨y.ab, j, none⟩ := fun j hj => World.cell?_setCell_other _ _ _ _ (fun e => hj (congrArg Addr.off e).symm)
  refine ⟨(hc 0 (by decide)).trans h.c0, World.cell?_setCell_same _ _ _ h.c1, (hc 2 (by decide)).trans h.c2, (hc 3 (by decide)).trans h.c3, (hc 4 (by decide)).trans h.c4, (hc 5 (by decide)).trans h.c5, fun j => by rw [World.frozen?_setCell]; exact h.f j, ?_, h.kl⟩
  rcases h.ks with hk | ⟨b, o, e, hk⟩
  · exact .inl hk
  · by_cases h0 : y.kids = []
    · exact .inl h0
    · exact .inr ⟨b, o, e, fun j hj => (World.cell?_setCell_far w ⟨y.ab, 1, none⟩ _ _ (fun e2 => h2 b o e h0 e2.symm)).trans (hk j hj)⟩
theorem Full.setAttrs {B : Nat} {w w1 : World} {p nb : Nat} {deep : Int} {l : List (Option Nd)} (h : Full B w p nb deep l) {j : Nat} {y : Nd} (hj : l[j]? = some (some y)) (hb : Below w.heap.size w w1) (aa : Option Addr) (an ac : Nat) (ats : List (ByteArray × ByteArray))
    (ho : w1.ownsRow w.heap.size 116 2 (.slice aa an ac) ats.length (cellsR ats)) : Full B (w1.setCell ⟨y.ab, 1, none⟩ (.slice aa an ac)) p nb deep (l.set j (some { y with aa := aa, an := an, ac := ac, ats := ats })) := by
  have hyy : ∀ b, y.ks.ownBlock = some b → b ≠ y.ab := fun b e => ((h.kb j y b hj e).2.2 j y hj).1
  have F := h.below hb
  have hyl : y.ab < w.heap.size := lt_of_cell' (h.t.yes j y hj).2.c0
  have hBw : B ≤ w.heap.size := by have := h.bn; have := h.ln; omega
  exact Full.turnA h hj { y with aa := aa, an := an, ac := ac, ats := ats } rfl ⟨by simpa [World.setCell] using hb.size, fun b hbl hn _ => (Below.heap_setCell _ ⟨y.ab, 1, none⟩ _ b hn).trans (hb.block b hbl)⟩ ((F.t.yes j y hj).2.setAttrs (fun b o e1 _ => hyy b (ks_block e1)) aa an ac ats) ((F.own j y hj).kept (grown_set _ y.ab 1 _) (.inr (fun e => hyy _ e rfl))) (.inl rfl)
    ((own_mono2 ho hBw).kept (grown_set _ y.ab 1 _) (.inr (fun e => by have := (ho.lt _ e).1; omega))) (.inr ⟨fun b e => (ho.lt b e).1, rfl⟩)

set_option maxRecDepth 20000 in
set_option maxHeartbeats 4000000 in
theorem setattrs_keep2 (B : Nat) (w : World) (p nb : Nat) (deep : Int) (l : List (Option Nd)) (h : Full B w p nb deep l) (hI : Inv deep l) (id : Int) (v : Value) (ats : Row) (hv : RowAt w v ats) (hl : ats.length ≤ 10000) (hs : SizedR ats) :
    Calls Tryd.prog 58 #[.pointer (some ⟨p, 0, none⟩), .int .i64 id, v] w (Kept2 B w p deep l) := by
  have KP := Lib.hid (fun (e : Ending) (w' : World) (he : ∃ v, e = .returned v) (hb : Below w.heap.size w w') => kept2_of (w' := w') h hI he hb)
  have cE := element_any w p nb deep l h.t id h.ln
  have bad : ∀ c : Int, c ≠ 0 → elemT l id = (none, c) → Calls Tryd.prog 58 #[.pointer (some ⟨p, 0, none⟩), .int .i64 id, v] w (Kept2 B w p deep l) := fun c hc e => by
    rw [e] at cE
    unfold ndV at cE
    dsimp only at cE
    have hcb : (c == 0) = false := by simpa using hc
    clear h hI hv hs e
    go_enter Tryd.func58, Tryd.ntmps58
    go_wp2_with (go_at_call 64; ((with_reducible refine (cE).mono ?_); rintro e w1 ⟨rfl, hb⟩))
    go_ret
    exact KP.out _ _ ⟨_, rfl⟩ hb
  cases hx : ndAt l id with
  | none => exact bad 2 (by decide) (by unfold elemT; rw [hx])
  | some y =>
    obtain ⟨j, rfl, hj⟩ := nd_id hx
    by_cases hy : y.tag = 0
    · exact bad 6 (by decide) (by unfold elemT; rw [hx]; exact if_pos hy)
    · have e1 : elemT l (j : Int) = (some y, 0) := by unfold elemT; rw [hx]; exact if_neg hy
      rw [e1] at cE
      unfold ndV at cE
      dsimp only at cE
      have hsame : ∀ aa an ac, Inv deep (l.set j (some { y with aa := aa, an := an, ac := ac, ats := ats })) := fun aa an ac => hI.same hj rfl rfl id (fun e => by
        obtain ⟨x0, a1, a2, a3⟩ := hI.host
        rw [e, a1] at hj
        obtain rfl := Option.some.inj (Option.some.inj hj)
        exact a3) ⟨hl, (hI.own j y hj).2⟩
      have cO := fun (w1 : World) (hb : Below w.heap.size w w1) => own_any w1 v ats (hv.below hb) hl hs
      unfold OwnR at cO
      have KR : Hid (∀ w1 w2, Below w.heap.size w w1 → Below w1.heap.size w1 w2 → ∀ aa an ac, w2.ownsRow w1.heap.size 116 2 (.slice aa an ac) ats.length (cellsR ats) → (w2.cell? ⟨y.ab, 1, none⟩ = some y.as ∧ w2.frozen? ⟨y.ab, 1, none⟩ = false) ∧ Below B w (w2.setCell ⟨y.ab, 1, none⟩ (.slice aa an ac)) ∧ Full B (w2.setCell ⟨y.ab, 1, none⟩ (.slice aa an ac)) p nb deep (l.set j (some { y with aa := aa, an := an, ac := ac, ats := ats })) ∧ Inv deep (l.set j (some { y with aa := aa, an := an, ac := ac, ats := ats })) ∧ But y.ab w (w2.setCell ⟨y.ab, 1, none⟩ (.slice aa an ac)) ∧ (∀ (k : Nat) (z : Nd), (l.set j (some { y with aa := aa, an := an, ac := ac, ats := ats }))[k]? = some (some z) → ∃ (m : Nat) (x : Nd), l[m]? = some (some x) ∧ z.ab = x.ab) ∧ (∀ q, (∀ (j : Nat) (y : Nd), l[j]? = some (some y) → y.ab ≠ q) → q ≠ y.ab)) := Lib.hid (fun w1 w2 hb hb2 aa an ac ho => by
        have F1 := h.below hb
        have F2 := F1.below hb2
        have hBw : B ≤ w.heap.size := by have := h.bn; have := h.ln; omega
        exact ⟨⟨(F2.t.yes j y hj).2.c1, (F2.t.yes j y hj).2.f 1⟩, ((hb.trans (hb2.mono hb.size)).mono hBw).setCell (p := ⟨y.ab, 1, none⟩) (h.ab j y hj).1 _, F1.setAttrs hj hb2 aa an ac ats ho, hsame aa an ac, But.setCell ⟨Nat.le_trans hb.size hb2.size, fun b hb3 _ => (hb2.block b (Nat.lt_of_lt_of_le hb3 hb.size)).trans (hb.block b hb3)⟩ 1 _, same_ab hj rfl, fun q hq e => hq j y hj e.symm⟩)
      obtain ⟨b, hb0⟩ : ∃ b, y.ab = b := ⟨_, rfl⟩
      rw [hb0] at cE KR
      unfold Nd.as at KR
      clear bad h hI hv hs hx hj hy e1 hsame KP hb0
      go_enter Tryd.func58, Tryd.ntmps58
      go_wp2_with (first
        | (go_at_call 64; ((with_reducible refine (cE).mono ?_); rintro e w1 ⟨rfl, hb⟩))
        | (go_at_call 78; ((with_reducible refine (cO _ hb).mono ?_); rintro e w3 ⟨v3, rfl, hown, hb3⟩; obtain ⟨aa, ac, rfl⟩ := (rowAt_of_own hown).len; obtain ⟨⟨d1, g1⟩, hR⟩ := KR.out _ _ hb hb3 _ _ _ hown; have HR := Lib.hid hR; clear hR hown)))
      go_ret
      obtain ⟨r1, r2, r3, r4, r5, r6⟩ := HR.out
      exact ⟨⟨_, rfl⟩, r1, nb, _, r2, r3, by rw [List.length_set], r5, fun q hq hne => r4.block q hq (r6 q hne)⟩
theorem setattrs_keep (B : Nat) (w : World) (p nb : Nat) (deep : Int) (l : List (Option Nd)) (h : Full B w p nb deep l) (hI : Inv deep l) (id : Int) (v : Value) (ats : Row) (hv : RowAt w v ats) (hl : ats.length ≤ 10000) (hs : SizedR ats) :
    Calls Tryd.prog 58 #[.pointer (some ⟨p, 0, none⟩), .int .i64 id, v] w (Kept B w p deep l.length) := (setattrs_keep2 B w p nb deep l h hI id v ats hv hl hs).mono (fun _ _ h => h.kept)

end Go.Proofs.YtggjoefhopoggaaDoor
