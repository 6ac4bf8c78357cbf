/-
  What is done aside from the host leaves what the host says.
    SetText, SetAttrs, SetTag, Remove of a node that does not come to the host.
-/
import Derived.Test.YtggjoefhopoggaaDoorCPn
import Derived.Test.YtggjoefhopoggaaDoorCKeepC
import Derived.Test.YtggjoefhopoggaaDoorCDrop

namespace Go.Proofs.YtggjoefhopoggaaDoor
open Go.RowKit Go.Lib

/-- Each node that comes to the host stands in the other as it stands here. -/
def LS (l l' : List (Option Nd)) : Prop := ∀ (j : Nat) (y : Nd), l[j]? = some (some y) → rootF l 41 (j : Int) = 0 → ∃ y', l'[j]? = some (some y') ∧ y'.tag = y.tag ∧ y'.tx = y.tx ∧ y'.ats = y.ats ∧ y'.kids = y.kids ∧ y'.up = y.up
theorem LS.refl (l : List (Option Nd)) : LS l l := fun _ y hj _ => ⟨y, hj, rfl, rfl, rfl, rfl, rfl⟩

section
variable {deep : Int} {l l' l'' : List (Option Nd)}
theorem LS.root (h : LS l l') (hI : Inv deep l) (hd : deep ≤ 40) : ∀ (n j : Nat) (y : Nd), l[j]? = some (some y) → rootF l 41 (j : Int) = 0 → rootF l' n (j : Int) = rootF l n (j : Int)
  | 0, _, _, _, _ => rfl
  | n + 1, j, y, hj, hr => by
    obtain ⟨y', h1, _, _, _, _, h6⟩ := h j y hj hr
    unfold rootF
    rw [(nd_some hj).2, (nd_some h1).2, h6]
    rcases hI.par j y hj with hu | ⟨i, x, hu, hi, _⟩
    · rw [hu, if_pos rfl, if_pos rfl]
    · rw [hu, if_neg (by omega), if_neg (by omega)]
      exact h.root hI hd n i x hi (by rw [← hI.rootP hd hj hu]; exact hr)
theorem LS.plain (h : LS l l') (hI : Inv deep l) (hd : deep ≤ 40) : ∀ (n j : Nat) (y : Nd), l[j]? = some (some y) → rootF l 41 (j : Int) = 0 → plainF l' n (j : Int) = plainF l n (j : Int)
  | 0, _, _, _, _ => rfl
  | n + 1, j, y, hj, hr => by
    obtain ⟨y', h1, h2, h3, h4, h5, _⟩ := h j y hj hr
    rw [plainF_some (ndAt_of hj), plainF_some (ndAt_of h1), h2, h3, h4, h5]
    congr 1
    refine List.map_congr_left fun k hk => ?_
    obtain ⟨m, z, rfl, hm, hu⟩ := hI.kid j y k hj hk
    exact h.plain hI hd n m z hm (by rw [hI.rootP hd hm hu]; exact hr)
theorem LS.trans (h : LS l l') (hI : Inv deep l) (hd : deep ≤ 40) (h' : LS l' l'') : LS l l'' := fun j y hj hr => by
  obtain ⟨y', h1, h2, h3, h4, h5, h6⟩ := h j y hj hr
  obtain ⟨y'', g1, g2, g3, g4, g5, g6⟩ := h' j y' h1 (by rw [h.root hI hd 41 j y hj hr]; exact hr)
  exact ⟨y'', g1, by rw [g2, h2], by rw [g3, h3], by rw [g4, h4], by rw [g5, h5], by rw [g6, h6]⟩
theorem LS.set {j : Nat} (hr : rootF l 41 (j : Int) ≠ 0) (v : Option Nd) : LS l (l.set j v) := fun m y hm hr2 => by
  have hne : m ≠ j := fun e => hr (by rw [← e]; exact hr2)
  exact ⟨y, by rw [set_ne hne]; exact hm, rfl, rfl, rfl, rfl, rfl⟩
theorem LS.removed (hI : Inv deep l) (hd : deep ≤ 40) {i j a : Nat} {x y : Nd} (hj : l[j]? = some (some y)) (hu : y.up = (i : Int)) (hr : rootF l 41 (j : Int) ≠ 0) : LS l (removedZ l i x a j y) := fun m z hm hr2 => by
  have hri : rootF l 41 (i : Int) ≠ 0 := by rw [← hI.rootP hd hj hu]; exact hr
  have h1 : m ≠ j := fun e => hr (by rw [← e]; exact hr2)
  have h2 : m ≠ i := fun e => hri (by rw [← e]; exact hr2)
  refine ⟨z, ?_, rfl, rfl, rfl, rfl, rfl⟩
  unfold removedZ
  rw [set_ne h1, set_ne h2]
  exact hm
theorem LS.host (h : LS l l') (hI : Inv deep l) (hd : deep ≤ 40) (n : Nat) : plainF l' n 0 = plainF l n 0 := by
  obtain ⟨x0, h0, hu, _⟩ := hI.host
  exact h.plain hI hd n 0 x0 h0 (Inv.rootN h0 hu)
end

/-- The tree's blocks that may turn by what is done to one node. -/
def TB (l : List (Option Nd)) (q : Nat) : Prop := ∃ (i : Nat) (x : Nd), l[i]? = some (some x) ∧ (x.ab = q ∨ x.ks.ownBlock = some q)
theorem TB.set {l : List (Option Nd)} {j : Nat} {y y' : Nd} (hj : l[j]? = some (some y)) (e : y'.ab = y.ab) (e2 : y'.ks.ownBlock = y.ks.ownBlock) : ∀ q, TB (l.set j (some y')) q → TB l q := fun q ⟨i, x, hi, hx⟩ => by
  rcases set_get hi with ⟨_, e3⟩ | ⟨_, h⟩
  · obtain rfl := Option.some.inj e3
    exact ⟨j, y, hj, by rw [← e, ← e2]; exact hx⟩
  · exact ⟨i, x, h, hx⟩
/-- Something is answered; the tree stands; what the host says stands, if C; no block aside has turned. -/
def Off (B : Nat) (w : World) (p nb : Nat) (deep : Int) (l : List (Option Nd)) (C : Prop) (e : Ending) (w' : World) : Prop :=
  (∃ v, e = .returned v) ∧ Below B w w' ∧ ∃ l', Full B w' p nb deep l' ∧ Inv deep l' ∧ l'.length = l.length ∧ (C → LS l l') ∧ (∀ q, q < w.heap.size → TB l' q → TB l q) ∧ ∀ q, q < w.heap.size → q ≠ nb → ¬ TB l q → w'.heap[q]? = w.heap[q]?
theorem off_of {B : Nat} {w w' : World} {p nb : Nat} {deep : Int} {l : List (Option Nd)} {C : Prop} {e : Ending} (h : Full B w p nb deep l) (hi : Inv deep l) (he : ∃ v, e = .returned v) (hb : Below w.heap.size w w') : Off B w p nb deep l C e w' :=
  ⟨he, hb.mono (by have := h.bn; have := h.ln; omega), l, h.below hb, hi, rfl, fun _ => LS.refl l, fun _ _ h => h, fun q hq _ _ => hb.block q hq⟩

set_option maxRecDepth 20000 in
set_option maxHeartbeats 4000000 in
theorem settext_off (B : Nat) (w : World) (p nb : Nat) (deep : Int) (l : List (Option Nd)) (h : Full B w p nb deep l) (hI : Inv deep l) (id : Int) (s : ByteArray) :
    Calls Tryd.prog 59 #[.pointer (some ⟨p, 0, none⟩), .int .i64 id, .string s] w (Off B w p nb deep l (rootF l 41 id ≠ 0)) := by
  have KP := Lib.hid (fun (e : Ending) (w' : World) (he : ∃ v, e = .returned v) (hb : Below w.heap.size w w') => off_of (w' := w') (C := (rootF l 41 id ≠ 0)) h hI he hb)
  have hb1 := (Below.refl _ w).alloc (Nat.le_refl _) (.cells #[.int .i64 id] 3)
  have cA := ask_one w p nb deep id l h.t h.ln
  cases hx : ndAt l id with
  | none =>
    rw [(nd_none hx).1, if_neg (by decide)] at cA
    have HB := Lib.hid hb1
    clear h hI hx hb1
    go_enter Tryd.func59, Tryd.ntmps59
    go_wp2_with (go_at_call 73; ((with_reducible refine (cA).mono ?_); rintro e w1 ⟨rfl, rfl⟩))
    go_ret
    exact KP.out _ _ ⟨_, rfl⟩ HB.out
  | some y =>
    obtain ⟨j, rfl, hj⟩ := nd_id hx
    by_cases hy : y.tag = 0
    · by_cases hs : s.size ≤ 8192 ∧ (anewS s).size ≤ 8192
      · refine (settext_any B w p nb deep l h j y s hj hy hs.1 hs.2).mono ?_
        rintro e w' ⟨rfl, h1, h2, h3⟩
        refine ⟨⟨_, rfl⟩, h1, _, h2, ?_, by rw [List.length_set], fun hr => LS.set hr _, fun q _ h => TB.set hj (by rfl) (by rfl) q h, fun q hq _ hne => h3.block q hq (fun e => hne ⟨j, y, hj, .inl e.symm⟩)⟩
        refine hI.same hj rfl rfl id (fun e => ?_) ⟨hI.ats j y hj, hs.2⟩
        obtain ⟨x0, a1, a2, a3⟩ := hI.host
        rw [e] at hj
        rw [a1] at hj
        obtain rfl := Option.some.inj (Option.some.inj hj)
        omega
      · have cN := fun w => anew_any s w
        obtain ⟨v, hv⟩ : ∃ v, (Value.tuple (if s.size ≤ 8192 then #[.string (anewS s), .bool (decide ((anewS s).size ≤ 8192))] else #[.string ⟨#[]⟩, .bool false])) = .tuple #[v, .bool false] := by
          by_cases h1 : s.size ≤ 8192
          · rw [if_pos h1, decide_eq_false (fun h2 => hs ⟨h1, h2⟩)]; exact ⟨_, rfl⟩
          · rw [if_neg h1]; exact ⟨_, rfl⟩
        rw [hv] at cN
        rw [(nd_some hj).1, if_pos rfl] at cA
        have F1 := h.below hb1
        have hjl : j < l.length := (List.getElem?_eq_some_iff.1 hj).1
        have c1 := F1.t.c1
        obtain ⟨yc, yn⟩ := F1.t.yes j y hj
        have y0 := yn.c0
        rw [hy] at y0
        have hle := h.t.le
        obtain ⟨n, hn⟩ : ∃ n, l.length = n := ⟨_, rfl⟩
        rw [hn] at hjl c1 hle
        have hjI : (j : Int) < (n : Int) := by omega
        obtain ⟨b, hb0⟩ : ∃ b, y.ab = b := ⟨_, rfl⟩
        rw [hb0] at yc y0
        have HB := Lib.hid hb1
        clear h hI hx hj hb1 hs hv F1 yn hy hn hb0
        go_enter Tryd.func59, Tryd.ntmps59
        go_wp2_with (first
          | (go_at_call 73; ((with_reducible refine (cA).mono ?_); rintro e w1 ⟨rfl, rfl⟩))
          | (go_at_call 71; ((with_reducible refine (cN _).mono ?_); rintro e w2 ⟨rfl, hb2⟩)))
        go_ret
        exact KP.out _ _ ⟨_, rfl⟩ (HB.out.trans (hb2.mono (by simp)))
    · rw [(nd_some hj).1, if_pos rfl] at cA
      have F1 := h.below hb1
      have hjl : j < l.length := (List.getElem?_eq_some_iff.1 hj).1
      have c1 := F1.t.c1
      obtain ⟨yc, yn⟩ := F1.t.yes j y hj
      have y0 := yn.c0
      have htb : (y.tag == 0) = false := by simpa using hy
      have hle := h.t.le
      obtain ⟨n, hn⟩ : ∃ n, l.length = n := ⟨_, rfl⟩
      rw [hn] at hjl c1 hle
      have hjI : (j : Int) < (n : Int) := by omega
      obtain ⟨b, hb0⟩ : ∃ b, y.ab = b := ⟨_, rfl⟩
      rw [hb0] at yc y0
      have HB := Lib.hid hb1
      clear h hI hx hj hb1 F1 yn hn hb0
      go_enter Tryd.func59, Tryd.ntmps59
      go_wp2_with (go_at_call 73; ((with_reducible refine (cA).mono ?_); rintro e w1 ⟨rfl, rfl⟩))
      go_ret
      exact KP.out _ _ ⟨_, rfl⟩ HB.out

set_option maxRecDepth 20000 in
set_option maxHeartbeats 4000000 in
theorem setattrs_off (B : Nat) (w : World) (p nb : Nat) (deep : Int) (l : List (Option Nd)) (h : Full B w p nb deep l) (hI : Inv deep l) (id : Int) (v : Value) (ats : Row) (hv : RowAt w v ats) (hl : ats.length ≤ 10000) (hs : SizedR ats) :
    Calls Tryd.prog 58 #[.pointer (some ⟨p, 0, none⟩), .int .i64 id, v] w (Off B w p nb deep l (rootF l 41 id ≠ 0)) := by
  have KP := Lib.hid (fun (e : Ending) (w' : World) (he : ∃ v, e = .returned v) (hb : Below w.heap.size w w') => off_of (w' := w') (C := (rootF l 41 id ≠ 0)) h hI he hb)
  have cE := element_any w p nb deep l h.t id h.ln
  have bad : ∀ c : Int, c ≠ 0 → elemT l id = (none, c) → Calls Tryd.prog 58 #[.pointer (some ⟨p, 0, none⟩), .int .i64 id, v] w (Off B w p nb deep l (rootF l 41 id ≠ 0)) := fun c hc e => by
    rw [e] at cE
    unfold ndV at cE
    dsimp only at cE
    have hcb : (c == 0) = false := by simpa using hc
    clear h hI hv hs e
    go_enter Tryd.func58, Tryd.ntmps58
    go_wp2_with (go_at_call 64; ((with_reducible refine (cE).mono ?_); rintro e w1 ⟨rfl, hb⟩))
    go_ret
    exact KP.out _ _ ⟨_, rfl⟩ hb
  cases hx : ndAt l id with
  | none => exact bad 2 (by decide) (by unfold elemT; rw [hx])
  | some y =>
    obtain ⟨j, rfl, hj⟩ := nd_id hx
    by_cases hy : y.tag = 0
    · exact bad 6 (by decide) (by unfold elemT; rw [hx]; exact if_pos hy)
    · have e1 : elemT l (j : Int) = (some y, 0) := by unfold elemT; rw [hx]; exact if_neg hy
      rw [e1] at cE
      unfold ndV at cE
      dsimp only at cE
      have hsame : ∀ aa an ac, Inv deep (l.set j (some { y with aa := aa, an := an, ac := ac, ats := ats })) := fun aa an ac => hI.same hj rfl rfl id (fun e => by
        obtain ⟨x0, a1, a2, a3⟩ := hI.host
        rw [e, a1] at hj
        obtain rfl := Option.some.inj (Option.some.inj hj)
        exact a3) ⟨hl, (hI.own j y hj).2⟩
      have cO := fun (w1 : World) (hb : Below w.heap.size w w1) => own_any w1 v ats (hv.below hb) hl hs
      unfold OwnR at cO
      have KR : Hid (∀ w1 w2, Below w.heap.size w w1 → Below w1.heap.size w1 w2 → ∀ aa an ac, w2.ownsRow w1.heap.size 116 2 (.slice aa an ac) ats.length (cellsR ats) → (w2.cell? ⟨y.ab, 1, none⟩ = some y.as ∧ w2.frozen? ⟨y.ab, 1, none⟩ = false) ∧ Below B w (w2.setCell ⟨y.ab, 1, none⟩ (.slice aa an ac)) ∧ Full B (w2.setCell ⟨y.ab, 1, none⟩ (.slice aa an ac)) p nb deep (l.set j (some { y with aa := aa, an := an, ac := ac, ats := ats })) ∧ Inv deep (l.set j (some { y with aa := aa, an := an, ac := ac, ats := ats })) ∧ But y.ab w (w2.setCell ⟨y.ab, 1, none⟩ (.slice aa an ac)) ∧ ((rootF l 41 (j : Int) ≠ 0 → LS l (l.set j (some { y with aa := aa, an := an, ac := ac, ats := ats }))) ∧ ∀ q, TB (l.set j (some { y with aa := aa, an := an, ac := ac, ats := ats })) q → TB l q) ∧ (∀ q, ¬ TB l q → q ≠ y.ab)) := Lib.hid (fun w1 w2 hb hb2 aa an ac ho => by
        have F1 := h.below hb
        have F2 := F1.below hb2
        have hBw : B ≤ w.heap.size := by have := h.bn; have := h.ln; omega
        exact ⟨⟨(F2.t.yes j y hj).2.c1, (F2.t.yes j y hj).2.f 1⟩, ((hb.trans (hb2.mono hb.size)).mono hBw).setCell (p := ⟨y.ab, 1, none⟩) (h.ab j y hj).1 _, F1.setAttrs hj hb2 aa an ac ats ho, hsame aa an ac, But.setCell ⟨Nat.le_trans hb.size hb2.size, fun b hb3 _ => (hb2.block b (Nat.lt_of_lt_of_le hb3 hb.size)).trans (hb.block b hb3)⟩ 1 _, ⟨fun hr => LS.set hr _, TB.set hj rfl rfl⟩, fun q hq e => hq ⟨j, y, hj, .inl e.symm⟩⟩)
      obtain ⟨b, hb0⟩ : ∃ b, y.ab = b := ⟨_, rfl⟩
      rw [hb0] at cE KR
      unfold Nd.as at KR
      clear bad h hI hv hs hx hj hy e1 hsame KP hb0
      go_enter Tryd.func58, Tryd.ntmps58
      go_wp2_with (first
        | (go_at_call 64; ((with_reducible refine (cE).mono ?_); rintro e w1 ⟨rfl, hb⟩))
        | (go_at_call 78; ((with_reducible refine (cO _ hb).mono ?_); rintro e w3 ⟨v3, rfl, hown, hb3⟩; obtain ⟨aa, ac, rfl⟩ := (rowAt_of_own hown).len; obtain ⟨⟨d1, g1⟩, hR⟩ := KR.out _ _ hb hb3 _ _ _ hown; have HR := Lib.hid hR; clear hR hown)))
      go_ret
      obtain ⟨r1, r2, r3, r4, r5, r6⟩ := HR.out
      exact ⟨⟨_, rfl⟩, r1, _, r2, r3, by rw [List.length_set], r5.1, fun q _ => r5.2 q, fun q hq _ hne => r4.block q hq (r6 q hne)⟩

set_option maxRecDepth 20000 in
set_option maxHeartbeats 4000000 in
theorem settag_but (B : Nat) (w : World) (p nb : Nat) (deep : Int) (l : List (Option Nd)) (h : Full B w p nb deep l) (j : Nat) (y : Nd) (t : Int) (hj : l[j]? = some (some y)) (hj0 : j ≠ 0) (hy : y.tag ≠ 0) (hT : OwnT w) (ht : (nameOf t).toList.isEmpty = false) :
    Calls Tryd.prog 60 #[.pointer (some ⟨p, 0, none⟩), .int .i64 j, .int .i64 t] w fun e w' => e = .returned (.int .i64 0) ∧ Below B w w' ∧ Full B w' p nb deep (l.set j (some { y with tag := t })) ∧ But y.ab w w' := by
  have cE := element_any w p nb deep l h.t (j : Int) h.ln
  have e1 : elemT l (j : Int) = (some y, 0) := by unfold elemT; rw [ndAt_of hj]; exact if_neg hy
  rw [e1] at cE
  unfold ndV at cE
  dsimp only at cE
  have cI := fun (w1 : World) (hb : Below w.heap.size w w1) => isel_any t w1 (hT.below hb)
  rw [ht] at cI
  have KR : Hid (∀ w1, Below w.heap.size w w1 → (w1.cell? ⟨y.ab, 0, none⟩ = some (.int .i64 y.tag) ∧ w1.frozen? ⟨y.ab, 0, none⟩ = false) ∧ Below B w (w1.setCell ⟨y.ab, 0, none⟩ (.int .i64 t)) ∧ Full B (w1.setCell ⟨y.ab, 0, none⟩ (.int .i64 t)) p nb deep (l.set j (some { y with tag := t })) ∧ But y.ab w (w1.setCell ⟨y.ab, 0, none⟩ (.int .i64 t))) := Lib.hid (fun w1 hb => by
    have F := h.below hb
    have := h.bn
    have := h.ln
    exact ⟨⟨(F.t.yes j y hj).2.c0, (F.t.yes j y hj).2.f 0⟩, (hb.mono (by omega)).setCell (p := ⟨y.ab, 0, none⟩) (h.ab j y hj).1 _, F.setTag hj t, But.setCell ⟨hb.size, fun b hb2 _ => hb.block b hb2⟩ 0 _⟩)
  have hjb : ((j : Int) == 0) = false := by simpa using hj0
  obtain ⟨b, hb0⟩ : ∃ b, y.ab = b := ⟨_, rfl⟩
  rw [hb0] at cE KR ⊢
  clear h hj hj0 hy hT ht e1 hb0
  go_enter Tryd.func60, Tryd.ntmps60
  go_wp2_with (first
    | (go_at_call 64; ((with_reducible refine (cE).mono ?_); rintro e w1 ⟨rfl, hb⟩; obtain ⟨⟨d0, g0⟩, hR⟩ := KR.out w1 hb; have HR := Lib.hid hR; clear hR))
    | (go_at_call 79; ((with_reducible refine (cI _ hb).mono ?_); rintro e w2 ⟨rfl, rfl⟩)))
  go_ret
  exact ⟨rfl, HR.out⟩

set_option maxRecDepth 20000 in
set_option maxHeartbeats 4000000 in
theorem settag_off (B : Nat) (w : World) (p nb : Nat) (deep : Int) (l : List (Option Nd)) (h : Full B w p nb deep l) (hI : Inv deep l) (id t : Int) (hT : OwnT w) :
    Calls Tryd.prog 60 #[.pointer (some ⟨p, 0, none⟩), .int .i64 id, .int .i64 t] w (Off B w p nb deep l (rootF l 41 id ≠ 0)) := by
  have KP := Lib.hid (fun (e : Ending) (w' : World) (he : ∃ v, e = .returned v) (hb : Below w.heap.size w w') => off_of (w' := w') (C := (rootF l 41 id ≠ 0)) h hI he hb)
  have cE := element_any w p nb deep l h.t id h.ln
  have bad : ∀ c : Int, c ≠ 0 → elemT l id = (none, c) → Calls Tryd.prog 60 #[.pointer (some ⟨p, 0, none⟩), .int .i64 id, .int .i64 t] w (Off B w p nb deep l (rootF l 41 id ≠ 0)) := fun c hc e => by
    rw [e] at cE
    unfold ndV at cE
    dsimp only at cE
    have hcb : (c == 0) = false := by simpa using hc
    clear h hI hT e
    go_enter Tryd.func60, Tryd.ntmps60
    go_wp2_with (go_at_call 64; ((with_reducible refine (cE).mono ?_); rintro e w1 ⟨rfl, hb⟩))
    go_ret
    exact KP.out _ _ ⟨_, rfl⟩ hb
  cases hx : ndAt l id with
  | none => exact bad 2 (by decide) (by unfold elemT; rw [hx])
  | some y =>
    obtain ⟨j, rfl, hj⟩ := nd_id hx
    by_cases hy : y.tag = 0
    · exact bad 6 (by decide) (by unfold elemT; rw [hx]; exact if_pos hy)
    · have e1 : elemT l (j : Int) = (some y, 0) := by unfold elemT; rw [hx]; exact if_neg hy
      by_cases hj0 : j = 0
      · rw [e1] at cE
        unfold ndV at cE
        dsimp only at cE
        subst hj0
        rw [show ((0 : Nat) : Int) = 0 from rfl] at cE ⊢
        clear bad h hI hT hx hj hy e1
        go_enter Tryd.func60, Tryd.ntmps60
        go_wp2_with (go_at_call 64; ((with_reducible refine (cE).mono ?_); rintro e w1 ⟨rfl, hb⟩))
        go_ret
        exact KP.out _ _ ⟨_, rfl⟩ hb
      · cases ht : (nameOf t).toList.isEmpty with
        | false =>
          refine (settag_but B w p nb deep l h j y t hj hj0 hy hT ht).mono ?_
          rintro e w' ⟨rfl, h1, h2, h3⟩
          refine ⟨⟨_, rfl⟩, h1, _, h2, ?_, by rw [List.length_set], fun hr => LS.set hr _, fun q _ h => TB.set hj (by rfl) (by rfl) q h, fun q hq _ hne => h3.block q hq (fun e => hne ⟨j, y, hj, .inl e.symm⟩)⟩
          refine hI.same hj rfl rfl (fun e => ?_) (fun e => absurd e hj0) (hI.own j y hj)
          have e2 : t = 0 := e
          rw [e2, name0] at ht
          cases ht
        | true =>
          rw [e1] at cE
          unfold ndV at cE
          dsimp only at cE
          have cI := fun (w1 : World) (hb : Below w.heap.size w w1) => isel_any t w1 (hT.below hb)
          rw [ht] at cI
          have hjb : ((j : Int) == 0) = false := by simpa using hj0
          clear bad h hI hT hx hj hy e1 ht
          go_enter Tryd.func60, Tryd.ntmps60
          go_wp2_with (first
            | (go_at_call 64; ((with_reducible refine (cE).mono ?_); rintro e w1 ⟨rfl, hb⟩))
            | (go_at_call 79; ((with_reducible refine (cI _ hb).mono ?_); rintro e w2 ⟨rfl, rfl⟩)))
          go_ret
          exact KP.out _ _ ⟨_, rfl⟩ hb

set_option maxRecDepth 20000 in
set_option maxHeartbeats 8000000 in
theorem remove_but (B : Nat) (w : World) (p nb : Nat) (deep : Int) (l : List (Option Nd)) (h : Full B w p nb deep l) (i at_ j : Nat) (x y : Nd) (hi : l[i]? = some (some x)) (hj : l[j]? = some (some y)) (hij : i ≠ j) (hup : y.up = (i : Int)) (hix : ixZ x.kids (j : Int) 0 = (at_ : Int)) (hat : at_ < x.kids.length) :
    Calls Tryd.prog 56 #[.pointer (some ⟨p, 0, none⟩), .int .i64 j] w fun e w' => e = .returned (.int .i64 0) ∧ Below B w w' ∧ Full B w' p nb deep (removedZ l i x at_ j y) ∧ (∀ q, q < w.heap.size → x.ks.ownBlock ≠ some q → q ≠ x.ab → q ≠ y.ab → w'.heap[q]? = w.heap[q]?) := by
  have hb1 := (Below.refl _ w).alloc (Nat.le_refl _) (.cells #[.int .i64 (j : Int)] 3)
  have hny := ndAt_of hj
  have hnx := ndAt_of hi
  have F1 := h.below hb1
  have cA := ask_any _ p nb deep l F1.t w.heap.size [(j : Int)] (by simp) (fun k hk => by
    obtain rfl : k = 0 := by simpa using hk
    simp [go_sem])
  have e1 : askT l [(j : Int)] = 0 := by
    unfold askT
    rw [if_pos]
    simp [hasT, hny]
  have e2 : [(j : Int)].length = 1 := rfl
  rw [e1, e2] at cA
  have cI := index_any _ p nb deep (j : Int) l F1.t
  have e3 : indexT l (j : Int) = (at_ : Int) := by
    unfold indexT upT
    rw [hny]
    show (match ndAt l y.up with | none => -1 | some x => ixZ x.kids (j : Int) 0) = _
    rw [hup, hnx]
    exact hix
  rw [e3] at cI
  obtain ⟨g, hg⟩ : ∃ g, x.ka = some ⟨g, 0, none⟩ := by
    rcases (h.own i x hi).2 with ⟨e, h0⟩ | ⟨g, cap, cur, e, _⟩
    · omega
    · unfold Nd.ks at e
      simp only [Value.slice.injEq] at e
      exact ⟨g, e.1⟩
  have hown : ∀ wq, Below w.heap.size w wq → wq.ownsRow B 3 1 (.slice (some ⟨g, 0, none⟩) x.kids.length x.kc) x.kids.length (cellsZ x.kids) := fun wq hb => by
    have := (h.below hb).own i x hi
    unfold Nd.ks at this
    rw [hg] at this
    exact this
  have cD := fun (wq : World) (hb : Below w.heap.size w wq) => sdel_any B wq g x.kc x.kids at_ (hown wq hb) hat
  have KW : Hid (∀ wq, Below w.heap.size w wq → ∀ w2, wq.grownBy w2 (some g) → (w2.cell? ⟨x.ab, 5, none⟩ = some x.ks ∧ w2.frozen? ⟨x.ab, 5, none⟩ = false) ∧ w2.cell? ⟨y.ab, 4, none⟩ = some (.int .i64 y.up) ∧ w2.frozen? ⟨y.ab, 4, none⟩ = false) := Lib.hid (fun wq hb w2 hgr => by
    have F := h.below hb
    obtain ⟨_, _, a3⟩ := h.kb i x g hi (ks_block hg)
    have kx := (a3 i x hi).1
    have ky := (a3 j y hj).1
    have hbx := hgr.block x.ab (lt_of_cell' (F.t.yes i x hi).2.c0) (fun e => kx (by simpa using e.symm))
    have hby := hgr.block y.ab (lt_of_cell' (F.t.yes j y hj).2.c0) (fun e => ky (by simpa using e.symm))
    exact ⟨⟨(World.cell?_of_block (w := wq) hbx).trans (F.t.yes i x hi).2.c5, (World.frozen?_of_block (w := wq) hbx).trans ((F.t.yes i x hi).2.f 5)⟩, (World.cell?_of_block (w := wq) hby).trans (F.t.yes j y hj).2.c4, (World.frozen?_of_block (w := wq) hby).trans ((F.t.yes j y hj).2.f 4)⟩)
  have KR : Hid (∀ wq, Below w.heap.size w wq → ∀ w2, w2.ownsRow B 3 1 (.slice (some ⟨g, 0, none⟩) (delZ x.kids at_).length x.kc) (delZ x.kids at_).length (cellsZ (delZ x.kids at_)) → wq.grownBy w2 (some g) → Below B w ((w2.setCell ⟨x.ab, 5, none⟩ (.slice (some ⟨g, 0, none⟩) (delZ x.kids at_).length x.kc)).setCell ⟨y.ab, 4, none⟩ (.int .i64 (-1))) ∧ Full B ((w2.setCell ⟨x.ab, 5, none⟩ (.slice (some ⟨g, 0, none⟩) (delZ x.kids at_).length x.kc)).setCell ⟨y.ab, 4, none⟩ (.int .i64 (-1))) p nb deep (removedZ l i x at_ j y) ∧ (∀ q, q < w.heap.size → x.ks.ownBlock ≠ some q → q ≠ x.ab → q ≠ y.ab → ((w2.setCell ⟨x.ab, 5, none⟩ (.slice (some ⟨g, 0, none⟩) (delZ x.kids at_).length x.kc)).setCell ⟨y.ab, 4, none⟩ (.int .i64 (-1))).heap[q]? = w.heap[q]?)) := Lib.hid (fun wq hb w2 own hgr => by
    obtain ⟨r1, r2⟩ := (h.below hb).removed hi hj hij hat hg own hgr
    exact ⟨(hb.mono (by have := h.bn; have := h.ln; omega)).trans r2, r1, fun q hq h1 h2 h3 => (Below.heap_setCell _ ⟨y.ab, 4, none⟩ _ q h3).trans ((Below.heap_setCell _ ⟨x.ab, 5, none⟩ _ q h2).trans ((hgr.block q (Nat.lt_of_lt_of_le hq hb.size) (fun e => h1 ((ks_block hg).trans e.symm))).trans (hb.block q hq)))⟩)
  have hjl : j < l.length := (List.getElem?_eq_some_iff.1 hj).1
  have hil : i < l.length := (List.getElem?_eq_some_iff.1 hi).1
  have c1 := F1.t.c1
  obtain ⟨xc, xn⟩ := F1.t.yes i x hi
  obtain ⟨yc, yn⟩ := F1.t.yes j y hj
  have y4 := yn.c4
  have x5 := xn.c5
  rw [hup] at y4
  rw [hg] at x5
  have hle := h.t.le
  have hkl := (h.t.yes i x hi).2.kl
  have hw1 : IntKind.i64.wrap ((at_ : Int) + 1) = (at_ : Int) + 1 := IntWalk.i64_in _ (by omega)
  obtain ⟨n, hn⟩ : ∃ n, l.length = n := ⟨_, rfl⟩
  rw [hn] at hil hjl c1 hle
  have hiI : (i : Int) < (n : Int) := by omega
  have hjI : (j : Int) < (n : Int) := by omega
  obtain ⟨bx, hbx⟩ : ∃ b, x.ab = b := ⟨_, rfl⟩
  obtain ⟨by_, hby⟩ : ∃ b, y.ab = b := ⟨_, rfl⟩
  rw [hbx] at xc x5 KW KR ⊢
  rw [hby] at yc y4 KW KR ⊢
  have HB1 := Lib.hid hb1
  clear h F1 hi hj hij hup hix hat hny hnx e1 e2 e3 hg hown xn yn hn hbx hby hb1 hkl
  go_enter Tryd.func56, Tryd.ntmps56
  go_wp2_with (first
    | (go_at_call 73; ((with_reducible refine (cA).mono ?_); rintro e w1 ⟨rfl, rfl⟩))
    | (go_at_call 34; ((with_reducible refine (cI).mono ?_); rintro e w1 ⟨rfl, rfl⟩)))
  go_quiet (fail)
  have HQ : Hid (Below w.heap.size w ((w.alloc (.cells #[.int .i64 (j : Int)] 3)).drewN nq)) := Lib.hid (HB1.out.trans ((bdraws _ nq).mono (by simp)))
  go_wp2_with (go_at_call 76; ((with_reducible refine (cD _ HQ.out).mono ?_); rintro e w2 ⟨rfl, own2, gr2⟩; obtain ⟨⟨d5, g5⟩, d4, g4⟩ := KW.out _ HQ.out _ gr2; have HR := Lib.hid (KR.out _ HQ.out _ own2 gr2); clear own2 gr2))
  go_ret
  exact ⟨rfl, HR.out⟩

theorem TB.removed {l : List (Option Nd)} {i j a : Nat} {x y : Nd} (hi : l[i]? = some (some x)) (hj : l[j]? = some (some y)) : ∀ q, TB (removedZ l i x a j y) q → TB l q := fun q ⟨k, z, hk, hz⟩ => by
  unfold removedZ at hk
  rcases set_get hk with ⟨_, e⟩ | ⟨_, hk⟩
  · obtain rfl := Option.some.inj e
    exact ⟨j, y, hj, hz⟩
  · rcases set_get hk with ⟨_, e⟩ | ⟨_, hk⟩
    · obtain rfl := Option.some.inj e
      refine ⟨i, x, hi, ?_⟩
      rcases hz with h | h
      · exact .inl h
      · right
        unfold Nd.ks at h ⊢
        cases e2 : x.ka with
        | none => simp only [e2] at h; cases h
        | some a2 => simp only [e2] at h; exact h
    · exact ⟨k, z, hk, hz⟩

set_option maxRecDepth 20000 in
set_option maxHeartbeats 8000000 in
theorem remove_off (B : Nat) (w : World) (p nb : Nat) (deep : Int) (l : List (Option Nd)) (h : Full B w p nb deep l) (hI : Inv deep l) (hd : deep ≤ 40) (id : Int) :
    Calls Tryd.prog 56 #[.pointer (some ⟨p, 0, none⟩), .int .i64 id] w (Off B w p nb deep l (rootF l 41 id ≠ 0)) := by
  have KP := Lib.hid (fun (e : Ending) (w' : World) (he : ∃ v, e = .returned v) (hb : Below w.heap.size w w') => off_of (w' := w') (C := (rootF l 41 id ≠ 0)) h hI he hb)
  have hb1 := (Below.refl _ w).alloc (Nat.le_refl _) (.cells #[.int .i64 id] 3)
  have cA := ask_one w p nb deep id l h.t h.ln
  have HB := Lib.hid hb1
  cases hx : ndAt l id with
  | none =>
    rw [(nd_none hx).1, if_neg (by decide)] at cA
    clear h hI hx hb1
    go_enter Tryd.func56, Tryd.ntmps56
    go_wp2_with (go_at_call 73; ((with_reducible refine (cA).mono ?_); rintro e w1 ⟨rfl, rfl⟩))
    go_ret
    exact KP.out _ _ ⟨_, rfl⟩ HB.out
  | some y =>
    obtain ⟨j, rfl, hj⟩ := nd_id hx
    rcases hI.par j y hj with hu | ⟨i, x, hu, hi, hm⟩
    · have cI := index_any _ p nb deep (j : Int) l (h.below hb1).t
      have e3 : indexT l (j : Int) = -1 := by unfold indexT; rw [(nd_some hj).2, hu, nd_neg]
      rw [e3] at cI
      rw [(nd_some hj).1, if_pos rfl] at cA
      clear h hI hx hj hb1 e3
      go_enter Tryd.func56, Tryd.ntmps56
      go_wp2_with (first
        | (go_at_call 73; ((with_reducible refine (cA).mono ?_); rintro e w1 ⟨rfl, rfl⟩))
        | (go_at_call 34; ((with_reducible refine (cI).mono ?_); rintro e w1 ⟨rfl, rfl⟩)))
      go_ret
      exact KP.out _ _ ⟨_, rfl⟩ HB.out
    · rcases ixZ_at x.kids (j : Int) 0 with ⟨_, h2⟩ | ⟨a, h1, h2⟩
      · exact absurd hm h2
      · rw [Nat.zero_add] at h1
        have hij : i ≠ j := fun e => by
          obtain ⟨r, hr⟩ := hI.dep
          have := hr.up j y i hj hu
          rw [e] at this
          omega
        refine (remove_but B w p nb deep l h i a j x y hi hj hij hu h1 (List.getElem?_eq_some_iff.1 h2).1).mono ?_
        rintro e w' ⟨rfl, b1, b2, b3⟩
        exact ⟨⟨_, rfl⟩, b1, _, b2, hI.remove hi hj hu h2, by unfold removedZ; rw [List.length_set, List.length_set], fun hr => LS.removed hI hd hj hu hr, fun q _ => TB.removed hi hj q, fun q hq _ hne => b3 q hq (fun e => hne ⟨i, x, hi, .inr e⟩) (fun e => hne ⟨i, x, hi, .inl e.symm⟩) (fun e => hne ⟨j, y, hj, .inl e.symm⟩)⟩

set_option maxRecDepth 20000 in
set_option maxHeartbeats 4000000 in
theorem join_but (B : Nat) (w : World) (p nb : Nat) (deep : Int) (l : List (Option Nd)) (h : Full B w p nb deep l) (i at_ j : Nat) (x y : Nd) (hi : l[i]? = some (some x)) (hj : l[j]? = some (some y)) (hij : i ≠ j) (hat : at_ ≤ x.kids.length) (hlen : x.kids.length < 2000) :
    Calls Tryd.prog 69 #[.pointer (some ⟨p, 0, none⟩), .int .i64 i, .int .i64 at_, .int .i64 j] w fun e w' => e = .returned (.tuple #[]) ∧ Below B w w' ∧ ∃ ka kc, Full B w' p nb deep (joinedZ l i x at_ j y ka kc) ∧ ((Value.slice ka (insZ x.kids at_ j).length kc).ownBlock = x.ks.ownBlock ∨ ∀ b, (Value.slice ka (insZ x.kids at_ j).length kc).ownBlock = some b → w.heap.size ≤ b) ∧ ∀ q, q < w.heap.size → x.ks.ownBlock ≠ some q → q ≠ x.ab → q ≠ y.ab → w'.heap[q]? = w.heap[q]? := by
  have hpl : p < w.heap.size := lt_of_cell' h.t.c0
  have hsz : (w.alloc (.cells #[.int .i64 (j : Int)] 3)).heap.size = w.heap.size + 1 := by simp
  have hxo := h.own i x hi
  have cS := sins_any B (w.alloc (.cells #[.int .i64 (j : Int)] 3)) x.ks x.kids at_ w.heap.size j (hxo.alloc _) (by rw [hsz]; have := h.bn; have := h.ln; omega) hat (by omega) (heap_alloc_new w _) (fun e => by have := (hxo.lt _ e).2; omega)
  have hil : i < l.length := (List.getElem?_eq_some_iff.1 hi).1
  have hjl : j < l.length := (List.getElem?_eq_some_iff.1 hj).1
  obtain ⟨x0, x1, x2⟩ := h.ab i x hi
  obtain ⟨y0, y1, y2⟩ := h.ab j y hj
  have xy := h.aa i j x y hi hj hij
  have kp : x.ks.ownBlock ≠ some p := fun e => (h.kb i x p hi e).1 rfl
  have kn : x.ks.ownBlock ≠ some nb := fun e => (h.kb i x nb hi e).2.1 rfl
  have kx : x.ks.ownBlock ≠ some x.ab := fun e => ((h.kb i x x.ab hi e).2.2 i x hi).1 rfl
  have ky : x.ks.ownBlock ≠ some y.ab := fun e => ((h.kb i x y.ab hi e).2.2 j y hj).1 rfl
  have hxl : x.ab < w.heap.size := lt_of_cell' (h.t.yes i x hi).2.c0
  have hyl : y.ab < w.heap.size := lt_of_cell' (h.t.yes j y hj).2.c0
  obtain ⟨xc, xn⟩ := h.t.yes i x hi
  obtain ⟨yc, yn⟩ := h.t.yes j y hj
  have c1 := h.t.c1
  have c5 : w.cell? ⟨x.ab, 5, none⟩ = some x.ks := xn.c5
  have y4 := yn.c4
  have f5 := xn.f 5
  have f4 := yn.f 4
  have hle := h.t.le
  -- what stands behind Insert
  have KW : Hid (∀ w1, (w.alloc (.cells #[.int .i64 (j : Int)] 3)).grownBy w1 x.ks.ownBlock → ∀ b, b < w.heap.size → x.ks.ownBlock ≠ some b → w1.heap[b]? = w.heap[b]?) := Lib.hid (fun w1 hg b hb hn => (hg.block b (by rw [hsz]; omega) (fun e => hn e.symm)).trans (Below.heap_alloc w _ b hb))
  have HF := Lib.hid h
  have HI := Lib.hid hi
  have HJ := Lib.hid hj
  have HX := Lib.hid (And.intro x0 (And.intro x1 x2))
  have HY := Lib.hid (And.intro y0 (And.intro y1 y2))
  have HXY := Lib.hid xy
  have HK := Lib.hid (And.intro kp (And.intro kn (And.intro kx ky)))
  have HL := Lib.hid (And.intro hpl (And.intro h.ln (And.intro hxl hyl)))
  have HXN := Lib.hid xn
  have HLen : Hid ((insZ x.kids at_ j).length ≤ 2000 ∧ i ≠ j) := Lib.hid ⟨by unfold insZ; simp; omega, hij⟩
  have HYN := Lib.hid yn
  obtain ⟨n, hn⟩ : ∃ n, l.length = n := ⟨_, rfl⟩
  rw [hn] at hil hjl c1 hle
  have hiI : (i : Int) < (n : Int) := by omega
  have hjI : (j : Int) < (n : Int) := by omega
  obtain ⟨bx, hbx⟩ : ∃ b, x.ab = b := ⟨_, rfl⟩
  obtain ⟨by_, hby⟩ : ∃ b, y.ab = b := ⟨_, rfl⟩
  obtain ⟨kv, hkv⟩ : ∃ v, x.ks = v := ⟨_, rfl⟩
  rw [hbx] at xc c5 f5
  rw [hby] at yc y4 f4
  rw [hkv] at c5 cS
  have HBX := Lib.hid hbx
  have HBY := Lib.hid hby
  have HKV := Lib.hid hkv
  have hxyb : bx ≠ by_ := by rw [← hbx, ← hby]; exact xy
  have hxp : bx ≠ p := by rw [← hbx]; exact x1
  have hxn : bx ≠ nb := by rw [← hbx]; exact x2
  clear h hi hj hxo hbx hby hkv hn x0 x1 x2 y0 y1 y2 xy kp kn kx ky xn yn hxl hyl hpl hat hlen hij
  go_enter Tryd.func69, Tryd.ntmps69
  go_upto_region 1 with fail
  go_wp2_with (go_at_call 84; ((with_reducible refine (cS).mono ?_); rintro e w1 ⟨v', rfl, ownv, hgr, hbl⟩; obtain ⟨ka, kc, rfl, hkz⟩ := own_kids ownv; have KZ := Lib.hid hkz; have hW := KW.out w1 (by rw [HKV.out]; exact hgr); have d1 : w1.cell? ⟨p, 1, none⟩ = some (.slice (some ⟨nb, 0, none⟩) n n) := (World.cell?_of_block (w := w) (hW p HL.out.1 HK.out.1)).trans c1; have dx : w1.cell? ⟨bx, 5, none⟩ = some kv := (World.cell?_of_block (w := w) (hW bx (by have := HL.out.2.2.1; rw [HBX.out] at this; exact this) (by have := HK.out.2.2.1; rw [HBX.out] at this; exact this))).trans c5; have dy : w1.cell? ⟨nb, j, none⟩ = some (.pointer (some ⟨by_, 0, none⟩)) := (World.cell?_of_block (w := w) (hW nb HL.out.2.1 HK.out.2.1)).trans yc; have d4 : w1.cell? ⟨by_, 4, none⟩ = some (.int .i64 y.up) := (World.cell?_of_block (w := w) (hW by_ (by have := HL.out.2.2.2; rw [HBY.out] at this; exact this) (by have := HK.out.2.2.2; rw [HBY.out] at this; exact this))).trans y4; have g5 : w1.frozen? ⟨bx, 5, none⟩ = false := (World.frozen?_of_block (w := w) (hW bx (by have := HL.out.2.2.1; rw [HBX.out] at this; exact this) (by have := HK.out.2.2.1; rw [HBX.out] at this; exact this))).trans f5; have g4 : w1.frozen? ⟨by_, 4, none⟩ = false := (World.frozen?_of_block (w := w) (hW by_ (by have := HL.out.2.2.2; rw [HBY.out] at this; exact this) (by have := HK.out.2.2.2; rw [HBY.out] at this; exact this))).trans f4; have OV := Lib.hid ownv; have GR := Lib.hid hgr; have BL := Lib.hid hbl; have HWW := Lib.hid hW; clear ownv hgr hbl hW hkz))
  go_end0
  have ex := HBX.out
  have ey := HBY.out
  have ek := HKV.out
  subst ex
  subst ey
  have hW := HWW.out
  have hgs : w.heap.size + 1 ≤ w1.heap.size := by have := GR.out.size; rw [hsz] at this; exact this
  have hb1 : Below B w w1 := by
    have h0 := (Below.refl B w).alloc (by have := HF.out.bn; have := HF.out.ln; omega) (.cells #[.int .i64 (j : Int)] 3)
    exact h0.grown GR.out (by rw [hsz]; have := HF.out.bn; have := HF.out.ln; omega) (fun k e => by
      rw [← ek] at e
      exact ((HF.out.own i x HI.out).lt k e).1)
  have hvx : (Value.slice ka (insZ x.kids at_ j).length kc).ownBlock ≠ some x.ab := by
    rcases BL.out with e | e
    · rw [e, ← ek]; exact HK.out.2.2.1
    · rw [e, hsz]
      intro e2
      have := HL.out.2.2.1
      simp only [Option.some.injEq] at e2
      omega
  have hvy : (Value.slice ka (insZ x.kids at_ j).length kc).ownBlock ≠ some y.ab := by
    rcases BL.out with e | e
    · rw [e, ← ek]; exact HK.out.2.2.2
    · rw [e, hsz]
      intro e2
      have := HL.out.2.2.2
      simp only [Option.some.injEq] at e2
      omega
  refine ⟨rfl, ((hb1.setCell (p := ⟨x.ab, 5, none⟩) HX.out.1 _).setCell (p := ⟨y.ab, 4, none⟩) HY.out.1 _), ka, kc, ?_⟩
  have T1 : Turned x w w1 := ⟨by omega, fun b hb _ hn => hW b hb hn⟩
  have T2 : Turned x w (w1.setCell ⟨x.ab, 5, none⟩ (.slice ka (insZ x.kids at_ j).length kc)) :=
    ⟨by simpa [World.setCell] using T1.size, fun b hb hn hk => (Below.heap_setCell w1 ⟨x.ab, 5, none⟩ _ b hn).trans (T1.block b hb hn hk)⟩
  have hxw : ∀ k, w1.cell? ⟨x.ab, k, none⟩ = w.cell? ⟨x.ab, k, none⟩ := fun k => World.cell?_of_block (w := w) (hW x.ab HL.out.2.2.1 HK.out.2.2.1)
  have hc : ∀ k, k ≠ 5 → (w1.setCell ⟨x.ab, 5, none⟩ (.slice ka (insZ x.kids at_ j).length kc)).cell? ⟨x.ab, k, none⟩ = w.cell? ⟨x.ab, k, none⟩ := fun k hk => (World.cell?_setCell_other _ _ _ _ (fun e => hk (congrArg Addr.off e).symm)).trans (hxw k)
  have xn := HXN.out
  have NX : NodeAt (w1.setCell ⟨x.ab, 5, none⟩ (.slice ka (insZ x.kids at_ j).length kc)) { x with ka := ka, kc := kc, kids := insZ x.kids at_ j } := by
    refine ⟨(hc 0 (by decide)).trans xn.c0, (hc 1 (by decide)).trans xn.c1, (hc 2 (by decide)).trans xn.c2, (hc 3 (by decide)).trans xn.c3, (hc 4 (by decide)).trans xn.c4, World.cell?_setCell_same _ _ _ ((hxw 5).trans xn.c5), fun k => by rw [World.frozen?_setCell]; exact (World.frozen?_of_block (w := w) (hW x.ab HL.out.2.2.1 HK.out.2.2.1)).trans (xn.f k), ?_, HLen.out.1⟩
    rcases KZ.out with h0 | ⟨b, o, e, h0⟩
    · exact .inl h0
    · subst e
      exact .inr ⟨b, o, rfl, fun k hk => (World.cell?_setCell_far w1 ⟨x.ab, 5, none⟩ _ _ (fun e2 => hvx (by rw [show x.ab = b from e2]; rfl))).trans (h0 k hk)⟩
  have F2 := Full.turn HF.out HI.out { x with ka := ka, kc := kc, kids := insZ x.kids at_ j } rfl T2 NX (OV.out.kept (grown_set w1 x.ab 5 _) (.inr hvx)) (by
    rcases BL.out with e | e
    · exact .inl (e.trans (by rw [← ek]))
    · refine .inr (fun b e2 => ?_)
      have e3 : (Value.slice ka (insZ x.kids at_ j).length kc).ownBlock = some b := e2
      rw [e, hsz] at e3
      simp only [Option.some.injEq] at e3
      omega)
  have hj2 : (l.set i (some { x with ka := ka, kc := kc, kids := insZ x.kids at_ j }))[j]? = some (some y) := by
    rw [List.getElem?_set, if_neg HLen.out.2]; exact HJ.out
  have hyy : ∀ b, y.ks.ownBlock = some b → b ≠ y.ab := fun b e => ((HF.out.kb j y b HJ.out e).2.2 j y HJ.out).1
  have NY := (F2.t.yes j y hj2).2.setUp (fun b o e1 _ => hyy b (ks_block e1)) i
  refine ⟨Full.turn F2 hj2 { y with up := (i : Int) } rfl ⟨by simp [World.setCell], fun b _ hn _ => Below.heap_setCell _ ⟨y.ab, 4, none⟩ _ b hn⟩ NY ((F2.own j y hj2).kept (grown_set _ y.ab 4 _) (.inr (fun e => hyy _ e rfl))) (.inl rfl), ?_, fun q hq h1 h2 h3 => (Below.heap_setCell _ ⟨y.ab, 4, none⟩ _ q h3).trans ((Below.heap_setCell _ ⟨x.ab, 5, none⟩ _ q h2).trans (hW q hq h1))⟩
  rcases BL.out with e | e
  · exact .inl (e.trans (by rw [← ek]))
  · refine .inr (fun b e2 => ?_)
    rw [e, hsz] at e2
    simp only [Option.some.injEq] at e2
    omega

set_option maxRecDepth 20000 in
set_option maxHeartbeats 8000000 in
theorem ins_but (B : Nat) (w : World) (p nb : Nat) (deep : Int) (l : List (Option Nd)) (hF : Full B w p nb deep l) (i at_ j m : Nat) (x y : Nd) (hM : MayInZ l i at_ j x y m) (hf : depthF l m i + 1 + heightF l m j ≤ deep) :
    Calls Tryd.prog 55 #[.pointer (some ⟨p, 0, none⟩), .int .i64 i, .int .i64 at_, .int .i64 j] w fun e w' => e = .returned (.int .i64 0) ∧ Below B w w' ∧ ∃ ka kc, Full B w' p nb deep (joinedZ l i x at_ j y ka kc) ∧ ((Value.slice ka (insZ x.kids at_ j).length kc).ownBlock = x.ks.ownBlock ∨ ∀ b, (Value.slice ka (insZ x.kids at_ j).length kc).ownBlock = some b → w.heap.size ≤ b) ∧ ∀ q, q < w.heap.size → x.ks.ownBlock ≠ some q → q ≠ x.ab → q ≠ y.ab → w'.heap[q]? = w.heap[q]? := by
  have h := hF.t
  have hnb := hF.ln
  have hb1 := (Below.refl _ w).alloc (Nat.le_refl _) (.cells #[.int .i64 (i : Int), .int .i64 (j : Int)] 3)
  have hnx := ndAt_of hM.hi
  have hny := ndAt_of hM.hj
  have cA := ask_any _ p nb deep l (h.below hnb hb1) w.heap.size [(i : Int), (j : Int)] (by simp) (fun k hk => by
    have hk2 : k = 0 ∨ k = 1 := by simp at hk; omega
    rcases hk2 with rfl | rfl <;> simp [go_sem])
  have e1 : askT l [(i : Int), (j : Int)] = 0 := by
    unfold askT
    rw [if_pos]
    simp [hasT, hnx, hny]
  have e2 : [(i : Int), (j : Int)].length = 2 := rfl
  rw [e1, e2] at cA
  have HTB := fun (w1 : World) (hb : Below w.heap.size w w1) => h.below hnb hb
  have hnB := fun (w1 : World) (hb : Below w.heap.size w w1) => Nat.lt_of_lt_of_le hnb hb.size
  have cE := fun (w1 : World) (hb : Below w.heap.size w w1) => element_any w1 p nb deep l (HTB w1 hb) i (hnB w1 hb)
  have e3 : elemT l (i : Int) = (some x, 0) := by unfold elemT; rw [hnx]; exact if_neg hM.ht
  rw [e3] at cE
  unfold ndV at cE
  dsimp only at cE
  have cL := fun (w1 : World) (hb : Below w.heap.size w w1) => loose_any w1 p nb deep l (HTB w1 hb) j
  rw [hM.hl] at cL
  have cT := fun (w1 : World) (hb : Below w.heap.size w w1) => takes_any w1 x at_ ((HTB w1 hb).yes i x hM.hi).2
  have e4 : takesT x at_ = true := by
    have := hM.hat
    unfold takesT
    simp only [Bool.and_eq_true, decide_eq_true_eq]
    omega
  rw [e4] at cT
  have cR := fun (w1 : World) (hb : Below w.heap.size w w1) => root_any w1 p nb deep l (HTB w1 hb) i m hM.hr
  have cH := fun (w1 : World) (hb : Below w.heap.size w w1) => height_any w1 p nb deep l (HTB w1 hb) m (by have := hM.hm; omega) j hM.hh
  have hhl := heightF_le l m j
  have cF := fun (w1 : World) (hb : Below w.heap.size w w1) => fits_any w1 p nb deep l (HTB w1 hb) (hnB w1 hb) i (heightF l m j) m (by have := hM.hm; omega) (by have := hM.hm; omega) hM.hd
  rw [decide_eq_true hf] at cF
  have cJ := fun (w1 : World) (hb : Below w.heap.size w w1) => join_but B w1 p nb deep l (hF.below hb) i at_ j x y hM.hi hM.hj hM.hij hM.hat hM.hlen
  have hBw : B ≤ w.heap.size := by
    have h8 := hF.bn
    omega
  obtain ⟨r, hr⟩ : ∃ r, rootF l m i = r := ⟨_, rfl⟩
  rw [hr] at cR
  have hrj : (r == (j : Int)) = false := by rw [← hr]; simpa using hM.hrt
  obtain ⟨z, hz⟩ : ∃ z, heightF l m j = z := ⟨_, rfl⟩
  rw [hz] at cH cF
  obtain ⟨b, hb0⟩ : ∃ b, x.ab = b := ⟨_, rfl⟩
  rw [hb0] at cE cT
  have HB1 := Lib.hid hb1
  clear h hF hnb hM hf hnx hny e1 e2 e3 e4 hhl hr hz hb0 hb1 HTB hnB
  go_enter Tryd.func55, Tryd.ntmps55
  go_wp2_with (first
    | (go_at_call 73; ((with_reducible refine (cA).mono ?_); rintro e w1 ⟨rfl, rfl⟩))
    | (go_at_call 64; ((with_reducible refine (cE _ HB1.out).mono ?_); rintro e w2 ⟨rfl, hb2⟩; have hb := HB1.out.trans (hb2.mono (by simp)); clear hb2))
    | (go_at_call 74; ((with_reducible refine (cL _ hb).mono ?_); rintro e w3 ⟨rfl, rfl⟩))
    | (go_at_call 66; ((with_reducible refine (cT _ hb).mono ?_); rintro e w4 ⟨rfl, rfl⟩))
    | (go_at_call 44; ((with_reducible refine (cR _ hb).mono ?_); rintro e w5 ⟨rfl, rfl⟩))
    | (go_at_call 75; ((with_reducible refine (cH _ hb).mono ?_); rintro e w6 ⟨rfl, rfl⟩))
    | (go_at_call 67; ((with_reducible refine (cF _ hb).mono ?_); rintro e w7 ⟨rfl, hb7⟩; replace hb := hb.trans (hb7.mono hb.size); clear hb7))
    | (go_at_call 69; ((with_reducible refine (cJ _ hb).mono ?_); rintro e w8 ⟨rfl, hb8, ka, kc, hT⟩)))
  go_ret
  exact ⟨rfl, (hb.mono hBw).trans hb8, ka, kc, hT.1, hT.2.1.imp id (fun h b e => Nat.le_trans hb.size (h b e)), fun q hq h1 h2 h3 => (hT.2.2 q (Nat.lt_of_lt_of_le hq hb.size) h1 h2 h3).trans (hb.block q hq)⟩

theorem TB.joined {l : List (Option Nd)} {i j a n : Nat} {x y : Nd} {ka : Option Addr} {kc : Nat} (hi : l[i]? = some (some x)) (hj : l[j]? = some (some y)) (hk : (Value.slice ka (insZ x.kids a j).length kc).ownBlock = x.ks.ownBlock ∨ ∀ b, (Value.slice ka (insZ x.kids a j).length kc).ownBlock = some b → n ≤ b) : ∀ q, q < n → TB (joinedZ l i x a j y ka kc) q → TB l q := fun q hq ⟨k, z, hkz, hz⟩ => by
  unfold joinedZ at hkz
  rcases set_get hkz with ⟨_, e⟩ | ⟨_, hkz⟩
  · obtain rfl := Option.some.inj e
    exact ⟨j, y, hj, hz⟩
  · rcases set_get hkz with ⟨_, e⟩ | ⟨_, hkz⟩
    · obtain rfl := Option.some.inj e
      refine ⟨i, x, hi, ?_⟩
      rcases hz with h | h
      · exact .inl h
      · right
        have h2 : (Value.slice ka (insZ x.kids a j).length kc).ownBlock = some q := h
        rcases hk with e2 | e2
        · rw [← e2]; exact h2
        · have := e2 q h2; omega
    · exact ⟨k, z, hkz, hz⟩

set_option maxRecDepth 20000 in
set_option maxHeartbeats 8000000 in
theorem insert_off (B : Nat) (w : World) (p nb : Nat) (deep : Int) (l : List (Option Nd)) (h : Full B w p nb deep l) (hI : Inv deep l) (hd : deep ≤ 40) (pa at_ kid : Int) :
    Calls Tryd.prog 55 #[.pointer (some ⟨p, 0, none⟩), .int .i64 pa, .int .i64 at_, .int .i64 kid] w (Off B w p nb deep l False) := by
  have KP := Lib.hid (fun (e : Ending) (w' : World) (he : ∃ v, e = .returned v) (hb : Below w.heap.size w w') => off_of (w' := w') (C := False) h hI he hb)
  have hnb := h.ln
  have hb1 := (Below.refl _ w).alloc (Nat.le_refl _) (.cells #[.int .i64 pa, .int .i64 kid] 3)
  have cA := ask_any _ p nb deep l (h.t.below hnb hb1) w.heap.size [pa, kid] (by simp) (fun k hk => by
    have hk2 : k = 0 ∨ k = 1 := by simp at hk; omega
    rcases hk2 with rfl | rfl <;> simp [go_sem])
  have e2 : [pa, kid].length = 2 := rfl
  rw [e2] at cA
  have HTB := fun (w1 : World) (hb : Below w.heap.size w w1) => h.t.below hnb hb
  have hnB := fun (w1 : World) (hb : Below w.heap.size w w1) => Nat.lt_of_lt_of_le hnb hb.size
  have cE := fun (w1 : World) (hb : Below w.heap.size w w1) => element_any w1 p nb deep l (HTB w1 hb) pa (hnB w1 hb)
  have HB1 := Lib.hid hb1
  by_cases hh : hasT l pa = true ∧ hasT l kid = true
  · have e1 : askT l [pa, kid] = 0 := by unfold askT; rw [if_pos]; simp [hh.1, hh.2]
    rw [e1] at cA
    obtain ⟨x, hx⟩ : ∃ x, ndAt l pa = some x := Option.isSome_iff_exists.1 hh.1
    obtain ⟨y, hy⟩ : ∃ y, ndAt l kid = some y := Option.isSome_iff_exists.1 hh.2
    obtain ⟨i, rfl, hi⟩ := nd_id hx
    obtain ⟨j, rfl, hj⟩ := nd_id hy
    by_cases ht : x.tag = 0
    · have e3 : elemT l (i : Int) = (none, 6) := by unfold elemT; rw [hx]; exact if_pos ht
      rw [e3] at cE
      unfold ndV at cE
      dsimp only at cE
      clear h hI hnb hb1 HTB hnB hh hx hy hi hj ht e1 e2 e3
      go_enter Tryd.func55, Tryd.ntmps55
      go_wp2_with (first
        | (go_at_call 73; ((with_reducible refine (cA).mono ?_); rintro e w1 ⟨rfl, rfl⟩))
        | (go_at_call 64; ((with_reducible refine (cE _ HB1.out).mono ?_); rintro e w2 ⟨rfl, hb2⟩; have hb := HB1.out.trans (hb2.mono (by simp)); clear hb2)))
      go_ret
      exact KP.out _ _ ⟨_, rfl⟩ hb
    · have e3 : elemT l (i : Int) = (some x, 0) := by unfold elemT; rw [hx]; exact if_neg ht
      rw [e3] at cE
      unfold ndV at cE
      dsimp only at cE
      have cL := fun (w1 : World) (hb : Below w.heap.size w w1) => loose_any w1 p nb deep l (HTB w1 hb) j
      have cT := fun (w1 : World) (hb : Below w.heap.size w w1) => takes_any w1 x at_ ((HTB w1 hb).yes i x hi).2
      cases hl : looseT l (j : Int) with
      | false =>
        rw [hl] at cL
        clear h hI hnb hb1 HTB hnB hh hx hy hi hj ht e1 e2 e3 hl
        go_enter Tryd.func55, Tryd.ntmps55
        go_wp2_with (first
          | (go_at_call 73; ((with_reducible refine (cA).mono ?_); rintro e w1 ⟨rfl, rfl⟩))
          | (go_at_call 64; ((with_reducible refine (cE _ HB1.out).mono ?_); rintro e w2 ⟨rfl, hb2⟩; have hb := HB1.out.trans (hb2.mono (by simp)); clear hb2))
          | (go_at_call 74; ((with_reducible refine (cL _ hb).mono ?_); rintro e w3 ⟨rfl, rfl⟩)))
        go_ret
        exact KP.out _ _ ⟨_, rfl⟩ hb
      | true =>
        rw [hl] at cL
        cases hk : takesT x at_ with
        | false =>
          rw [hk] at cT
          obtain ⟨b, hb0⟩ : ∃ b, x.ab = b := ⟨_, rfl⟩
          rw [hb0] at cE cT
          clear h hI hnb hb1 HTB hnB hh hx hy hi hj ht e1 e2 e3 hl hk hb0
          go_enter Tryd.func55, Tryd.ntmps55
          go_wp2_with (first
            | (go_at_call 73; ((with_reducible refine (cA).mono ?_); rintro e w1 ⟨rfl, rfl⟩))
            | (go_at_call 64; ((with_reducible refine (cE _ HB1.out).mono ?_); rintro e w2 ⟨rfl, hb2⟩; have hb := HB1.out.trans (hb2.mono (by simp)); clear hb2))
            | (go_at_call 74; ((with_reducible refine (cL _ hb).mono ?_); rintro e w3 ⟨rfl, rfl⟩))
            | (go_at_call 66; ((with_reducible refine (cT _ hb).mono ?_); rintro e w4 ⟨rfl, rfl⟩)))
          go_ret
          exact KP.out _ _ ⟨_, rfl⟩ hb
        | true =>
          rw [hk] at cT
          have cR := fun (w1 : World) (hb : Below w.heap.size w w1) => root_any w1 p nb deep l (HTB w1 hb) i 41 (hI.endsRa hd _)
          by_cases hr : rootF l 41 (i : Int) = (j : Int)
          · rw [hr] at cR
            have hrb : ((j : Int) == (j : Int)) = true := by simp
            obtain ⟨b, hb0⟩ : ∃ b, x.ab = b := ⟨_, rfl⟩
            rw [hb0] at cE cT
            clear h hI hnb hb1 HTB hnB hh hx hy hi hj ht e1 e2 e3 hl hk hr hb0
            go_enter Tryd.func55, Tryd.ntmps55
            go_wp2_with (first
              | (go_at_call 73; ((with_reducible refine (cA).mono ?_); rintro e w1 ⟨rfl, rfl⟩))
              | (go_at_call 64; ((with_reducible refine (cE _ HB1.out).mono ?_); rintro e w2 ⟨rfl, hb2⟩; have hb := HB1.out.trans (hb2.mono (by simp)); clear hb2))
              | (go_at_call 74; ((with_reducible refine (cL _ hb).mono ?_); rintro e w3 ⟨rfl, rfl⟩))
              | (go_at_call 66; ((with_reducible refine (cT _ hb).mono ?_); rintro e w4 ⟨rfl, rfl⟩))
              | (go_at_call 44; ((with_reducible refine (cR _ hb).mono ?_); rintro e w5 ⟨rfl, rfl⟩)))
            go_ret
            exact KP.out _ _ ⟨_, rfl⟩ hb
          · have cH := fun (w1 : World) (hb : Below w.heap.size w w1) => height_any w1 p nb deep l (HTB w1 hb) 41 (by omega) j (hI.endsHa hd _)
            have hhl := heightF_le l 41 (j : Int)
            have cF := fun (w1 : World) (hb : Below w.heap.size w w1) => fits_any w1 p nb deep l (HTB w1 hb) (hnB w1 hb) i (heightF l 41 (j : Int)) 41 (by omega) (by omega) (hI.endsDa hd _)
            have hl2 := hl
            unfold looseT at hl2
            simp only [Bool.and_eq_true, decide_eq_true_eq] at hl2
            rw [(nd_some hj).2] at hl2
            have hk2 := hk
            unfold takesT at hk2
            simp only [Bool.and_eq_true, decide_eq_true_eq] at hk2
            by_cases hf : depthF l 41 (i : Int) + 1 + heightF l 41 (j : Int) ≤ deep
            · obtain ⟨a, rfl⟩ : ∃ a : Nat, at_ = (a : Int) := ⟨at_.toNat, by omega⟩
              have hlen := hI.kidsLt hi hj hl2.2
              have hle := h.t.le
              refine (ins_but B w p nb deep l h i a j 41 x y ⟨hi, hj, fun e => hr (by subst e; exact Inv.rootN hj hl2.2), ht, by omega, by omega, hl, hI.endsRa hd _, hr, hI.endsHa hd _, hI.endsDa hd _, by omega⟩ hf).mono ?_
              rintro e w' ⟨rfl, h1, ka, kc, h2, h3, h4⟩
              exact ⟨⟨_, rfl⟩, h1, _, h2, hI.join hd hi hj ht hl2.2 (by omega) hr hf ka kc, by unfold joinedZ; rw [List.length_set, List.length_set], fun hC => hC.elim, TB.joined hi hj h3, fun q hq _ hne => h4 q hq (fun e => hne ⟨i, x, hi, .inr e⟩) (fun e => hne ⟨i, x, hi, .inl e.symm⟩) (fun e => hne ⟨j, y, hj, .inl e.symm⟩)⟩
            · rw [decide_eq_false hf] at cF
              obtain ⟨r, hr2⟩ : ∃ r, rootF l 41 (i : Int) = r := ⟨_, rfl⟩
              rw [hr2] at cR hr
              have hrj : (r == (j : Int)) = false := by simpa using hr
              obtain ⟨z, hz⟩ : ∃ z, heightF l 41 (j : Int) = z := ⟨_, rfl⟩
              rw [hz] at cH cF
              obtain ⟨b, hb0⟩ : ∃ b, x.ab = b := ⟨_, rfl⟩
              rw [hb0] at cE cT
              clear h hI hnb hb1 HTB hnB hh hx hy hi hj ht e1 e2 e3 hl hk hl2 hk2 hhl hf hr2 hz hb0
              go_enter Tryd.func55, Tryd.ntmps55
              go_wp2_with (first
                | (go_at_call 73; ((with_reducible refine (cA).mono ?_); rintro e w1 ⟨rfl, rfl⟩))
                | (go_at_call 64; ((with_reducible refine (cE _ HB1.out).mono ?_); rintro e w2 ⟨rfl, hb2⟩; have hb := HB1.out.trans (hb2.mono (by simp)); clear hb2))
                | (go_at_call 74; ((with_reducible refine (cL _ hb).mono ?_); rintro e w3 ⟨rfl, rfl⟩))
                | (go_at_call 66; ((with_reducible refine (cT _ hb).mono ?_); rintro e w4 ⟨rfl, rfl⟩))
                | (go_at_call 44; ((with_reducible refine (cR _ hb).mono ?_); rintro e w5 ⟨rfl, rfl⟩))
                | (go_at_call 75; ((with_reducible refine (cH _ hb).mono ?_); rintro e w6 ⟨rfl, rfl⟩))
                | (go_at_call 67; ((with_reducible refine (cF _ hb).mono ?_); rintro e w7 ⟨rfl, hb7⟩; replace hb := hb.trans (hb7.mono hb.size); clear hb7)))
              go_ret
              exact KP.out _ _ ⟨_, rfl⟩ hb
  · have e1 : askT l [pa, kid] = 2 := by
      unfold askT
      rw [if_neg]
      simp only [List.all_cons, List.all_nil, Bool.and_true, Bool.and_eq_true]
      exact hh
    rw [e1] at cA
    clear h hI hnb hb1 HTB hnB hh e1 e2
    go_enter Tryd.func55, Tryd.ntmps55
    go_wp2_with (first
      | (go_at_call 73; ((with_reducible refine (cA).mono ?_); rintro e w1 ⟨rfl, rfl⟩)))
    go_ret
    exact KP.out _ _ ⟨_, rfl⟩ HB1.out

theorem TB.drop {l l' : List (Option Nd)} {j : Nat} (h1 : ∀ k, Sub l j k → l'[k]? = some none) (h2 : ∀ k, ¬ Sub l j k → l'[k]? = l[k]?) : ∀ q, TB l' q → TB l q := fun q ⟨k, z, hk, hz⟩ => by
  by_cases e : Sub l j k
  · rw [h1 k e] at hk; cases hk
  · rw [h2 k e] at hk; exact ⟨k, z, hk, hz⟩

set_option maxRecDepth 20000 in
set_option maxHeartbeats 8000000 in
theorem drop_off (B : Nat) (w : World) (p nb : Nat) (deep : Int) (l : List (Option Nd)) (h : Full B w p nb deep l) (hI : Inv deep l) (hd : deep ≤ 40) (id : Int) :
    Calls Tryd.prog 57 #[.pointer (some ⟨p, 0, none⟩), .int .i64 id] w (Off B w p nb deep l False) := by
  have KP := Lib.hid (fun (e : Ending) (w' : World) (he : ∃ v, e = .returned v) (hb : Below w.heap.size w w') => off_of (w' := w') (C := False) h hI he hb)
  have hb1 := (Below.refl _ w).alloc (Nat.le_refl _) (.cells #[.int .i64 id] 3)
  have cA := ask_one w p nb deep id l h.t h.ln
  have F1 := h.below hb1
  have cL := loose_any _ p nb deep l F1.t id
  have HB := Lib.hid hb1
  cases hx : ndAt l id with
  | none =>
    rw [(nd_none hx).1, if_neg (by decide)] at cA
    clear h hI hx hb1 F1
    go_enter Tryd.func57, Tryd.ntmps57
    go_wp2_with (go_at_call 73; ((with_reducible refine (cA).mono ?_); rintro e w1 ⟨rfl, rfl⟩))
    go_ret
    exact KP.out _ _ ⟨_, rfl⟩ HB.out
  | some y =>
    obtain ⟨j, rfl, hj⟩ := nd_id hx
    rw [(nd_some hj).1, if_pos rfl] at cA
    cases hl : looseT l (j : Int) with
    | false =>
      rw [hl] at cL
      clear h hI hx hj hb1 F1 hl
      go_enter Tryd.func57, Tryd.ntmps57
      go_wp2_with (first
        | (go_at_call 73; ((with_reducible refine (cA).mono ?_); rintro e w1 ⟨rfl, rfl⟩))
        | (go_at_call 74; ((with_reducible refine (cL).mono ?_); rintro e w1 ⟨rfl, rfl⟩)))
      go_ret
      exact KP.out _ _ ⟨_, rfl⟩ HB.out
    | true =>
      rw [hl] at cL
      have hl2 := hl
      unfold looseT at hl2
      simp only [Bool.and_eq_true, decide_eq_true_eq] at hl2
      rw [(nd_some hj).2] at hl2
      obtain ⟨r, hr⟩ := hI.dep
      have cF := forget_any B p nb deep l hI r hr 41 j y hj (by omega) _ l F1 (fun k _ => rfl)
      have HD := Lib.hid (fun (l' : List (Option Nd)) => hI.drop hj hl2.2 (by omega) (l' := l'))
      have hBw : B ≤ w.heap.size := by have := h.bn; have := h.ln; omega
      clear h hI hx hj hb1 F1 hl hl2 hr KP
      go_enter Tryd.func57, Tryd.ntmps57
      go_wp2_with (first
        | (go_at_call 73; ((with_reducible refine (cA).mono ?_); rintro e w1 ⟨rfl, rfl⟩))
        | (go_at_call 74; ((with_reducible refine (cL).mono ?_); rintro e w1 ⟨rfl, rfl⟩))
        | (go_at_call 77; ((with_reducible refine (cF).mono ?_); rintro e w2 ⟨rfl, hbt, h2, l', h3, h4, h5, h6⟩)))
      go_ret
      exact ⟨⟨_, rfl⟩, (HB.out.mono hBw).trans h2, l', h3, HD.out l' h5 h6, h4, fun hC => hC.elim, fun q _ => TB.drop h5 h6 q, fun q hq hn _ => (hbt.block q (by simp; omega) hn).trans (HB.out.block q hq)⟩

end Go.Proofs.YtggjoefhopoggaaDoor
