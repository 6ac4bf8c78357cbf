/-
  SetTag, SetText.
  What holds of each tree is kept: New, add, what leaves the nodes' places alone, join, Remove.
-/
import Derived.Test.YtdegkcibadjogaaDoorCRem
import Derived.Test.YtdegkcibadjogaaDoorCGrow

namespace Go.Proofs.YtdegkcibadjogaaDoor
open Go.RowKit Go.Lib

theorem NodeAt.setTag {w : World} {y : Nd} (h : NodeAt w y) (h2 : ∀ b o, y.ka = some ⟨b, o, none⟩ → y.kids ≠ [] → b ≠ y.ab) (t : Int) : NodeAt (w.setCell ⟨y.ab, 0, none⟩ (.int .i64 t)) { y with tag := t } := by
  have hc : ∀ j, j ≠ 0 → (w.setCell ⟨y.ab, 0, none⟩ (.int .i64 t)).cell? ⟨y.ab, j, none⟩ = w.cell? ⟨y.ab, j, none⟩ := fun j hj => World.cell?_setCell_other _ _ _ _ (fun e => hj (congrArg Addr.off e).symm)
  refine ⟨World.cell?_setCell_same _ _ _ h.c0, (hc 1 (by decide)).trans h.c1, (hc 2 (by decide)).trans h.c2, (hc 3 (by decide)).trans h.c3, (hc 4 (by decide)).trans h.c4, (hc 5 (by decide)).trans h.c5, fun j => by rw [World.frozen?_setCell]; exact h.f j, ?_, h.kl⟩
  rcases h.ks with hk | ⟨b, o, e, hk⟩
  · exact .inl hk
  · by_cases h0 : y.kids = []
    · exact .inl h0
    · exact .inr ⟨b, o, e, fun j hj => (World.cell?_setCell_far w ⟨y.ab, 0, none⟩ _ _ (fun e2 => h2 b o e h0 e2.symm)).trans (hk j hj)⟩
theorem Full.setTag {B : Nat} {w : World} {p nb : Nat} {deep : Int} {l : List (Option Nd)} (h : Full B w p nb deep l) {j : Nat} {y : Nd} (hj : l[j]? = some (some y)) (t : Int) : Full B (w.setCell ⟨y.ab, 0, none⟩ (.int .i64 t)) p nb deep (l.set j (some { y with tag := t })) := by
  have hyy : ∀ b, y.ks.ownBlock = some b → b ≠ y.ab := fun b e => ((h.kb j y b hj e).2.2 j y hj).1
  exact Full.turn h hj { y with tag := t } rfl ⟨by simp [World.setCell], fun b _ hn _ => Below.heap_setCell _ ⟨y.ab, 0, none⟩ _ b hn⟩ ((h.t.yes j y hj).2.setTag (fun b o e1 _ => hyy b (ks_block e1)) t) ((h.own j y hj).kept (grown_set _ y.ab 0 _) (.inr (fun e => hyy _ e rfl))) (.inl rfl)

set_option maxRecDepth 20000 in
set_option maxHeartbeats 4000000 in
theorem settag_any (B : Nat) (w : World) (p nb : Nat) (deep : Int) (l : List (Option Nd)) (h : Full B w p nb deep l) (j : Nat) (y : Nd) (t : Int) (hj : l[j]? = some (some y)) (hj0 : j ≠ 0) (hy : y.tag ≠ 0) (hT : OwnT w) (ht : (nameOf t).toList.isEmpty = false) :
    Calls Tryd.prog 35 #[.pointer (some ⟨p, 0, none⟩), .int .i64 j, .int .i64 t] w fun e w' => e = .returned (.int .i64 0) ∧ Below B w w' ∧ Full B w' p nb deep (l.set j (some { y with tag := t })) := by
  have cE := element_any w p nb deep l h.t (j : Int) h.ln
  have e1 : elemT l (j : Int) = (some y, 0) := by unfold elemT; rw [ndAt_of hj]; exact if_neg hy
  rw [e1] at cE
  unfold ndV at cE
  dsimp only at cE
  have cI := fun (w1 : World) (hb : Below w.heap.size w w1) => isel_any t w1 (hT.below hb)
  rw [ht] at cI
  have KR : Hid (∀ w1, Below w.heap.size w w1 → (w1.cell? ⟨y.ab, 0, none⟩ = some (.int .i64 y.tag) ∧ w1.frozen? ⟨y.ab, 0, none⟩ = false) ∧ Below B w (w1.setCell ⟨y.ab, 0, none⟩ (.int .i64 t)) ∧ Full B (w1.setCell ⟨y.ab, 0, none⟩ (.int .i64 t)) p nb deep (l.set j (some { y with tag := t }))) := Lib.hid (fun w1 hb => by
    have F := h.below hb
    have := h.bn
    have := h.ln
    exact ⟨⟨(F.t.yes j y hj).2.c0, (F.t.yes j y hj).2.f 0⟩, (hb.mono (by omega)).setCell (p := ⟨y.ab, 0, none⟩) (h.ab j y hj).1 _, F.setTag hj t⟩)
  have hjb : ((j : Int) == 0) = false := by simpa using hj0
  obtain ⟨b, hb0⟩ : ∃ b, y.ab = b := ⟨_, rfl⟩
  rw [hb0] at cE KR ⊢
  clear h hj hj0 hy hT ht e1 hb0
  go_enter Tryd.func35, Tryd.ntmps35
  go_wp2_with (first
    | (go_at_call 45; ((with_reducible refine (cE).mono ?_); rintro e w1 ⟨rfl, hb⟩; obtain ⟨⟨d0, g0⟩, hR⟩ := KR.out w1 hb; have HR := Lib.hid hR; clear hR))
    | (go_at_call 82; ((with_reducible refine (cI _ hb).mono ?_); rintro e w2 ⟨rfl, rfl⟩)))
  go_ret
  exact ⟨rfl, HR.out⟩

theorem NodeAt.setText {w : World} {y : Nd} (h : NodeAt w y) (h2 : ∀ b o, y.ka = some ⟨b, o, none⟩ → y.kids ≠ [] → b ≠ y.ab) (t : ByteArray) : NodeAt (w.setCell ⟨y.ab, 2, none⟩ (.string t)) { y with tx := t } := by
  have hc : ∀ j, j ≠ 2 → (w.setCell ⟨y.ab, 2, none⟩ (.string t)).cell? ⟨y.ab, j, none⟩ = w.cell? ⟨y.ab, j, none⟩ := fun j hj => World.cell?_setCell_other _ _ _ _ (fun e => hj (congrArg Addr.off e).symm)
  refine ⟨(hc 0 (by decide)).trans h.c0, (hc 1 (by decide)).trans h.c1, World.cell?_setCell_same _ _ _ h.c2, (hc 3 (by decide)).trans h.c3, (hc 4 (by decide)).trans h.c4, (hc 5 (by decide)).trans h.c5, fun j => by rw [World.frozen?_setCell]; exact h.f j, ?_, h.kl⟩
  rcases h.ks with hk | ⟨b, o, e, hk⟩
  · exact .inl hk
  · by_cases h0 : y.kids = []
    · exact .inl h0
    · exact .inr ⟨b, o, e, fun j hj => (World.cell?_setCell_far w ⟨y.ab, 2, none⟩ _ _ (fun e2 => h2 b o e h0 e2.symm)).trans (hk j hj)⟩
theorem Full.setText {B : Nat} {w : World} {p nb : Nat} {deep : Int} {l : List (Option Nd)} (h : Full B w p nb deep l) {j : Nat} {y : Nd} (hj : l[j]? = some (some y)) (t : ByteArray) : Full B (w.setCell ⟨y.ab, 2, none⟩ (.string t)) p nb deep (l.set j (some { y with tx := t })) := by
  have hyy : ∀ b, y.ks.ownBlock = some b → b ≠ y.ab := fun b e => ((h.kb j y b hj e).2.2 j y hj).1
  exact Full.turn h hj { y with tx := t } rfl ⟨by simp [World.setCell], fun b _ hn _ => Below.heap_setCell _ ⟨y.ab, 2, none⟩ _ b hn⟩ ((h.t.yes j y hj).2.setText (fun b o e1 _ => hyy b (ks_block e1)) t) ((h.own j y hj).kept (grown_set _ y.ab 2 _) (.inr (fun e => hyy _ e rfl))) (.inl rfl)

set_option maxRecDepth 20000 in
set_option maxHeartbeats 4000000 in
theorem settext_any (B : Nat) (w : World) (p nb : Nat) (deep : Int) (l : List (Option Nd)) (h : Full B w p nb deep l) (j : Nat) (y : Nd) (s : ByteArray) (hj : l[j]? = some (some y)) (hy : y.tag = 0) (hs : s.size ≤ 8192) (hs2 : (anewS s).size ≤ 8192) :
    Calls Tryd.prog 32 #[.pointer (some ⟨p, 0, none⟩), .int .i64 j, .string s] w fun e w' => e = .returned (.int .i64 0) ∧ Below B w w' ∧ Full B w' p nb deep (l.set j (some { y with tx := anewS s })) ∧ But y.ab w w' := by
  have hb1 := (Below.refl _ w).alloc (Nat.le_refl _) (.cells #[.int .i64 (j : Int)] 3)
  have F1 := h.below hb1
  have cA := ask_any _ p nb deep l F1.t w.heap.size [(j : Int)] (by simp) (fun k hk => by
    obtain rfl : k = 0 := by simpa using hk
    simp [go_sem])
  have e1 : askT l [(j : Int)] = 0 := by
    unfold askT
    rw [if_pos]
    simp [hasT, ndAt_of hj]
  have e2 : [(j : Int)].length = 1 := rfl
  rw [e1, e2] at cA
  have cN := anew_any s (w.alloc (.cells #[.int .i64 (j : Int)] 3))
  rw [if_pos hs, decide_eq_true hs2] at cN
  obtain ⟨S, hS⟩ : ∃ S, anewS s = S := ⟨_, rfl⟩
  rw [hS] at cN ⊢
  have KR : Hid (∀ w1, Below w.heap.size w w1 → (w1.cell? ⟨y.ab, 2, none⟩ = some (.string y.tx) ∧ w1.frozen? ⟨y.ab, 2, none⟩ = false) ∧ Below B w (w1.setCell ⟨y.ab, 2, none⟩ (.string S)) ∧ Full B (w1.setCell ⟨y.ab, 2, none⟩ (.string S)) p nb deep (l.set j (some { y with tx := S })) ∧ But y.ab w (w1.setCell ⟨y.ab, 2, none⟩ (.string S))) := Lib.hid (fun w1 hb => by
    have F := h.below hb
    have := h.bn
    have := h.ln
    exact ⟨⟨(F.t.yes j y hj).2.c2, (F.t.yes j y hj).2.f 2⟩, (hb.mono (by omega)).setCell (p := ⟨y.ab, 2, none⟩) (h.ab j y hj).1 _, F.setText hj S, But.setCell ⟨hb.size, fun b hb2 _ => hb.block b hb2⟩ 2 _⟩)
  have hjl : j < l.length := (List.getElem?_eq_some_iff.1 hj).1
  have c1 := F1.t.c1
  obtain ⟨yc, yn⟩ := F1.t.yes j y hj
  have y0 := yn.c0
  rw [hy] at y0
  have hle := h.t.le
  obtain ⟨n, hn⟩ : ∃ n, l.length = n := ⟨_, rfl⟩
  rw [hn] at hjl c1 hle
  have hjI : (j : Int) < (n : Int) := by omega
  obtain ⟨b, hb0⟩ : ∃ b, y.ab = b := ⟨_, rfl⟩
  rw [hb0] at yc y0 KR ⊢
  have HB1 := Lib.hid hb1
  clear h F1 hj hy hs hs2 e1 e2 hS yn hn hb0 hb1
  go_enter Tryd.func32, Tryd.ntmps32
  go_wp2_with (first
    | (go_at_call 44; ((with_reducible refine (cA).mono ?_); rintro e w1 ⟨rfl, rfl⟩))
    | (go_at_call 42; ((with_reducible refine (cN).mono ?_); rintro e w2 ⟨rfl, hb2⟩; obtain ⟨⟨d0, g0⟩, hR⟩ := KR.out w2 (HB1.out.trans (hb2.mono (by simp))); have HR := Lib.hid hR; clear hR hb2)))
  go_ret
  exact ⟨rfl, HR.out⟩

end Go.Proofs.YtdegkcibadjogaaDoor

namespace Go.Proofs.YtdegkcibadjogaaDoor
open Go.RowKit Go.Lib

section
variable {l : List (Option Nd)}
theorem set_get {i j : Nat} {v : Option Nd} {y : Nd} (h : (l.set i v)[j]? = some (some y)) : (j = i ∧ v = some y) ∨ (j ≠ i ∧ l[j]? = some (some y)) := by
  rw [List.getElem?_set] at h
  split at h
  · rename_i e
    split at h
    · exact .inl ⟨e.symm, Option.some.inj h⟩
    · cases h
  · rename_i e
    exact .inr ⟨fun e2 => e e2.symm, h⟩
theorem set_at {i : Nat} {v w : Option Nd} (h : l[i]? = some w) : (l.set i v)[i]? = some v := by
  rw [List.getElem?_set, if_pos rfl, if_pos (List.getElem?_eq_some_iff.1 h).1]
theorem set_ne {i j : Nat} {v : Option Nd} (h : j ≠ i) : (l.set i v)[j]? = l[j]? := by
  rw [List.getElem?_set, if_neg (fun e => h e.symm)]
end

theorem inv_new (deep : Int) (hd : 0 ≤ deep) (c b : Nat) (hc : 1 ≤ c) : Inv deep ((List.replicate c none).set 0 (some (nd0 b))) := by
  have hl : ∀ (j : Nat) (y : Nd), ((List.replicate c (none : Option Nd)).set 0 (some (nd0 b)))[j]? = some (some y) → j = 0 ∧ y = nd0 b := fun j y hj => by
    rcases set_get hj with ⟨e, e2⟩ | ⟨_, h⟩
    · exact ⟨e, (Option.some.inj e2).symm⟩
    · rw [List.getElem?_replicate] at h
      split at h <;> simp at h
  refine ⟨⟨nd0 b, set_at (w := none) (by rw [List.getElem?_replicate, if_pos (by omega)]), rfl, rfl⟩, fun i x k hi hk => ?_, fun i x hi => ?_, fun j y hj => ?_, ⟨fun _ => 0, fun j y hj => hd, fun j y i hj hu => ?_, fun _ _ _ _ => rfl⟩, fun i x hi _ => ?_, fun i x hi => ?_⟩
  · obtain ⟨_, rfl⟩ := hl i x hi; cases hk
  · obtain ⟨_, rfl⟩ := hl i x hi; exact List.nodup_nil
  · obtain ⟨_, rfl⟩ := hl j y hj; exact .inl rfl
  · obtain ⟨_, rfl⟩ := hl j y hj
    have e : (-1 : Int) = (i : Int) := hu
    omega
  · obtain ⟨_, rfl⟩ := hl i x hi; rfl
  · obtain ⟨_, rfl⟩ := hl i x hi; exact Nat.zero_le _

section
variable {deep : Int} {l : List (Option Nd)}
/-- A loose node has come. -/
theorem Inv.add (h : Inv deep l) (hd : 0 ≤ deep) {k : Nat} {z : Nd} (hk : l[k]? = some none) (h1 : z.up = -1) (h2 : z.kids = []) (h3 : z.ats.length ≤ 10000) : Inv deep (l.set k (some z)) := by
  obtain ⟨x0, hx0, a1, a2⟩ := h.host
  have hk0 : (0 : Nat) ≠ k := fun e => by rw [← e, hx0] at hk; cases hk
  have old : ∀ (j : Nat) (y : Nd), l[j]? = some (some y) → (l.set k (some z))[j]? = some (some y) := fun j y hj => by
    rw [set_ne (fun e => by rw [e, hk] at hj; cases hj)]; exact hj
  obtain ⟨r, hr⟩ := h.dep
  refine ⟨⟨x0, old 0 x0 hx0, a1, a2⟩, fun i x m hi hm => ?_, fun i x hi => ?_, fun j y hj => ?_, ⟨fun j => if j = k then 0 else r j, fun j y hj => ?_, fun j y i hj hu => ?_, fun j y hj hu => ?_⟩, fun i x hi ht => ?_, fun i x hi => ?_⟩
  · rcases set_get hi with ⟨_, e⟩ | ⟨_, hi⟩
    · obtain rfl := Option.some.inj e
      rw [h2] at hm; cases hm
    · obtain ⟨j, y, b1, b2, b3⟩ := h.kid i x m hi hm
      exact ⟨j, y, b1, old j y b2, b3⟩
  · rcases set_get hi with ⟨_, e⟩ | ⟨_, hi⟩
    · obtain rfl := Option.some.inj e
      rw [h2]; exact List.nodup_nil
    · exact h.nod i x hi
  · rcases set_get hj with ⟨_, e⟩ | ⟨_, hj⟩
    · obtain rfl := Option.some.inj e
      exact .inl h1
    · rcases h.par j y hj with b | ⟨i, x, b1, b2, b3⟩
      · exact .inl b
      · exact .inr ⟨i, x, b1, old i x b2, b3⟩
  · (try dsimp only)
    split
    · exact hd
    · rcases set_get hj with ⟨e, _⟩ | ⟨_, hj⟩
      · contradiction
      · exact hr.le j y hj
  · (try dsimp only)
    rcases set_get hj with ⟨_, e⟩ | ⟨hjk, hj⟩
    · obtain rfl := Option.some.inj e
      omega
    · rw [if_neg hjk]
      have hik : i ≠ k := fun e => by
        rcases h.par j y hj with b | ⟨i2, x, b1, b2, _⟩
        · omega
        · have : i2 = k := by omega
          rw [this, hk] at b2; cases b2
      rw [if_neg hik]
      exact hr.up j y i hj hu
  · (try dsimp only)
    split
    · rfl
    · rcases set_get hj with ⟨e, _⟩ | ⟨_, hj⟩
      · contradiction
      · exact hr.no j y hj hu
  · rcases set_get hi with ⟨_, e⟩ | ⟨_, hi⟩
    · obtain rfl := Option.some.inj e
      exact h2
    · exact h.txt i x hi ht
  · rcases set_get hi with ⟨_, e⟩ | ⟨_, hi⟩
    · obtain rfl := Option.some.inj e
      exact h3
    · exact h.ats i x hi
/-- A node has turned, but stands where it stood. -/
theorem Inv.same (h : Inv deep l) {k : Nat} {x z : Nd} (hk : l[k]? = some (some x)) (h1 : z.up = x.up) (h2 : z.kids = x.kids) (h3 : z.tag = 0 → x.tag = 0) (h4 : k = 0 → z.tag = 1) (h5 : z.ats.length ≤ 10000) : Inv deep (l.set k (some z)) := by
  have old : ∀ (j : Nat) (y : Nd), l[j]? = some (some y) → ∃ y', (l.set k (some z))[j]? = some (some y') ∧ y'.up = y.up ∧ y'.kids = y.kids := fun j y hj => by
    by_cases e : j = k
    · subst e
      rw [hk] at hj
      obtain rfl := Option.some.inj (Option.some.inj hj)
      exact ⟨z, set_at hk, h1, h2⟩
    · exact ⟨y, by rw [set_ne e]; exact hj, rfl, rfl⟩
  have new : ∀ (j : Nat) (y' : Nd), (l.set k (some z))[j]? = some (some y') → ∃ y, l[j]? = some (some y) ∧ y'.up = y.up ∧ y'.kids = y.kids ∧ (y'.tag = 0 → y.tag = 0) := fun j y' hj => by
    rcases set_get hj with ⟨rfl, e⟩ | ⟨_, hj⟩
    · obtain rfl := Option.some.inj e
      exact ⟨x, hk, h1, h2, h3⟩
    · exact ⟨y', hj, rfl, rfl, id⟩
  obtain ⟨r, hr⟩ := h.dep
  refine ⟨?_, fun i x' m hi hm => ?_, fun i x' hi => ?_, fun j y' hj => ?_, ⟨r, fun j y' hj => ?_, fun j y' i hj hu => ?_, fun j y' hj hu => ?_⟩, fun i x' hi ht => ?_, fun i x' hi => ?_⟩
  · obtain ⟨x0, hx0, a1, a2⟩ := h.host
    by_cases e : 0 = k
    · subst e
      rw [hk] at hx0
      obtain rfl := Option.some.inj (Option.some.inj hx0)
      exact ⟨z, set_at hk, by rw [h1, a1], h4 rfl⟩
    · exact ⟨x0, by rw [set_ne e]; exact hx0, a1, a2⟩
  · obtain ⟨x2, b1, _, b3, _⟩ := new i x' hi
    rw [b3] at hm
    obtain ⟨j, y, c1, c2, c3⟩ := h.kid i x2 m b1 hm
    obtain ⟨y', d1, d2, _⟩ := old j y c2
    exact ⟨j, y', c1, d1, by rw [d2, c3]⟩
  · obtain ⟨x2, b1, _, b3, _⟩ := new i x' hi
    rw [b3]; exact h.nod i x2 b1
  · obtain ⟨y2, b1, b2, _, _⟩ := new j y' hj
    rcases h.par j y2 b1 with c | ⟨i, x2, c1, c2, c3⟩
    · exact .inl (by rw [b2, c])
    · obtain ⟨x', d1, _, d3⟩ := old i x2 c2
      exact .inr ⟨i, x', by rw [b2, c1], d1, by rw [d3]; exact c3⟩
  · obtain ⟨y2, b1, _⟩ := new j y' hj
    exact hr.le j y2 b1
  · obtain ⟨y2, b1, b2, _⟩ := new j y' hj
    exact hr.up j y2 i b1 (by rw [← b2, hu])
  · obtain ⟨y2, b1, b2, _⟩ := new j y' hj
    exact hr.no j y2 b1 (by rw [← b2, hu])
  · obtain ⟨x2, b1, _, b3, b4⟩ := new i x' hi
    rw [b3]; exact h.txt i x2 b1 (b4 ht)
  · rcases set_get hi with ⟨_, e⟩ | ⟨_, hi⟩
    · obtain rfl := Option.some.inj e
      exact h5
    · exact h.ats i x' hi

theorem nodup_le : ∀ (n : Nat) (L : List Int), L.Nodup → (∀ k ∈ L, 0 ≤ k ∧ k < (n : Int)) → L.length ≤ n
  | 0, L, _, h => by
    cases L with
    | nil => exact Nat.le_refl _
    | cons a L => have := h a (by simp); omega
  | n + 1, L, hL, h => by
    have h1 : ∀ L : List Int, L.Nodup → L.length ≤ (L.filter (fun k => decide (k ≠ (n : Int)))).length + 1 := by
      intro L
      induction L with
      | nil => intro _; simp
      | cons a L ih =>
        intro hn
        rw [List.nodup_cons] at hn
        by_cases e : a = (n : Int)
        · have e2 : L.filter (fun k => decide (k ≠ (n : Int))) = L := List.filter_eq_self.2 (fun k hk => decide_eq_true (fun e3 => hn.1 (by rw [e, ← e3]; exact hk)))
          rw [List.filter_cons_of_neg (by simp [e]), e2]
          simp
        · rw [List.filter_cons_of_pos (by simpa using e)]
          have := ih hn.2
          simp only [List.length_cons]
          omega
    have h2 := nodup_le n (L.filter (fun k => decide (k ≠ (n : Int)))) (hL.filter _) (fun k hk => by
      rw [List.mem_filter] at hk
      have := h k hk.1
      have := of_decide_eq_true hk.2
      omega)
    have := h1 L hL
    omega
theorem Inv.kidsLt (h : Inv deep l) {i j : Nat} {x y : Nd} (hi : l[i]? = some (some x)) (hj : l[j]? = some (some y)) (hu : y.up = -1) : x.kids.length < l.length := by
  have hjl : j < l.length := (List.getElem?_eq_some_iff.1 hj).1
  have h1 := nodup_le l.length ((j : Int) :: x.kids) (by
    rw [List.nodup_cons]
    refine ⟨fun hm => ?_, h.nod i x hi⟩
    obtain ⟨j2, y2, e1, e2, e3⟩ := h.kid i x _ hi hm
    have : j = j2 := by omega
    subst this
    rw [hj] at e2
    obtain rfl := Option.some.inj (Option.some.inj e2)
    omega) (fun k hk => by
    rcases List.mem_cons.1 hk with rfl | hk
    · omega
    · obtain ⟨j2, y2, rfl, e2, _⟩ := h.kid i x k hi hk
      have := (List.getElem?_eq_some_iff.1 e2).1
      omega)
  simp only [List.length_cons] at h1
  omega

theorem mem_insZ {K : List Int} {a : Nat} {z k : Int} : k ∈ insZ K a z ↔ k = z ∨ k ∈ K := by
  unfold insZ
  rw [List.mem_append, List.mem_cons]
  constructor
  · rintro (h | h | h)
    · exact .inr (List.mem_of_mem_take h)
    · exact .inl h
    · exact .inr (List.mem_of_mem_drop h)
  · rintro (h | h)
    · exact .inr (.inl h)
    · have e := List.take_append_drop a K
      rw [← e] at h
      rcases List.mem_append.1 h with h | h
      · exact .inl h
      · exact .inr (.inr h)
theorem nodup_insZ {K : List Int} {a : Nat} {z : Int} (h : K.Nodup) (hz : z ∉ K) : (insZ K a z).Nodup := by
  unfold insZ
  have e := List.take_append_drop a K
  rw [← e, List.nodup_append] at h
  obtain ⟨h1, h2, h3⟩ := h
  rw [List.nodup_append]
  refine ⟨h1, ?_, fun x hx y hy => ?_⟩
  · rw [List.nodup_cons]
    exact ⟨fun hm => hz (List.mem_of_mem_drop hm), h2⟩
  · rcases List.mem_cons.1 hy with rfl | hy
    · rintro rfl; exact hz (List.mem_of_mem_take hx)
    · exact h3 x hx y hy
theorem mem_delZ {K : List Int} {a : Nat} {z : Int} (hn : K.Nodup) (ha : K[a]? = some z) (k : Int) : k ∈ delZ K a ↔ k ∈ K ∧ k ≠ z := by
  have hal := (List.getElem?_eq_some_iff.1 ha).1
  have hz : K[a] = z := (List.getElem?_eq_some_iff.1 ha).2
  have e : K = K.take a ++ z :: K.drop (a + 1) := by
    rw [← hz, ← List.drop_eq_getElem_cons hal, List.take_append_drop]
  have hn2 := hn
  rw [e, List.nodup_append] at hn2
  obtain ⟨_, h2, h3⟩ := hn2
  rw [List.nodup_cons] at h2
  unfold delZ
  rw [List.mem_append]
  constructor
  · rintro (h | h)
    · exact ⟨List.mem_of_mem_take h, fun e2 => h3 k h z (by simp) e2⟩
    · exact ⟨List.mem_of_mem_drop h, fun e2 => h2.1 (by rw [← e2]; exact h)⟩
  · rintro ⟨h, hne⟩
    rw [e, List.mem_append, List.mem_cons] at h
    rcases h with h | h | h
    · exact .inl h
    · exact absurd h hne
    · exact .inr h
theorem nodup_delZ {K : List Int} {a : Nat} (h : K.Nodup) : (delZ K a).Nodup := by
  unfold delZ
  have e := List.take_append_drop a K
  rw [← e, List.nodup_append] at h
  obtain ⟨h1, h2, h3⟩ := h
  rw [List.nodup_append]
  have hs : ∀ x, x ∈ K.drop (a + 1) → x ∈ K.drop a := fun x hx => by
    rw [← List.drop_drop] at hx
    exact List.mem_of_mem_drop hx
  refine ⟨h1, ?_, fun x hx y hy => h3 x hx y (hs y hy)⟩
  rw [← List.drop_drop]
  exact h2.sublist (List.drop_sublist 1 _)

theorem Inv.join (h : Inv deep l) (hd : deep ≤ 40) {i j a : Nat} {x y : Nd} (hi : l[i]? = some (some x)) (hj : l[j]? = some (some y)) (ht : x.tag ≠ 0) (hu : y.up = -1) (hj0 : j ≠ 0) (hrt : rootF l 41 (i : Int) ≠ (j : Int)) (hf : depthF l 41 (i : Int) + 1 + heightF l 41 (j : Int) ≤ deep) (ka : Option Addr) (kc : Nat) : Inv deep (joinedZ l i x a j y ka kc) := by
  have hij : i ≠ j := fun e => hrt (by subst e; exact Inv.rootN hj hu)
  have old : ∀ (k : Nat) (z : Nd), l[k]? = some (some z) → ∃ z', (joinedZ l i x a j y ka kc)[k]? = some (some z') ∧ z'.tag = z.tag ∧ (k ≠ j → z'.up = z.up) ∧ (k = j → z'.up = (i : Int)) ∧ (k ≠ i → z'.kids = z.kids) ∧ (k = i → z'.kids = insZ z.kids a j) ∧ z'.ats = z.ats := fun k z hk => by
    unfold joinedZ
    by_cases e : k = j
    · subst e
      rw [hj] at hk
      obtain rfl := Option.some.inj (Option.some.inj hk)
      exact ⟨_, set_at (w := some y) (by rw [set_ne (fun e => hij e.symm)]; exact hj), rfl, fun e => absurd rfl e, fun _ => rfl, fun _ => rfl, fun e => absurd e.symm hij, rfl⟩
    · rw [set_ne e]
      by_cases e2 : k = i
      · subst e2
        rw [hi] at hk
        obtain rfl := Option.some.inj (Option.some.inj hk)
        exact ⟨_, set_at hi, rfl, fun _ => rfl, fun e3 => absurd e3 e, fun e3 => absurd rfl e3, fun _ => rfl, rfl⟩
      · rw [set_ne e2]
        exact ⟨z, hk, rfl, fun _ => rfl, fun e3 => absurd e3 e, fun _ => rfl, fun e3 => absurd e3 e2, rfl⟩
  have new : ∀ (k : Nat) (z' : Nd), (joinedZ l i x a j y ka kc)[k]? = some (some z') → ∃ z, l[k]? = some (some z) ∧ z'.tag = z.tag ∧ (k ≠ j → z'.up = z.up) ∧ (k = j → z'.up = (i : Int)) ∧ (k ≠ i → z'.kids = z.kids) ∧ (k = i → z'.kids = insZ z.kids a j) ∧ z'.ats = z.ats := fun k z' hk => by
    have : ∃ z, l[k]? = some (some z) := by
      unfold joinedZ at hk
      rcases set_get hk with ⟨e, _⟩ | ⟨_, hk⟩
      · exact ⟨y, by rw [e]; exact hj⟩
      · rcases set_get hk with ⟨e, _⟩ | ⟨_, hk⟩
        · exact ⟨x, by rw [e]; exact hi⟩
        · exact ⟨_, hk⟩
    obtain ⟨z, hz⟩ := this
    obtain ⟨z2, b1, b2⟩ := old k z hz
    rw [hk] at b1
    obtain rfl := Option.some.inj (Option.some.inj b1)
    exact ⟨z, hz, b2⟩
  have kidj : ∀ (i2 : Nat) (x2 : Nd), l[i2]? = some (some x2) → (j : Int) ∉ x2.kids := fun i2 x2 h2 hm => by
    obtain ⟨j2, y2, e1, e2, e3⟩ := h.kid i2 x2 _ h2 hm
    have : j = j2 := by omega
    subst this
    rw [hj] at e2
    obtain rfl := Option.some.inj (Option.some.inj e2)
    omega
  obtain ⟨r, hr⟩ := h.dep
  have hri := hr.le i x hi
  have hdi := (h.endsD hr 41 i x hi (by omega)).2
  have hrj := hr.no j y hj hu
  refine ⟨?_, fun i2 x' m hi2 hm => ?_, fun i2 x' hi2 => ?_, fun k z' hk => ?_, ⟨fun k => if rootF l 41 (k : Int) = (j : Int) then r k + r i + 1 else r k, fun k z' hk => ?_, fun k z' i2 hk hz => ?_, fun k z' hk hz => ?_⟩, fun i2 x' hi2 h0 => ?_, fun i2 x' hi2 => ?_⟩
  · obtain ⟨x0, hx0, a1, a2⟩ := h.host
    obtain ⟨z', b1, b2, b3, _⟩ := old 0 x0 hx0
    exact ⟨z', b1, by rw [b3 (fun e => hj0 e.symm), a1], by rw [b2, a2]⟩
  · obtain ⟨x2, b1, _, _, _, b5, b6, _⟩ := new i2 x' hi2
    have key : m ∈ x2.kids → ∃ (j2 : Nat) (y2 : Nd), m = (j2 : Int) ∧ (joinedZ l i x a j y ka kc)[j2]? = some (some y2) ∧ y2.up = (i2 : Int) := fun hm => by
      obtain ⟨j2, y2, c1, c2, c3⟩ := h.kid i2 x2 m b1 hm
      obtain ⟨y3, d1, _, d3, _⟩ := old j2 y2 c2
      exact ⟨j2, y3, c1, d1, by rw [d3 (fun e => kidj i2 x2 b1 (by rw [← e, ← c1]; exact hm)), c3]⟩
    by_cases e : i2 = i
    · rw [b6 e, mem_insZ] at hm
      rcases hm with rfl | hm
      · obtain ⟨y3, d1, _, _, d4, _⟩ := old j y hj
        exact ⟨j, y3, rfl, d1, by rw [d4 rfl, e]⟩
      · exact key hm
    · rw [b5 e] at hm
      exact key hm
  · obtain ⟨x2, b1, _, _, _, b5, b6, _⟩ := new i2 x' hi2
    by_cases e : i2 = i
    · rw [b6 e]; exact nodup_insZ (h.nod i2 x2 b1) (kidj i2 x2 b1)
    · rw [b5 e]; exact h.nod i2 x2 b1
  · obtain ⟨z, b1, _, b3, b4, _⟩ := new k z' hk
    by_cases e : k = j
    · obtain ⟨x', d1, _, _, _, _, d6, _⟩ := old i x hi
      exact .inr ⟨i, x', b4 e, d1, by rw [d6 rfl, mem_insZ, e]; exact .inl rfl⟩
    · rcases h.par k z b1 with c | ⟨i2, x2, c1, c2, c3⟩
      · exact .inl (by rw [b3 e, c])
      · obtain ⟨x', d1, _, _, _, d5, d6, _⟩ := old i2 x2 c2
        refine .inr ⟨i2, x', by rw [b3 e, c1], d1, ?_⟩
        by_cases e2 : i2 = i
        · rw [d6 e2, mem_insZ]; exact .inr c3
        · rw [d5 e2]; exact c3
  · obtain ⟨z, b1, _⟩ := new k z' hk
    (try dsimp only)
    split
    · rename_i e
      have h1 := h.low hd hr _ k z b1 rfl
      have h2 := Inv.height0 b1
      rw [e] at h1
      omega
    · exact hr.le k z b1
  · obtain ⟨z, b1, _, b3, b4, _⟩ := new k z' hk
    (try dsimp only)
    by_cases e : k = j
    · have hi2 : i2 = i := by have := b4 e; omega
      subst hi2
      rw [e, if_pos (Inv.rootN hj hu), if_neg hrt, hrj]
      omega
    · have hz2 : z.up = (i2 : Int) := by rw [← b3 e, hz]
      rw [h.rootP hd b1 hz2]
      have := hr.up k z i2 b1 hz2
      split <;> omega
  · obtain ⟨z, b1, _, b3, b4, _⟩ := new k z' hk
    (try dsimp only)
    by_cases e : k = j
    · have := b4 e; omega
    · have hz2 : z.up = -1 := by rw [← b3 e, hz]
      rw [Inv.rootN b1 hz2, if_neg (by omega)]
      exact hr.no k z b1 hz2
  · obtain ⟨x2, b1, b2, _, _, b5, b6, _⟩ := new i2 x' hi2
    by_cases e : i2 = i
    · subst e
      rw [hi] at b1
      obtain rfl := Option.some.inj (Option.some.inj b1)
      exact absurd (by rw [← b2, h0]) ht
    · rw [b5 e]; exact h.txt i2 x2 b1 (by rw [← b2, h0])
  · obtain ⟨x2, b1, _, _, _, _, _, b7⟩ := new i2 x' hi2
    rw [b7]; exact h.ats i2 x2 b1

def upN (l : List (Option Nd)) : Nat → Int → Int
  | 0, k => k
  | n + 1, k => upN l n (upT l k)
theorem upN_neg (l : List (Option Nd)) : ∀ n, upN l n (-1) = -1
  | 0 => rfl
  | n + 1 => by
    show upN l n (upT l (-1)) = -1
    rw [(nd_none (nd_neg l)).2]
    exact upN_neg l n
theorem Inv.anc (h : Inv deep l) {r : Nat → Nat} (hr : Rank deep l r) {j : Nat} : ∀ (n k : Nat) (z : Nd), l[k]? = some (some z) → upN l n (k : Int) = (j : Int) → r j ≤ r k
  | 0, k, z, _, e => by
    have e2 : (k : Int) = (j : Int) := e
    have : k = j := by omega
    rw [this]; exact Nat.le_refl _
  | n + 1, k, z, hk, e => by
    have e2 : upN l n (upT l (k : Int)) = (j : Int) := e
    rw [(nd_some hk).2] at e2
    rcases h.par k z hk with c | ⟨i2, x2, c1, c2, _⟩
    · rw [c, upN_neg] at e2; omega
    · rw [c1] at e2
      have := h.anc hr n i2 x2 c2 e2
      have := hr.up k z i2 hk c1
      omega
open Classical in
theorem Inv.remove (h : Inv deep l) {i j a : Nat} {x y : Nd} (hi : l[i]? = some (some x)) (hj : l[j]? = some (some y)) (hu : y.up = (i : Int)) (ha : x.kids[a]? = some (j : Int)) : Inv deep (removedZ l i x a j y) := by
  obtain ⟨r, hr⟩ := h.dep
  have hrj := hr.up j y i hj hu
  have hij : i ≠ j := fun e => by subst e; omega
  have hnx := h.nod i x hi
  have old : ∀ (k : Nat) (z : Nd), l[k]? = some (some z) → ∃ z', (removedZ l i x a j y)[k]? = some (some z') ∧ z'.tag = z.tag ∧ (k ≠ j → z'.up = z.up) ∧ (k = j → z'.up = -1) ∧ (k ≠ i → z'.kids = z.kids) ∧ (k = i → z.kids = x.kids ∧ z'.kids = delZ x.kids a) ∧ z'.ats = z.ats := fun k z hk => by
    unfold removedZ
    by_cases e : k = j
    · subst e
      rw [hj] at hk
      obtain rfl := Option.some.inj (Option.some.inj hk)
      exact ⟨_, set_at (w := some y) (by rw [set_ne (fun e => hij e.symm)]; exact hj), rfl, fun e => absurd rfl e, fun _ => rfl, fun _ => rfl, fun e => absurd e.symm hij, rfl⟩
    · rw [set_ne e]
      by_cases e2 : k = i
      · subst e2
        rw [hi] at hk
        obtain rfl := Option.some.inj (Option.some.inj hk)
        exact ⟨_, set_at hi, rfl, fun _ => rfl, fun e3 => absurd e3 e, fun e3 => absurd rfl e3, fun _ => ⟨rfl, rfl⟩, rfl⟩
      · rw [set_ne e2]
        exact ⟨z, hk, rfl, fun _ => rfl, fun e3 => absurd e3 e, fun _ => rfl, fun e3 => absurd e3 e2, rfl⟩
  have new : ∀ (k : Nat) (z' : Nd), (removedZ l i x a j y)[k]? = some (some z') → ∃ z, l[k]? = some (some z) ∧ z'.tag = z.tag ∧ (k ≠ j → z'.up = z.up) ∧ (k = j → z'.up = -1) ∧ (k ≠ i → z'.kids = z.kids) ∧ (k = i → z.kids = x.kids ∧ z'.kids = delZ x.kids a) ∧ z'.ats = z.ats := fun k z' hk => by
    have : ∃ z, l[k]? = some (some z) := by
      unfold removedZ at hk
      rcases set_get hk with ⟨e, _⟩ | ⟨_, hk⟩
      · exact ⟨y, by rw [e]; exact hj⟩
      · rcases set_get hk with ⟨e, _⟩ | ⟨_, hk⟩
        · exact ⟨x, by rw [e]; exact hi⟩
        · exact ⟨_, hk⟩
    obtain ⟨z, hz⟩ := this
    obtain ⟨z2, b1, b2⟩ := old k z hz
    rw [hk] at b1
    obtain rfl := Option.some.inj (Option.some.inj b1)
    exact ⟨z, hz, b2⟩
  have ancU : ∀ (k : Nat) (z : Nd) (i2 : Nat), l[k]? = some (some z) → k ≠ j → z.up = (i2 : Int) → ((∃ n, upN l n (k : Int) = (j : Int)) ↔ ∃ n, upN l n (i2 : Int) = (j : Int)) := fun k z i2 hk hkj hz => by
    have e : ∀ n, upN l (n + 1) (k : Int) = upN l n (i2 : Int) := fun n => by
      show upN l n (upT l (k : Int)) = _
      rw [(nd_some hk).2, hz]
    constructor
    · rintro ⟨n, hn⟩
      cases n with
      | zero => have : (k : Int) = (j : Int) := hn; omega
      | succ n => exact ⟨n, by rw [← e]; exact hn⟩
    · rintro ⟨n, hn⟩
      exact ⟨n + 1, by rw [e]; exact hn⟩
  refine ⟨?_, fun i2 x' m hi2 hm => ?_, fun i2 x' hi2 => ?_, fun k z' hk => ?_, ⟨fun k => if (∃ n, upN l n (k : Int) = (j : Int)) then r k - r j else r k, fun k z' hk => ?_, fun k z' i2 hk hz => ?_, fun k z' hk hz => ?_⟩, fun i2 x' hi2 h0 => ?_, fun i2 x' hi2 => ?_⟩
  · obtain ⟨x0, hx0, a1, a2⟩ := h.host
    obtain ⟨z', b1, b2, b3, _⟩ := old 0 x0 hx0
    have hj0 : 0 ≠ j := fun e => by
      rw [← e, hx0] at hj
      obtain rfl := Option.some.inj (Option.some.inj hj)
      omega
    exact ⟨z', b1, by rw [b3 hj0, a1], by rw [b2, a2]⟩
  · obtain ⟨x2, b1, _, _, _, b5, b6, _⟩ := new i2 x' hi2
    have key : m ∈ x2.kids → m ≠ (j : Int) → ∃ (j2 : Nat) (y2 : Nd), m = (j2 : Int) ∧ (removedZ l i x a j y)[j2]? = some (some y2) ∧ y2.up = (i2 : Int) := fun hm hne => by
      obtain ⟨j2, y2, c1, c2, c3⟩ := h.kid i2 x2 m b1 hm
      obtain ⟨y3, d1, _, d3, _⟩ := old j2 y2 c2
      exact ⟨j2, y3, c1, d1, by rw [d3 (fun e => hne (by rw [c1, e])), c3]⟩
    by_cases e : i2 = i
    · obtain ⟨e1, e2⟩ := b6 e
      rw [e2, mem_delZ hnx ha] at hm
      exact key (by rw [e1]; exact hm.1) hm.2
    · rw [b5 e] at hm
      refine key hm (fun e2 => ?_)
      obtain ⟨j2, y2, c1, c2, c3⟩ := h.kid i2 x2 m b1 hm
      have : j2 = j := by omega
      subst this
      rw [hj] at c2
      obtain rfl := Option.some.inj (Option.some.inj c2)
      omega
  · obtain ⟨x2, b1, _, _, _, b5, b6, _⟩ := new i2 x' hi2
    by_cases e : i2 = i
    · rw [(b6 e).2]; exact nodup_delZ hnx
    · rw [b5 e]; exact h.nod i2 x2 b1
  · obtain ⟨z, b1, _, b3, b4, _⟩ := new k z' hk
    by_cases e : k = j
    · exact .inl (b4 e)
    · rcases h.par k z b1 with c | ⟨i2, x2, c1, c2, c3⟩
      · exact .inl (by rw [b3 e, c])
      · obtain ⟨x', d1, _, _, _, d5, d6, _⟩ := old i2 x2 c2
        refine .inr ⟨i2, x', by rw [b3 e, c1], d1, ?_⟩
        by_cases e2 : i2 = i
        · obtain ⟨e3, e4⟩ := d6 e2
          rw [e4, mem_delZ hnx ha]
          exact ⟨by rw [← e3]; exact c3, by omega⟩
        · rw [d5 e2]; exact c3
  · obtain ⟨z, b1, _⟩ := new k z' hk
    have := hr.le k z b1
    (try dsimp only)
    split <;> omega
  · obtain ⟨z, b1, _, b3, b4, _⟩ := new k z' hk
    (try dsimp only)
    by_cases e : k = j
    · have := b4 e; omega
    · have hz2 : z.up = (i2 : Int) := by rw [← b3 e, hz]
      have h1 := ancU k z i2 b1 e hz2
      have h2 := hr.up k z i2 b1 hz2
      by_cases hA : ∃ n, upN l n (i2 : Int) = (j : Int)
      · rw [if_pos (h1.2 hA), if_pos hA]
        obtain ⟨n, hn⟩ := hA
        rcases h.par k z b1 with c | ⟨i3, x3, c1, c2, _⟩
        · omega
        · have : i3 = i2 := by omega
          subst this
          have := h.anc hr n i3 x3 c2 hn
          omega
      · rw [if_neg (fun hA2 => hA (h1.1 hA2)), if_neg hA]
        exact h2
  · obtain ⟨z, b1, _, b3, b4, _⟩ := new k z' hk
    (try dsimp only)
    by_cases e : k = j
    · rw [e, if_pos ⟨0, rfl⟩]; omega
    · have := hr.no k z b1 (by rw [← b3 e, hz])
      split <;> omega
  · obtain ⟨x2, b1, b2, _, _, b5, b6, _⟩ := new i2 x' hi2
    have h5 := h.txt i2 x2 b1 (by rw [← b2, h0])
    by_cases e : i2 = i
    · obtain ⟨e3, _⟩ := b6 e
      rw [h5] at e3
      rw [← e3] at ha
      cases ha
    · rw [b5 e]; exact h5
  · obtain ⟨x2, b1, _, _, _, _, _, b7⟩ := new i2 x' hi2
    rw [b7]; exact h.ats i2 x2 b1
end

end Go.Proofs.YtdegkcibadjogaaDoor
