/-
  A tree of one's own is made, and grows: New, add.
  Insert, at any place.
-/
import Derived.Test.YtggjoefhopoggaaDoorCAtt

namespace Go.Proofs.YtggjoefhopoggaaDoor
open Go.RowKit Go.Lib

theorem Full.put {B : Nat} {w w' : World} {p nb : Nat} {deep : Int} {l : List (Option Nd)} (h : Full B w p nb deep l) (k : Nat) (x : Nd) (hx : x.ka = none ∧ x.kc = 0 ∧ x.kids = []) (hb : But nb w w') (hge : w.heap.size ≤ x.ab)
    (ho : w.ownsRow B 116 2 x.as x.ats.length (cellsR x.ats)) (hs : ∀ b, x.as.ownBlock = some b → b ≠ p ∧ b ≠ nb ∧ ∀ (j : Nat) (y : Nd), l[j]? = some (some y) → b ≠ y.ab ∧ y.ks.ownBlock ≠ some b)
    (ht : TreeAt w' p nb deep (l.set k (some x))) : Full B w' p nb deep (l.set k (some x)) := by
  have hpl : p < w.heap.size := lt_of_cell' h.t.c0
  have hln := h.ln
  have hbn := h.bn
  have hks : x.ks = .slice none 0 0 := by unfold Nd.ks; rw [hx.1, hx.2.1, hx.2.2]; rfl
  have hlt : ∀ (j : Nat) (y : Nd), l[j]? = some (some y) → y.ab < w.heap.size := fun j y hj => lt_of_cell' (h.t.yes j y hj).2.c0
  have hold : ∀ (j : Nat) (y : Nd), l[j]? = some (some y) → ∀ b, y.ks.ownBlock = some b → b < w.heap.size := fun j y hj b e => ((h.own j y hj).lt b e).2
  have hl : ∀ (j : Nat) (y : Nd), (l.set k (some x))[j]? = some (some y) → (j = k ∧ y = x) ∨ (j ≠ k ∧ l[j]? = some (some y)) := fun j y hj => by
    rw [List.getElem?_set] at hj
    split at hj
    · rename_i e
      split at hj
      · exact .inl ⟨e.symm, by simpa using hj.symm⟩
      · cases hj
    · rename_i e
      exact .inr ⟨fun e2 => e e2.symm, hj⟩
  refine ⟨ht, h.pn, Nat.lt_of_lt_of_le h.ln hb.size, h.bp, h.bn, fun j y hj => ?_, fun j m y z hj hm hne => ?_, fun j y hj => ?_, fun j y b hj eb => ?_, fun j y hj => ?_, fun j y b hj eb => ?_⟩
  · rcases hl j y hj with ⟨_, rfl⟩ | ⟨_, h1⟩
    · exact ⟨by omega, by omega, by omega⟩
    · exact h.ab j y h1
  · rcases hl j y hj with ⟨j1, rfl⟩ | ⟨_, h1⟩ <;> rcases hl m z hm with ⟨m1, e⟩ | ⟨_, h2⟩
    · omega
    · have := hlt m z h2; omega
    · have := hlt j y h1; rw [e]; omega
    · exact h.aa j m y z h1 h2 hne
  · rcases hl j y hj with ⟨_, rfl⟩ | ⟨_, h1⟩
    · rw [hks, hx.2.2]
      exact ⟨rfl, .inl ⟨rfl, rfl⟩⟩
    · have ho := h.own j y h1
      refine ⟨ho.1, ?_⟩
      rcases ho.2 with h2 | ⟨g, cap, cur, h0, hB, hg, h3⟩
      · exact .inl h2
      · have hgb : y.ks.ownBlock = some g := by rw [h0]; rfl
        exact .inr ⟨g, cap, cur, h0, hB, (hb.block g (hold j y h1 g hgb) (h.kb j y g h1 hgb).2.1).trans hg, h3⟩
  · rcases hl j y hj with ⟨_, rfl⟩ | ⟨_, h1⟩
    · rw [hks] at eb; cases eb
    · obtain ⟨a1, a2, a3⟩ := h.kb j y b h1 eb
      refine ⟨a1, a2, fun m z hm => ?_⟩
      rcases hl m z hm with ⟨_, rfl⟩ | ⟨_, h2⟩
      · have := hold j y h1 b eb
        exact ⟨by omega, fun _ e => by rw [hks] at e; cases e⟩
      · exact a3 m z h2
  · have kept : ∀ y : Nd, w.ownsRow B 116 2 y.as y.ats.length (cellsR y.ats) → (∀ b, y.as.ownBlock = some b → b ≠ nb) → w'.ownsRow B 116 2 y.as y.ats.length (cellsR y.ats) := fun y ho hnb => by
      refine ⟨ho.1, ?_⟩
      rcases ho.2 with h2 | ⟨g, cap, cur, h0, hB, hg, h3⟩
      · exact .inl h2
      · exact .inr ⟨g, cap, cur, h0, hB, (hb.block g (Array.getElem?_eq_some_iff.1 hg).1 (hnb g (by rw [h0]; rfl))).trans hg, h3⟩
    rcases hl j y hj with ⟨_, rfl⟩ | ⟨_, h1⟩
    · exact kept _ ho (fun b e => (hs b e).2.1)
    · exact kept y (h.ra j y h1) (fun b e => (h.rb j y b h1 e).2.1)
  · rcases hl j y hj with ⟨_, rfl⟩ | ⟨_, h1⟩
    · obtain ⟨a1, a2, a3⟩ := hs b eb
      have hbl := (ho.lt b eb).2
      refine ⟨a1, a2, fun m z hm => ?_⟩
      rcases hl m z hm with ⟨_, rfl⟩ | ⟨_, h2⟩
      · exact ⟨by omega, fun e => by rw [hks] at e; cases e⟩
      · exact a3 m z h2
    · obtain ⟨a1, a2, a3⟩ := h.rb j y b h1 eb
      have hbl := ((h.ra j y h1).lt b eb).2
      refine ⟨a1, a2, fun m z hm => ?_⟩
      rcases hl m z hm with ⟨_, rfl⟩ | ⟨_, h2⟩
      · exact ⟨by omega, fun e => by rw [hks] at e; cases e⟩
      · exact a3 m z h2

theorem add_full (B : Nat) (w : World) (p nb : Nat) (deep : Int) (l : List (Option Nd)) (h : Full B w p nb deep l) (k : Nat) (hk : ixN l 0 = (k : Int)) (tag : Int) (aa : Option Addr) (an ac : Nat) (tx : ByteArray) (ats : List (ByteArray × ByteArray))
    (ho : w.ownsRow B 116 2 (.slice aa an ac) ats.length (cellsR ats)) (hs : ∀ b, (Value.slice aa an ac).ownBlock = some b → b ≠ p ∧ b ≠ nb ∧ ∀ (j : Nat) (y : Nd), l[j]? = some (some y) → b ≠ y.ab ∧ y.ks.ownBlock ≠ some b) :
    Calls Tryd.prog 72 #[.pointer (some ⟨p, 0, none⟩), .agg #[.int .i64 tag, .slice aa an ac, .string tx, .slice none 0 0]] w fun e w' => e = .returned (.tuple #[.int .i64 k, .int .i64 0]) ∧ Below B w w' ∧ (∃ b, w.heap.size ≤ b ∧ Full B w' p nb deep (l.set k (some (ndF b tag aa an ac tx ats)))) ∧ But nb w w' :=
  (add_but B w p nb deep l h.t h.apart h.ln h.bn k hk tag aa an ac tx ats).mono (by
    rintro e w' ⟨h1, h2, h3, h4⟩
    exact ⟨h1, h2, ⟨w.heap.size + 1, Nat.le_succ _, h.put k _ ⟨rfl, rfl, rfl⟩ h4 (Nat.le_succ _) ho hs h3⟩, h4⟩)

/-- New's tree is one's own. -/
theorem full_new {w w' : World} {c : Nat} {deep : Int} (h : TreeAt w' (w.heap.size + 1) w.heap.size deep ((List.replicate c none).set 0 (some (nd0 (w.heap.size + 2))))) (hs : w'.heap.size = w.heap.size + 3) : Full w.heap.size w' (w.heap.size + 1) w.heap.size deep ((List.replicate c none).set 0 (some (nd0 (w.heap.size + 2)))) := by
  have hl : ∀ (j : Nat) (y : Nd), ((List.replicate c (none : Option Nd)).set 0 (some (nd0 (w.heap.size + 2))))[j]? = some (some y) → j = 0 ∧ y = nd0 (w.heap.size + 2) := fun j y hj => by
    rw [List.getElem?_set] at hj
    split at hj
    · rename_i e
      split at hj
      · exact ⟨e.symm, by simpa using hj.symm⟩
      · cases hj
    · rw [List.getElem?_replicate] at hj
      split at hj <;> simp at hj
  refine ⟨h, by omega, by omega, by omega, Nat.le_refl _, fun j y hj => ?_, fun j m y z hj hm hne => ?_, fun j y hj => ?_, fun j y b hj eb => ?_, fun j y hj => ?_, fun j y b hj eb => ?_⟩
  · obtain ⟨_, rfl⟩ := hl j y hj
    exact ⟨by show _ ≤ w.heap.size + 2; omega, by show w.heap.size + 2 ≠ _; omega, by show w.heap.size + 2 ≠ _; omega⟩
  · have := (hl j y hj).1
    have := (hl m z hm).1
    omega
  · obtain ⟨_, rfl⟩ := hl j y hj
    exact ⟨rfl, .inl ⟨rfl, rfl⟩⟩
  · obtain ⟨_, rfl⟩ := hl j y hj
    cases eb
  · obtain ⟨_, rfl⟩ := hl j y hj
    exact ⟨rfl, .inl ⟨rfl, rfl⟩⟩
  · obtain ⟨_, rfl⟩ := hl j y hj
    cases eb

end Go.Proofs.YtggjoefhopoggaaDoor

namespace Go.Proofs.YtggjoefhopoggaaDoor
open Go.RowKit Go.Lib

/-- What Insert asks, when it answers that all is well but the depth. -/
structure MayInZ (l : List (Option Nd)) (i at_ j : Nat) (x y : Nd) (m : Nat) : Prop where
  hi : l[i]? = some (some x)
  hj : l[j]? = some (some y)
  hij : i ≠ j
  ht : x.tag ≠ 0
  hat : at_ ≤ x.kids.length
  hlen : x.kids.length < 2000
  hl : looseT l j = true
  hr : endsR l m i = true
  hrt : rootF l m i ≠ j
  hh : endsH l m j
  hd : endsD l m i = true
  hm : m ≤ 1000
set_option maxRecDepth 20000 in
set_option maxHeartbeats 8000000 in
theorem ins_any (B : Nat) (w : World) (p nb : Nat) (deep : Int) (l : List (Option Nd)) (hF : Full B w p nb deep l) (i at_ j m : Nat) (x y : Nd) (hM : MayInZ l i at_ j x y m) (hf : depthF l m i + 1 + heightF l m j ≤ deep) :
    Calls Tryd.prog 55 #[.pointer (some ⟨p, 0, none⟩), .int .i64 i, .int .i64 at_, .int .i64 j] w fun e w' => e = .returned (.int .i64 0) ∧ Below B w w' ∧ ∃ ka kc, Full B w' p nb deep (joinedZ l i x at_ j y ka kc) := by
  have h := hF.t
  have hnb := hF.ln
  have hb1 := (Below.refl _ w).alloc (Nat.le_refl _) (.cells #[.int .i64 (i : Int), .int .i64 (j : Int)] 3)
  have hnx := ndAt_of hM.hi
  have hny := ndAt_of hM.hj
  have cA := ask_any _ p nb deep l (h.below hnb hb1) w.heap.size [(i : Int), (j : Int)] (by simp) (fun k hk => by
    have hk2 : k = 0 ∨ k = 1 := by simp at hk; omega
    rcases hk2 with rfl | rfl <;> simp [go_sem])
  have e1 : askT l [(i : Int), (j : Int)] = 0 := by
    unfold askT
    rw [if_pos]
    simp [hasT, hnx, hny]
  have e2 : [(i : Int), (j : Int)].length = 2 := rfl
  rw [e1, e2] at cA
  have HTB := fun (w1 : World) (hb : Below w.heap.size w w1) => h.below hnb hb
  have hnB := fun (w1 : World) (hb : Below w.heap.size w w1) => Nat.lt_of_lt_of_le hnb hb.size
  have cE := fun (w1 : World) (hb : Below w.heap.size w w1) => element_any w1 p nb deep l (HTB w1 hb) i (hnB w1 hb)
  have e3 : elemT l (i : Int) = (some x, 0) := by unfold elemT; rw [hnx]; exact if_neg hM.ht
  rw [e3] at cE
  unfold ndV at cE
  dsimp only at cE
  have cL := fun (w1 : World) (hb : Below w.heap.size w w1) => loose_any w1 p nb deep l (HTB w1 hb) j
  rw [hM.hl] at cL
  have cT := fun (w1 : World) (hb : Below w.heap.size w w1) => takes_any w1 x at_ ((HTB w1 hb).yes i x hM.hi).2
  have e4 : takesT x at_ = true := by
    have := hM.hat
    unfold takesT
    simp only [Bool.and_eq_true, decide_eq_true_eq]
    omega
  rw [e4] at cT
  have cR := fun (w1 : World) (hb : Below w.heap.size w w1) => root_any w1 p nb deep l (HTB w1 hb) i m hM.hr
  have cH := fun (w1 : World) (hb : Below w.heap.size w w1) => height_any w1 p nb deep l (HTB w1 hb) m (by have := hM.hm; omega) j hM.hh
  have hhl := heightF_le l m j
  have cF := fun (w1 : World) (hb : Below w.heap.size w w1) => fits_any w1 p nb deep l (HTB w1 hb) (hnB w1 hb) i (heightF l m j) m (by have := hM.hm; omega) (by have := hM.hm; omega) hM.hd
  rw [decide_eq_true hf] at cF
  have cJ := fun (w1 : World) (hb : Below w.heap.size w w1) => join_any B w1 p nb deep l (hF.below hb) i at_ j x y hM.hi hM.hj hM.hij hM.hat hM.hlen
  have hBw : B ≤ w.heap.size := by
    have h8 := hF.bn
    omega
  obtain ⟨r, hr⟩ : ∃ r, rootF l m i = r := ⟨_, rfl⟩
  rw [hr] at cR
  have hrj : (r == (j : Int)) = false := by rw [← hr]; simpa using hM.hrt
  obtain ⟨z, hz⟩ : ∃ z, heightF l m j = z := ⟨_, rfl⟩
  rw [hz] at cH cF
  obtain ⟨b, hb0⟩ : ∃ b, x.ab = b := ⟨_, rfl⟩
  rw [hb0] at cE cT
  have HB1 := Lib.hid hb1
  clear h hF hnb hM hf hnx hny e1 e2 e3 e4 hhl hr hz hb0 hb1 HTB hnB
  go_enter Tryd.func55, Tryd.ntmps55
  go_wp2_with (first
    | (go_at_call 73; ((with_reducible refine (cA).mono ?_); rintro e w1 ⟨rfl, rfl⟩))
    | (go_at_call 64; ((with_reducible refine (cE _ HB1.out).mono ?_); rintro e w2 ⟨rfl, hb2⟩; have hb := HB1.out.trans (hb2.mono (by simp)); clear hb2))
    | (go_at_call 74; ((with_reducible refine (cL _ hb).mono ?_); rintro e w3 ⟨rfl, rfl⟩))
    | (go_at_call 66; ((with_reducible refine (cT _ hb).mono ?_); rintro e w4 ⟨rfl, rfl⟩))
    | (go_at_call 44; ((with_reducible refine (cR _ hb).mono ?_); rintro e w5 ⟨rfl, rfl⟩))
    | (go_at_call 75; ((with_reducible refine (cH _ hb).mono ?_); rintro e w6 ⟨rfl, rfl⟩))
    | (go_at_call 67; ((with_reducible refine (cF _ hb).mono ?_); rintro e w7 ⟨rfl, hb7⟩; replace hb := hb.trans (hb7.mono hb.size); clear hb7))
    | (go_at_call 69; ((with_reducible refine (cJ _ hb).mono ?_); rintro e w8 ⟨rfl, hb8, ka, kc, hT⟩)))
  go_ret
  exact ⟨rfl, (hb.mono hBw).trans hb8, ka, kc, hT⟩

end Go.Proofs.YtggjoefhopoggaaDoor
