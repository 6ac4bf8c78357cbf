/-
  Whatever is asked for: the tree is one's own still, and what holds of each tree holds of it: add, Element, Text, SetAttrs, SetText, SetTag.
-/
import Derived.Test.YtggjoefhopoggaaDoorCInv
import Derived.Test.YtggjoefhopoggaaDoorCOwn

namespace Go.Proofs.YtggjoefhopoggaaDoor
open Go.RowKit Go.Lib

/-- A tree of one's own, of so many numbers. -/
def Tr (B : Nat) (w : World) (p : Nat) (deep : Int) (c : Nat) : Prop := ∃ nb l, Full B w p nb deep l ∧ Inv deep l ∧ l.length = c
/-- Something is answered, and there is the tree. -/
def Kept (B : Nat) (w : World) (p : Nat) (deep : Int) (c : Nat) (e : Ending) (w' : World) : Prop := (∃ v, e = .returned v) ∧ Below B w w' ∧ Tr B w' p deep c
theorem kept_of {B : Nat} {w w' : World} {p nb : Nat} {deep : Int} {l : List (Option Nd)} {e : Ending} (h : Full B w p nb deep l) (hi : Inv deep l) (he : ∃ v, e = .returned v) (hb : Below w.heap.size w w') : Kept B w p deep l.length e w' :=
  ⟨he, hb.mono (by have := h.bn; have := h.ln; omega), nb, l, h.below hb, hi, rfl⟩

theorem ixN_dec : ∀ (l : List (Option Nd)) (i : Nat), ixN l i = -1 ∨ ∃ k : Nat, ixN l i = (k : Int)
  | [], _ => .inl rfl
  | none :: _, i => .inr ⟨i, rfl⟩
  | some _ :: l, i => ixN_dec l (i + 1)

set_option maxRecDepth 20000 in
set_option maxHeartbeats 4000000 in
theorem add_no (w : World) (p nb : Nat) (deep : Int) (l : List (Option Nd)) (h : TreeAt w p nb deep l) (hnb : nb < w.heap.size) (hk : ixN l 0 = -1) (tag : Int) (aa : Option Addr) (an ac : Nat) (tx : ByteArray) :
    Calls Tryd.prog 72 #[.pointer (some ⟨p, 0, none⟩), .agg #[.int .i64 tag, .slice aa an ac, .string tx, .slice none 0 0]] w fun e w' => e = .returned (.tuple #[.int .i64 0, .int .i64 3]) ∧ Below w.heap.size w w' := by
  have hb := (Below.refl _ w).alloc (Nat.le_refl _) (.cells #[.int .i64 tag, .slice aa an ac, .string tx, .slice none 0 0] 67)
  have hT := h.below hnb hb
  have cI := ix_any _ p nb deep l hT
  rw [hk] at cI
  have c1 := hT.c1
  have HB := Lib.hid hb
  clear h hT hk hb
  go_enter Tryd.func72, Tryd.ntmps72
  go_wp2_with (go_at_call 85; ((with_reducible refine (cI).mono ?_); rintro e w1 ⟨rfl, rfl⟩))
  go_ret2
  exact ⟨rfl, HB.out⟩

/-- What add leaves. -/
theorem Inv.came {deep : Int} {l : List (Option Nd)} (h : Inv deep l) (hd : 0 ≤ deep) {k : Nat} (hk : ixN l 0 = (k : Int)) (b : Nat) (tag : Int) (aa : Option Addr) (an ac : Nat) (tx : ByteArray) (ats : List (ByteArray × ByteArray)) (hats : ats.length ≤ 10000 ∧ tx.size ≤ 8192) : Inv deep (l.set k (some (ndF b tag aa an ac tx ats))) := by
  obtain ⟨_, hkn⟩ := ixN_at l 0 k hk
  rw [Nat.sub_zero] at hkn
  exact h.add hd hkn rfl rfl hats

set_option maxRecDepth 20000 in
set_option maxHeartbeats 4000000 in
theorem text_keep (B : Nat) (w : World) (p nb : Nat) (deep : Int) (l : List (Option Nd)) (h : Full B w p nb deep l) (hI : Inv deep l) (hd : 0 ≤ deep) (s : ByteArray) :
    Calls Tryd.prog 54 #[.pointer (some ⟨p, 0, none⟩), .string s] w (Kept B w p deep l.length) := by
  have cI := is_any w p nb deep l h.t
  have cN := anew_any s w
  have KP := Lib.hid (fun (e : Ending) (w' : World) (he : ∃ v, e = .returned v) (hb : Below w.heap.size w w') => kept_of (w' := w') h hI he hb)
  have hln := h.ln
  by_cases hs : s.size ≤ 8192 ∧ (anewS s).size ≤ 8192
  · rw [if_pos hs.1, decide_eq_true hs.2] at cN
    obtain ⟨S, hS⟩ : ∃ S, anewS s = S := ⟨_, rfl⟩
    rw [hS] at cN
    rcases ixN_dec l 0 with hk | ⟨k, hk⟩
    · have cA := fun (w1 : World) (hb : Below w.heap.size w w1) => add_no w1 p nb deep l (h.t.below hln hb) (Nat.lt_of_lt_of_le hln hb.size) hk 0 none 0 0 S
      clear h hI hs hS hk
      go_enter Tryd.func54, Tryd.ntmps54
      go_wp2_with (first
        | (go_at_call 47; ((with_reducible refine (cI).mono ?_); rintro e w1 ⟨rfl, rfl⟩))
        | (go_at_call 71; ((with_reducible refine (cN).mono ?_); rintro e w2 ⟨rfl, hb⟩))
        | (go_at_call 72; ((with_reducible refine (cA w2 hb).mono ?_); rintro e w4 ⟨rfl, hw4⟩)))
      go_ret2
      exact KP.out _ _ ⟨_, rfl⟩ (hb.trans (hw4.mono hb.size))
    · have cA := fun (w1 : World) (hb : Below w.heap.size w w1) => add_full B w1 p nb deep l (h.below hb) k hk 0 none 0 0 S [] ⟨rfl, .inl ⟨rfl, rfl⟩⟩ (fun b e => by cases e)
      have HI := Lib.hid (fun b => hI.came hd hk b 0 none 0 0 S [] ⟨Nat.zero_le _, hS ▸ hs.2⟩)
      have hBw : B ≤ w.heap.size := by have := h.bn; omega
      clear h hI hs hS hk KP
      go_enter Tryd.func54, Tryd.ntmps54
      go_wp2_with (first
        | (go_at_call 47; ((with_reducible refine (cI).mono ?_); rintro e w1 ⟨rfl, rfl⟩))
        | (go_at_call 71; ((with_reducible refine (cN).mono ?_); rintro e w2 ⟨rfl, hb⟩))
        | (go_at_call 72; ((with_reducible refine (cA w2 hb).mono ?_); rintro e w4 ⟨rfl, hw4, ⟨b, hb4, hF⟩, _⟩)))
      go_ret2
      exact ⟨⟨_, rfl⟩, (hb.mono hBw).trans hw4, nb, _, hF, HI.out b, by rw [List.length_set]⟩
  · obtain ⟨v, hv⟩ : ∃ v, (Value.tuple (if s.size ≤ 8192 then #[.string (anewS s), .bool (decide ((anewS s).size ≤ 8192))] else #[.string ⟨#[]⟩, .bool false])) = .tuple #[v, .bool false] := by
      by_cases h1 : s.size ≤ 8192
      · rw [if_pos h1, decide_eq_false (fun h2 => hs ⟨h1, h2⟩)]; exact ⟨_, rfl⟩
      · rw [if_neg h1]; exact ⟨_, rfl⟩
    rw [hv] at cN
    clear h hI hs hv
    go_enter Tryd.func54, Tryd.ntmps54
    go_wp2_with (first
      | (go_at_call 47; ((with_reducible refine (cI).mono ?_); rintro e w1 ⟨rfl, rfl⟩))
      | (go_at_call 71; ((with_reducible refine (cN).mono ?_); rintro e w2 ⟨rfl, hb⟩)))
    go_ret2
    exact KP.out _ _ ⟨_, rfl⟩ hb

theorem own_mono2 {w : World} {B B' n size : Nat} {e : TypeId} {v : Value} {xs : List Value} (h : w.ownsRow B e size v n xs) (hB : B' ≤ B) : w.ownsRow B' e size v n xs := by
  obtain ⟨h1, h2 | ⟨g, cap, cur, h2, h3, h4⟩⟩ := h
  · exact ⟨h1, .inl h2⟩
  · exact ⟨h1, .inr ⟨g, cap, cur, h2, Nat.le_trans hB h3, h4⟩⟩
/-- What own hands out fits a tree. -/
theorem own_fits {B : Nat} {w w1 : World} {p nb : Nat} {deep : Int} {l : List (Option Nd)} {v : Value} {n : Nat} {xs : List Value} (h : Full B w p nb deep l) (ho : w1.ownsRow w.heap.size 116 2 v n xs) :
    ∀ b, v.ownBlock = some b → b ≠ p ∧ b ≠ nb ∧ ∀ (j : Nat) (y : Nd), l[j]? = some (some y) → b ≠ y.ab ∧ y.ks.ownBlock ≠ some b := fun b e => by
  have hge := (ho.lt b e).1
  have hpl : p < w.heap.size := lt_of_cell' h.t.c0
  have hln := h.ln
  refine ⟨by omega, by omega, fun j y hj => ⟨?_, fun e2 => ?_⟩⟩
  · have : y.ab < w.heap.size := lt_of_cell' (h.t.yes j y hj).2.c0
    omega
  · have := ((h.own j y hj).lt b e2).2; omega

set_option maxRecDepth 20000 in
set_option maxHeartbeats 4000000 in
theorem element_keep (B : Nat) (w : World) (p nb : Nat) (deep : Int) (l : List (Option Nd)) (h : Full B w p nb deep l) (hI : Inv deep l) (hd : 0 ≤ deep) (tag : Int) (hT : OwnT w) (v : Value) (ats : Row) (hv : RowAt w v ats) (hl : ats.length ≤ 10000) (hs : SizedR ats) :
    Calls Tryd.prog 62 #[.pointer (some ⟨p, 0, none⟩), .int .i64 tag, v] w (Kept B w p deep l.length) := by
  have cI := is_any w p nb deep l h.t
  have cE := isel_any tag w hT
  have KP := Lib.hid (fun (e : Ending) (w' : World) (he : ∃ v, e = .returned v) (hb : Below w.heap.size w w') => kept_of (w' := w') h hI he hb)
  have cO := own_any w v ats hv hl hs
  have hln := h.ln
  obtain ⟨a0, c0, rfl⟩ := hv.len
  have HV := Lib.hid hv
  clear hv hs hT
  cases ht : (nameOf tag).toList.isEmpty with
  | true =>
    rw [ht] at cE
    clear h hI ht cO
    go_enter Tryd.func62, Tryd.ntmps62
    go_wp2_with (first
      | (go_at_call 47; ((with_reducible refine (cI).mono ?_); rintro e w1 ⟨rfl, rfl⟩))
      | (go_at_call 79; ((with_reducible refine (cE).mono ?_); rintro e w2 ⟨rfl, rfl⟩)))
    go_ret2
    exact KP.out _ _ ⟨_, rfl⟩ (Below.refl _ _)
  | false =>
    rw [ht] at cE
    unfold OwnR at cO
    rcases ixN_dec l 0 with hk | ⟨k, hk⟩
    · have cA := fun (w1 : World) (aa : Option Addr) (an ac : Nat) (hb : Below w.heap.size w w1) => add_no w1 p nb deep l (h.t.below hln hb) (Nat.lt_of_lt_of_le hln hb.size) hk tag aa an ac ⟨#[]⟩
      clear h hI hk ht
      go_enter Tryd.func62, Tryd.ntmps62
      go_wp2_with (first
        | (go_at_call 47; ((with_reducible refine (cI).mono ?_); rintro e w1 ⟨rfl, rfl⟩))
        | (go_at_call 79; ((with_reducible refine (cE).mono ?_); rintro e w2 ⟨rfl, rfl⟩))
        | (go_at_call 78; ((with_reducible refine (cO).mono ?_); rintro e w3 ⟨v3, rfl, hown, hb⟩; obtain ⟨aa, ac, rfl⟩ := (rowAt_of_own hown).len))
        | (go_at_call 72; ((with_reducible refine (cA _ _ _ _ hb).mono ?_); rintro e w4 ⟨rfl, hw4⟩)))
      go_ret2
      exact KP.out _ _ ⟨_, rfl⟩ (hb.trans (hw4.mono hb.size))
    · have cA := fun (w1 : World) (aa : Option Addr) (an ac : Nat) (hb : Below w.heap.size w w1) (ho : w1.ownsRow w.heap.size 116 2 (.slice aa an ac) ats.length (cellsR ats)) => add_full B w1 p nb deep l (h.below hb) k hk tag aa an ac ⟨#[]⟩ ats (own_mono2 ho (by have := h.bn; omega)) (own_fits h ho)
      have HI := Lib.hid (fun b aa an ac => hI.came hd hk b tag aa an ac ⟨#[]⟩ ats ⟨hl, Nat.zero_le _⟩)
      have hBw : B ≤ w.heap.size := by have := h.bn; omega
      clear h hI hk ht KP
      go_enter Tryd.func62, Tryd.ntmps62
      go_wp2_with (first
        | (go_at_call 47; ((with_reducible refine (cI).mono ?_); rintro e w1 ⟨rfl, rfl⟩))
        | (go_at_call 79; ((with_reducible refine (cE).mono ?_); rintro e w2 ⟨rfl, rfl⟩))
        | (go_at_call 78; ((with_reducible refine (cO).mono ?_); rintro e w3 ⟨v3, rfl, hown, hb⟩; obtain ⟨aa, ac, rfl⟩ := (rowAt_of_own hown).len))
        | (go_at_call 72; ((with_reducible refine (cA _ _ _ _ hb hown).mono ?_); rintro e w4 ⟨rfl, hw4, ⟨b, hb4, hF⟩, _⟩)))
      go_ret2
      exact ⟨⟨_, rfl⟩, (hb.mono hBw).trans hw4, nb, _, hF, HI.out b _ _ _, by rw [List.length_set]⟩

end Go.Proofs.YtggjoefhopoggaaDoor
