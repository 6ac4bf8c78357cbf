/-
  The program's and the document's Put, Drop, Only side by side, as the statement AttrsRows asks them.
-/
import Derived.Test.YtcccaaleekednaaDoorWalksP
import Derived.Test.YtcccaaleekednaaDoorWalksQ
import Derived.Test.YtcccaaleekednaaDoorWalksR
namespace Go.Proofs.YtcccaaleekednaaDoor
open Go.RowKit Go.Lib

def putM (l : Row) (n x : ByteArray) : Row := if (nameS n && valueS x) = true then putR l n x else []
def putE (n x : ByteArray) : Int := if (nameS n && valueS x) = true then 0 else 1
def dropM (l : Row) (n : ByteArray) : Row := if hasR l n = true then dropR l n else []
def dropE (l : Row) (n : ByteArray) : Int := if hasR l n = true then 0 else 2

/-- A row, owned, and a number beside it. -/
def ResOwn (m : Row) (er : Int) (w : World) (e : Ending) (w' : World) : Prop := ∃ a c, e = .returned (.tuple #[.slice a m.length c, .int .i64 er]) ∧ RowAt w' (.slice a m.length c) m ∧ Owned w' w.heap.size (.slice a m.length c) m.length ∧ Below w.heap.size w w'
def ResRow (m : Row) (er : Int) (w : World) (e : Ending) (w' : World) : Prop := ∃ a c, e = .returned (.tuple #[.slice a m.length c, .int .i64 er]) ∧ RowAt w' (.slice a m.length c) m ∧ Below w.heap.size w w'
def RowOwn (m : Row) (w : World) (e : Ending) (w' : World) : Prop := ∃ a c, e = .returned (.slice a m.length c) ∧ RowAt w' (.slice a m.length c) m ∧ Owned w' w.heap.size (.slice a m.length c) m.length ∧ Below w.heap.size w w'

theorem row_nil (w : World) : RowAt w (.slice none 0 0) [] := .inl ⟨none, 0, rfl, fun _ => rfl, rfl⟩
theorem owned_nil (w : World) (B : Nat) : Owned w B (.slice none 0 0) 0 := ⟨[], World.ownsRow_nil _ _ _ _⟩
theorem PutPost.res {m : Row} {w : World} {e : Ending} {w' : World} (h : PutPost m w e w') : ResOwn m 0 w e w' := by
  obtain ⟨v', rfl, hown, hb⟩ := h
  have hr := rowAt_of_own hown
  obtain ⟨a, c, rfl⟩ := hr.len
  exact ⟨a, c, rfl, hr, ⟨_, hown⟩, hb⟩

theorem putA_any (v : Value) (l : Row) (n x : ByteArray) (w : World) (hE : Env w) (hv : RowAt w v l) (hl : l.length ≤ 10000) (hn : n.size ≤ 1000000) (hx : x.size ≤ 1000000) :
    Calls Tryd.prog 21 #[v, .string n, .string x] w (ResOwn (putM l n x) (putE n x) w) := by
  unfold putM putE
  by_cases h : (nameS n && valueS x) = true
  · rw [if_pos h, if_pos h]
    exact (put_yes v l n x w hE hv hl hn hx h).mono fun e w' h => h.res
  · rw [if_neg h, if_neg h]
    refine (put_no v n x w hE hn hx (by simpa using h)).mono ?_
    rintro e w' ⟨rfl, hb⟩
    exact ⟨none, 0, rfl, row_nil _, owned_nil _ _, hb⟩
theorem rputA_any (v : Value) (l : Row) (n x : ByteArray) (w : World) (hv : RowAt w v l) (hl : l.length ≤ 10000) (hn : n.size ≤ 1000000) (hx : x.size ≤ 1000000) :
    Calls Tryd.prog 22 #[v, .string n, .string x] w (ResRow (putM l n x) (putE n x) w) := by
  unfold putM putE
  by_cases h : (nameS n && valueS x) = true
  · rw [if_pos h, if_pos h]
    refine (rput_yes v l n x w hv hl hn hx h).mono ?_
    rintro e w' ⟨a, c, rfl, hr, hb⟩
    exact ⟨a, c, rfl, hr, hb⟩
  · rw [if_neg h, if_neg h]
    refine (rput_no v n x w hn hx (by simpa using h)).mono ?_
    rintro e w' ⟨rfl, hb⟩
    exact ⟨none, 0, rfl, row_nil _, hb⟩
theorem dropA_any (v : Value) (l : Row) (n : ByteArray) (w : World) (hv : RowAt w v l) (hl : l.length ≤ 10000) :
    Calls Tryd.prog 23 #[v, .string n] w (ResOwn (dropM l n) (dropE l n) w) := by
  unfold dropM dropE
  by_cases h : hasR l n = true
  · rw [if_pos h, if_pos h]
    exact (drop_yes v l n w hv hl h).mono fun e w' h => h.res
  · rw [if_neg h, if_neg h]
    refine (drop_no v l n w hv (by simpa using h)).mono ?_
    rintro e w' ⟨rfl, hb⟩
    exact ⟨none, 0, rfl, row_nil _, owned_nil _ _, hb⟩
theorem rdropA_any (v : Value) (l : Row) (n : ByteArray) (w : World) (hv : RowAt w v l) (hl : l.length ≤ 10000) :
    Calls Tryd.prog 24 #[v, .string n] w (ResRow (dropM l n) (dropE l n) w) := by
  unfold dropM dropE
  by_cases h : hasR l n = true
  · rw [if_pos h, if_pos h]
    refine (rdrop_yes v l n w hv hl h).mono ?_
    rintro e w' ⟨a, c, rfl, hr, hb⟩
    exact ⟨a, c, rfl, hr, hb⟩
  · rw [if_neg h, if_neg h]
    refine (rdrop_no v l n w hv hl (by simpa using h)).mono ?_
    rintro e w' ⟨rfl, rfl⟩
    exact ⟨none, 0, rfl, row_nil _, Below.refl _ _⟩
theorem OwnPost.res {m : Row} {w : World} {e : Ending} {w' : World} (h : OwnPost m w e w') : RowOwn m w e w' := by
  obtain ⟨v', rfl, hown, hb⟩ := h
  have hr := rowAt_of_own hown
  obtain ⟨a, c, rfl⟩ := hr.len
  exact ⟨a, c, rfl, hr, ⟨_, hown⟩, hb⟩
theorem Owned.below {w w' : World} {B : Nat} {v : Value} {n : Nat} (h : Owned w B v n) (hb : Below w.heap.size w w') : Owned w' B v n := by
  obtain ⟨xs, hx⟩ := h
  exact ⟨xs, ownsRow_below hx hb⟩
theorem Owned.mono {w : World} {B B' : Nat} {v : Value} {n : Nat} (h : Owned w B v n) (hB : B' ≤ B) : Owned w B' v n := by
  obtain ⟨xs, hx⟩ := h
  exact ⟨xs, own_mono hx hB⟩
theorem Owned.lt {w : World} {B : Nat} {v : Value} {n : Nat} (h : Owned w B v n) : ∀ j, v.ownBlock = some j → B ≤ j ∧ j < w.heap.size := by
  obtain ⟨xs, hx⟩ := h
  exact hx.lt
/-- Another row's blocks are turned: this one's stays. -/
theorem Owned.kept {w w' : World} {B B2 : Nat} {v v2 : Value} {n : Nat} (h : Owned w B v n) (hg : w.grownBy w' v2.ownBlock) (h2 : ∀ j, v2.ownBlock = some j → j < B2) (hB : B2 ≤ B) : Owned w' B v n := by
  have hl := h.lt
  obtain ⟨xs, hx⟩ := h
  refine ⟨xs, hx.kept hg ?_⟩
  cases hv : v.ownBlock with
  | none => exact .inl rfl
  | some j =>
    refine .inr fun e => ?_
    have h3 := h2 j e.symm
    have h4 := (hl j hv).1
    omega
theorem Below.spoilt {B : Nat} {w wr w' : World} {v : Value} (hb : Below B w wr) (hs : B ≤ wr.heap.size) (hg : wr.grownBy w' v.ownBlock) (h : ∀ j, v.ownBlock = some j → B ≤ j) : Below B w w' :=
  hb.grown hg hs (fun j hj => h j hj)
theorem onlyA_any (v : Value) (l : Row) (n u : ByteArray) (w : World) (hv : RowAt w v l) (hl : l.length ≤ 1000) :
    Calls Tryd.prog 25 #[v, .slice (some ⟨w.heap.size, 0, none⟩) 2 2] (w.alloc (.cells #[.string n, .string u] 9)) (RowOwn (onlyR l [n, u]) w) := by
  have hba := (Below.refl w.heap.size w).alloc (Nat.le_refl _) (.cells #[.string n, .string u] 9)
  refine (only_any v _ l [n, u] _ (hv.below hba) (texts_two w n u 9) hl (by simp)).mono ?_
  intro e w' h
  obtain ⟨a, c, he, hr, ho, hb⟩ := h.res
  exact ⟨a, c, he, hr, ho.mono (by simp), hba.trans (hb.mono hba.size)⟩
theorem ronlyA_any (v : Value) (l : Row) (n u : ByteArray) (w : World) (hv : RowAt w v l) (hl : l.length ≤ 1000) :
    Calls Tryd.prog 26 #[v, .slice (some ⟨w.heap.size, 0, none⟩) 2 2] (w.alloc (.cells #[.string n, .string u] 9)) (RowOwn (onlyR l [n, u]) w) := by
  have hba := (Below.refl w.heap.size w).alloc (Nat.le_refl _) (.cells #[.string n, .string u] 9)
  refine (ronly_any v _ l [n, u] _ (hv.below hba) (texts_two w n u 9) hl (by simp)).mono ?_
  intro e w' h
  obtain ⟨a, c, he, hr, ho, hb⟩ := h.res
  exact ⟨a, c, he, hr, ho.mono (by simp), hba.trans (hb.mono hba.size)⟩
theorem rsame_self (v1 v2 : Value) (m : Row) (w : World) (h1 : RowAt w v1 m) (h2 : RowAt w v2 m) (hm : m.length ≤ 100000) :
    Calls Tryd.prog 27 #[v1, v2] w fun e w' => e = .returned (.bool true) ∧ Below w.heap.size w w' := by
  have h := rsame_any v1 v2 m m w h1 h2 hm
  rwa [show sameR m m = true from decide_eq_true rfl] at h

theorem putM_le (l : Row) (n x : ByteArray) : (putM l n x).length ≤ l.length + 1 := by
  unfold putM
  split
  · rw [putR_length]; split <;> omega
  · simp
theorem dropR_le : ∀ (l : Row) (n : ByteArray), (dropR l n).length ≤ l.length
  | [], _ => by simp [dropR]
  | a :: l, n => by
    have := dropR_le l n
    by_cases e : a.1 = n
    · simp [dropR, e]
    · simp [dropR, e]; omega
theorem dropM_le (l : Row) (n : ByteArray) : (dropM l n).length ≤ l.length := by
  unfold dropM
  split
  · exact dropR_le l n
  · simp

end Go.Proofs.YtcccaaleekednaaDoor
