/-
  Print: the style of bits. What the closure puts onto the list.
-/
import Derived.Test.YthoinlapopongaaDoorWalksA
import Derived.Test.YthoinlapopongaaDoorWalksE
import Derived.Test.YthoinlapopongaaDoorBits
import Derived.Deep.AppendLies
import Derived.Laws.EntriesVeiled
namespace Go.Proofs.YthoinlapopongaaDoor
open Go.RowKit Go.Lib

theorem infoStr : (Tryd.prog.info? 9).map (fun i => (i.zero, i.size, i.bytes)) = some (some (.string ⟨#[]⟩), 1, 16) := by kernel_rfl
theorem own_block_ge {w : World} {base e size n : Nat} {v : Value} {xs : List Value} (h : w.ownsRow base e size v n xs) : ∀ r, v.ownBlock = some r → base ≤ r := by
  intro r hr
  rcases h.2 with ⟨rfl, _⟩ | ⟨g, cap, cur, rfl, hb, _⟩
  · cases hr
  · cases hr; exact hb
theorem own_below {w w' : World} {B e size : Nat} {v : Value} {n : Nat} {xs : List Value} (h : w.ownsRow B e size v n xs) (hb : Below w.heap.size w w') : w'.ownsRow B e size v n xs := by
  refine ⟨h.1, ?_⟩
  rcases h.2 with h2 | ⟨g, cap, cur, hv, hg, hc, hrest⟩
  · exact .inl h2
  · exact .inr ⟨g, cap, cur, hv, hg, (hb.block g (Array.getElem?_eq_some_iff.1 hc).1).trans hc, hrest⟩
theorem one_new (w : World) (x : ByteArray) (t : TypeId) : ∀ j u, ([Value.string x] : List Value)[j]? = some u → (w.alloc (.cells #[.string x] t)).cell? ((⟨w.heap.size, 0, none⟩ : Addr).add j) = some u := by
  intro j u h
  match j, h with
  | 0, h => cases h; simp [Addr.add]
  | j + 1, h => simp at h
theorem own_other {w w' : World} {B e size : Nat} {v : Value} {n : Nat} {xs : List Value} (h : w.ownsRow B e size v n xs) (hs : ∀ k, B ≤ k → w'.heap[k]? = w.heap[k]?) : w'.ownsRow B e size v n xs := by
  refine ⟨h.1, ?_⟩
  rcases h.2 with h2 | ⟨g, cap, cur, hv, hg, hc, hrest⟩
  · exact .inl h2
  · exact .inr ⟨g, cap, cur, hv, hg, (hs g hg).trans hc, hrest⟩
/-- The two numbers and the list, each in a variable. -/
structure Three (b : Nat) (x y : Int) (v : Value) (l : List ByteArray) (w : World) : Prop where
  c1 : w.cell? ⟨b, 0, none⟩ = some (.int .i64 x)
  c2 : w.cell? ⟨b + 1, 0, none⟩ = some (.int .i64 y)
  c3 : w.cell? ⟨b + 2, 0, none⟩ = some v
  f3 : w.frozen? ⟨b + 2, 0, none⟩ = false
  own : w.ownsRow (b + 3) 9 1 v l.length (l.map Value.string)
def ThreeAt (b : Nat) (x y : Int) (l : List ByteArray) (w : World) : Prop := ∃ v, Three b x y v l w
theorem Three.below {b : Nat} {x y : Int} {v : Value} {l : List ByteArray} {w w' : World} (h : Three b x y v l w) (hb : Below w.heap.size w w') : Three b x y v l w' :=
  ⟨(hb.cell (p := ⟨b, 0, none⟩) (lt_of_cell' h.c1)).trans h.c1, (hb.cell (p := ⟨b + 1, 0, none⟩) (lt_of_cell' h.c2)).trans h.c2, (hb.cell (p := ⟨b + 2, 0, none⟩) (lt_of_cell' h.c3)).trans h.c3,
    (hb.frozen (p := ⟨b + 2, 0, none⟩) (lt_of_cell' h.c3)).trans h.f3, own_below h.own hb⟩

def PutsAt (b : Nat) (x y : Int) (l : List ByteArray) (w : World) (e : Ending) (w' : World) : Prop := (∃ r, e = .returned r) ∧ ThreeAt b x y l w' ∧ Below b w w'

set_option maxHeartbeats 4000000 in
theorem put_no (b : Nat) (x y t : Int) (p u : ByteArray) (l : List ByteArray) (w : World) (h : ThreeAt b x y l w) (hq : bits .and .i64 (bits .or .i64 x y) t = 0) :
    Calls Tryd.prog 20 #[.int .i64 t, .string p, .string u, .pointer (some ⟨b, 0, none⟩), .pointer (some ⟨b + 1, 0, none⟩), .pointer (some ⟨b + 2, 0, none⟩)] w (PutsAt b x y l w) := by
  obtain ⟨v, h⟩ := h
  have h' := h
  obtain ⟨c1, c2, c3, f3, own⟩ := h
  have hq' : (bits .and .i64 (bits .or .i64 x y) t != 0) = false := by rw [hq]; rfl
  clear hq own
  go_enter Tryd.func20, Tryd.ntmps20
  go_wp2
  go_end0
  exact ⟨⟨_, rfl⟩, ⟨v, h'⟩, Below.refl _ _⟩

set_option maxHeartbeats 4000000 in
theorem put_yes (b : Nat) (x y t : Int) (p u : ByteArray) (l : List ByteArray) (w : World) (h : ThreeAt b x y l w) (hq : bits .and .i64 (bits .or .i64 x y) t ≠ 0) (hp : p.size ≤ 1000) (hu : u.size ≤ 1000) (hl : l.length ≤ 1000) :
    Calls Tryd.prog 20 #[.int .i64 t, .string p, .string u, .pointer (some ⟨b, 0, none⟩), .pointer (some ⟨b + 1, 0, none⟩), .pointer (some ⟨b + 2, 0, none⟩)] w (PutsAt b x y (l ++ [pieceS p u]) w) := by
  obtain ⟨v, h⟩ := h
  have h' := h
  obtain ⟨c1, c2, c3, f3, own⟩ := h
  have hq' : (bits .and .i64 (bits .or .i64 x y) t != 0) = true := by rw [bne_iff_ne]; exact hq
  obtain ⟨i0, hi, hz0, hz1, hz2⟩ := info_parts infoStr
  have hsz := lt_of_cell' c3
  have hsz' : b + 2 < w.heap.size := hsz
  clear hq
  go_enter Tryd.func20, Tryd.ntmps20
  go_wp2_with (
    at_builtin
    refine wpList_append_lies _ rfl _ _ 37 rfl (b + 3) 9 i0 _ 1 16 Tryd.underlying37 hi hz0 hz1 hz2 rfl (by decide) v _ _ rfl (own.alloc _) ⟨w.heap.size, 0, none⟩ 1 1 [.string (p ++ ⟨#[58, 32]⟩ ++ u)] rfl rfl (one_new _ _ _) (by simp [Value.oneCell']) (by decide) (by unfold maxLen; omega) (by omega) (by simp; omega) _ rfl ?_
    intro g cap w2 hown hgrow hat hlt
    have far : ∀ k, k < b + 3 → some k ≠ v.ownBlock := (fun k hk e => by have := own_block_ge own k e.symm; omega)
    have k1 := (hgrow.cell_far ⟨b, 0, none⟩ (by simp; omega) (far b (by omega))).trans (old_cell _ c1)
    have k2 := (hgrow.cell_far ⟨b + 1, 0, none⟩ (by simp; omega) (far (b + 1) (by omega))).trans (old_cell _ c2)
    have k3 := (hgrow.cell_far ⟨b + 2, 0, none⟩ (by simp; omega) (far (b + 2) (by omega))).trans (old_cell _ c3)
    have k4 := (hgrow.frozen_far ⟨b + 2, 0, none⟩ (by simp; omega) (far (b + 2) (by omega))).trans (old_frozen _ c3 f3))
  go_end0
  refine ⟨⟨_, rfl⟩, ⟨.slice (some ⟨g, 0, none⟩) (l.length + 1) cap, ⟨?_, ?_, ?_, ?_, ?_⟩⟩, ?_⟩
  · rw [World.cell?_setCell_other _ _ _ _ (addr_ne (by omega))]; exact k1
  · rw [World.cell?_setCell_other _ _ _ _ (addr_ne (by omega))]; exact k2
  · exact World.cell?_setCell_same' _ _ _ (by rw [k3]; rfl)
  · rw [World.frozen?_setCell]; exact k4
  · have h := own_other hown (w' := w2.setCell ⟨b + 2, 0, none⟩ (.slice (some ⟨g, 0, none⟩) (l.length + 1) cap)) (fun k hk => Below.heap_setCell _ _ _ _ (show k ≠ b + 2 by omega))
    simpa [pieceS] using h
  · exact (((Below.refl b w).alloc (by omega) _).grown hgrow (by simp; omega) (fun k e => by have := own_block_ge own k e; omega)).setCell (p := ⟨b + 2, 0, none⟩) (show b ≤ b + 2 by omega) _

def partS (x y t : Int) (p u : ByteArray) : List ByteArray := if bits .and .i64 (bits .or .i64 x y) t = 0 then [] else [pieceS p u]
theorem put_any (b : Nat) (x y t : Int) (p u : ByteArray) (l : List ByteArray) (w : World) (h : ThreeAt b x y l w) (hp : p.size ≤ 1000) (hu : u.size ≤ 1000) (hl : l.length ≤ 1000) :
    Calls Tryd.prog 20 #[.int .i64 t, .string p, .string u, .pointer (some ⟨b, 0, none⟩), .pointer (some ⟨b + 1, 0, none⟩), .pointer (some ⟨b + 2, 0, none⟩)] w (PutsAt b x y (l ++ partS x y t p u) w) := by
  unfold partS
  by_cases hq : bits .and .i64 (bits .or .i64 x y) t = 0
  · rw [if_pos hq, List.append_nil]; exact put_no b x y t p u l w h hq
  · rw [if_neg hq]; exact put_yes b x y t p u l w h hq hp hu hl

theorem join_none (xs : List ByteArray) (sep : List UInt8) (h : xs.length = 0) : (⟨(Lib.join (xs.map (·.data.toList)) sep).toArray⟩ : ByteArray) = ⟨#[]⟩ := by
  obtain rfl : xs = [] := List.eq_nil_of_length_eq_zero h
  rfl
theorem joined_any (b : Nat) (x y : Int) (v : Value) (l : List ByteArray) (w : World) (h : Three b x y v l w) (hl : l.length ≤ 1000) (hlen : (Lib.join (l.map (·.data.toList)) [59, 32]).length ≤ 1000) :
    Calls Tryd.prog 23 #[v, .string ⟨#[59, 32]⟩] w fun e w' => e = .returned (.string ⟨(Lib.join (l.map (·.data.toList)) [59, 32]).toArray⟩) ∧ Below w.heap.size w w' := by
  by_cases h0 : l.length = 0
  · rw [join_none l _ h0]
    have hv : ∃ a c, v = .slice a 0 c := by
      rcases h.own.2 with ⟨rfl, _⟩ | ⟨g, cap, cur, rfl, _⟩
      · exact ⟨_, _, rfl⟩
      · rw [h0]; exact ⟨_, _, rfl⟩
    obtain ⟨a, c, rfl⟩ := hv
    refine (Tryd.strings_Join_none a c ⟨#[59, 32]⟩ w).mono ?_
    rintro e w' ⟨he, rfl⟩
    exact ⟨he, Below.refl _ _⟩
  · rcases h.own.2 with ⟨_, hz⟩ | ⟨g, cap, cur, rfl, hg, hc, hn, hcap, hsz, htk⟩
    · exact absurd hz h0
    · refine Tryd.strings_Join g 0 cap l ⟨#[59, 32]⟩ w ?_ (Array.getElem?_eq_some_iff.1 hc).1 (by omega) hn (by show (Lib.join (l.map (·.data.toList)) [59, 32]).length ≤ _; omega)
      intro j z hj
      rw [Nat.zero_add, cell_of_row w g j cur 9 (0, 0) hc]
      have hjl : j < l.length := (List.getElem?_eq_some_iff.1 hj).1
      have e1 : (cur.toList.take (l.length * 1))[j]? = some (.string z) := by rw [htk, List.getElem?_map, hj]; rfl
      rw [List.getElem?_take_of_lt (by omega), Array.getElem?_toList] at e1
      exact e1

end Go.Proofs.YthoinlapopongaaDoor
