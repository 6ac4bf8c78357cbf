/-
  The contracts of Go's Clone and Concat at rows of attributes; of the program's Put and Drop.
-/
import Derived.Test.YtcccaaleekednaaDoorWalksD
import Derived.Laws.AppendOwnNone
import Derived.OwnWalk
namespace Go.Proofs.YtcccaaleekednaaDoor
open Go.RowKit Go.Lib

theorem Cells.addF {w : World} {b o : Nat} {l : Row} (h : Cells w b o l) : ∀ j u, (cellsR l)[j]? = some u → w.cell? ((⟨b, o, none⟩ : Addr).add j) = some u := by
  intro j u hu
  rw [Addr.add_lit]
  exact h.flat j u hu
theorem below_grown {w wr w' : World} {B e size n : Nat} {v : Value} {xs : List Value} (hb : Below B w wr) (hB : B ≤ wr.heap.size) (hown : wr.ownsRow B e size v n xs) (hg : wr.grownBy w' v.ownBlock) : Below B w w' :=
  hb.grown hg hB (fun j hj => (hown.lt j hj).1)

/-- A row of its own. -/
def OwnPost (l : Row) (w : World) (e : Ending) (w' : World) : Prop := ∃ v, e = .returned v ∧ w'.ownsRow w.heap.size 32 2 v l.length (cellsR l) ∧ Below w.heap.size w w'

set_option maxHeartbeats 1000000 in
theorem clone_zero (a : Addr) (c : Nat) (w : World) :
    Calls Tryd.prog 42 #[.slice (some a) 0 c] w (OwnPost [] w) := by
  obtain ⟨i0, hi, hz0, hz1, hz2⟩ := info_parts infoAttr
  have q22 : ∀ (w : World) (a : Option Addr) (n c n' c' : Nat), (binOp .eql 25 (.slice a n c) (.slice none n' c')).run Tryd.prog w = .ok (.bool a.isNone) w := fun w a n c n' c' => Lib.run_eql_slice_nil w _ _ a n c n' c' Tryd.underlying25
  go_enter Tryd.func42, Tryd.ntmps42
  go_wp2_with (at_builtin; refine wpList_append_own _ rfl _ _ 25 rfl w.heap.size 32 i0 _ 2 32 Tryd.underlying25 hi hz0 hz1 hz2 rfl (by decide) _ _ _ rfl (World.ownsRow_made w #[] 0 (Nat.le_refl _) (Nat.zero_le _) (by simp)) a 0 c [] rfl (by simp) (by simp) (by simp) (by unfold maxLen; omega) (by omega) (by simp) ?_; intro v' w1 hown' hgrow _)
  go_ret
  exact ⟨_, rfl, hown', ((Below.refl _ w).alloc (Nat.le_refl _) _).grown hgrow (by simp) (fun j hj => by cases hj; exact Nat.le_refl _)⟩

theorem clone_any (v : Value) (l : Row) (w : World) (hv : RowAt w v l) (hl : l.length ≤ 100000) :
    Calls Tryd.prog 42 #[v] w (OwnPost l w) := by
  rcases hv with ⟨a, c, rfl, _, rfl⟩ | ⟨b, o, c, rfl, hlc, hcm, hb, hc⟩
  · cases a with
    | none =>
      refine (AnyE.slices_Clone_nil Tryd.laysClone 0 c w).mono ?_
      rintro e w' ⟨rfl, rfl⟩
      exact ⟨_, rfl, World.ownsRow_nil _ _ _ _, Below.refl _ _⟩
    | some a => exact clone_zero a c w
  · obtain ⟨i0, hi, hz0, hz1, hz2⟩ := info_parts infoAttr
    refine (AnyE.slices_Clone Tryd.laysClone i0 _ 2 32 hi hz0 hz1 hz2 rfl (by decide) Tryd.sizeOf32 b o l.length c (cellsR l) w (cellsR_length l) (by unfold maxLen; omega) (by omega) hc.flat (cellsR_one l)).mono ?_
    rintro e w' ⟨v', rfl, hown, _, hbw⟩
    exact ⟨v', rfl, hown, hbw⟩

theorem grow_any (n : Nat) (w : World) (hn : n ≤ 200000) :
    Calls Tryd.prog 55 #[.slice none 0 0, .int .i64 n] w (OwnPost [] w) := by
  by_cases h0 : n = 0
  · subst h0
    refine (Any8.slices_Grow_room Tryd.laysGrow none 0 0 0 w (by omega) (by omega) (by omega) (by omega)).mono ?_
    rintro e w' ⟨rfl, rfl⟩
    exact ⟨_, rfl, World.ownsRow_nil _ _ _ _, Below.refl _ _⟩
  · obtain ⟨i0, hi, hz0, hz1, hz2⟩ := info_parts infoAttr
    refine (Any8.slices_Grow_grow Tryd.laysGrow i0 _ hi hz0 (by rw [hz1]; decide) none 0 0 n [] w (by omega) (by omega) (by rw [hz2]; omega) (by omega) (by simp) (fun _ => rfl) (fun a h => by cases h)).mono ?_
    rintro e w' ⟨rfl, rfl⟩
    have h1 := grownCap_ge w (0 + n) 0 32
    have h2 := grownCap_le_maxLen w (0 + n) 0 32 (by unfold maxLen; omega)
    refine ⟨_, rfl, World.ownsRow_made w.drew _ _ (Nat.le_refl _) h2 ?_, ((Below.refl _ w).drew).alloc (Nat.le_refl _) _⟩
    rw [Array.size_append, Array.size_append, size_zeroCells, size_zeroCells]
    show 0 + (0 + n - 0) * 2 + (grownCap w (0 + n) 0 32 - (0 + n)) * 2 = grownCap w (0 + n) 0 32 * 2
    omega

theorem own_app {w : World} {B : Nat} {v : Value} {l m : Row} {n k : Nat} (h : w.ownsRow B 32 2 v (n + k) (cellsR l ++ cellsR m)) (hn : l.length = n) (hk : m.length = k) : w.ownsRow B 32 2 v (l ++ m).length (cellsR (l ++ m)) := by
  subst hn hk
  rw [List.length_append, cellsR_append]
  exact h

set_option maxHeartbeats 8000000 in
/-- Two rows, one behind the other. -/
theorem concat_any (g : Nat) (v1 v2 : Value) (l1 l2 : Row) (w : World) (h1 : RowAt w v1 l1) (h2 : RowAt w v2 l2) (hl1 : l1.length ≤ 100000) (hl2 : l2.length ≤ 100000) (hg : g < w.heap.size)
    (hg1 : w.cell? ⟨g, 0, none⟩ = some v1) (hg2 : w.cell? ⟨g, 1, none⟩ = some v2) :
    Calls Tryd.prog 41 #[.slice (some ⟨g, 0, none⟩) 2 2] w (OwnPost (l1 ++ l2) w) := by
  obtain ⟨i0, hi, hz0, hz1, hz2⟩ := info_parts infoAttr
  obtain ⟨a1, c1, e1⟩ := h1.len
  obtain ⟨a2, c2, e2⟩ := h2.len
  obtain ⟨n1, hn1⟩ : ∃ n1, l1.length = n1 := ⟨_, rfl⟩
  obtain ⟨n2, hn2⟩ : ∃ n2, l2.length = n2 := ⟨_, rfl⟩
  have H1 := Lib.hid h1
  have H2 := Lib.hid h2
  clear h1 h2
  subst e1 e2
  rw [hn1] at hg1 hl1
  rw [hn2] at hg2 hl2
  have N1 := Lib.hid hn1
  have N2 := Lib.hid hn2
  clear hn1 hn2
  have cG := grow_any (n1 + n2) w (by omega)
  rw [Int.natCast_add] at cG
  go_enter Tryd.func41, Tryd.ntmps41
  go_wp2
  go_loop [3, 5, 11] (fun s v5 i => ∃ (k n : Nat), i = .int .i64 k ∧ s = .int .i64 n ∧ Hid ((k = 0 ∧ 0 = n) ∨ (k = 1 ∧ n1 = n) ∨ (k = 2 ∧ n1 + n2 = n))) (fun _ _ i => 2 - (intOf i).toNat)
  case atStart => exact ⟨0, 0, rfl, rfl, Lib.hid (.inl ⟨rfl, rfl⟩)⟩
  case round =>
    obtain ⟨k, n, rfl, rfl, hk⟩ := hrel
    rcases hk.out with ⟨rfl, rfl⟩ | ⟨rfl, rfl⟩ | ⟨rfl, rfl⟩
    · clear hk
      go_wp2
      go_round
      case rel => exact ⟨1, n1, rfl, by go_num, Lib.hid (.inr (.inl ⟨rfl, rfl⟩))⟩
      case measure => simp [intOf]
    · clear hk
      go_wp2
      go_round
      case rel => exact ⟨2, n1 + n2, rfl, by go_num, Lib.hid (.inr (.inr ⟨rfl, rfl⟩))⟩
      case measure => simp [intOf]
    · clear hk
      go_wp2_with (go_at_call 55; ((with_reducible refine cG.mono ?_); rintro e w1 ⟨v0, rfl, hown0, hb0⟩))
      have hz := hb0.size
      have G1 : w1.cell? ⟨g, 0, none⟩ = some (.slice a1 n1 c1) := (hb0.cell (p := ⟨g, 0, none⟩) hg).trans hg1
      have G2 : w1.cell? ⟨g, 1, none⟩ = some (.slice a2 n2 c2) := (hb0.cell (p := ⟨g, 1, none⟩) hg).trans hg2
      clear cG hg1 hg2
      go_loopw [6, 8, 27] (fun v s8 i wr => ∃ (k : Nat) (l : Row), i = .int .i64 k ∧ Hid ((k = 0 ∧ [] = l) ∨ (k = 1 ∧ l1 = l) ∨ (k = 2 ∧ l1 ++ l2 = l)) ∧ wr.ownsRow w.heap.size 32 2 v l.length (cellsR l) ∧ Below w.heap.size w wr) (fun _ _ i _ => 2 - (intOf i).toNat)
      case atStart => exact ⟨0, [], rfl, Lib.hid (.inl ⟨rfl, rfl⟩), hown0, hb0⟩
      case round =>
        obtain ⟨k, l, rfl, hk, hown, hb⟩ := hrel
        have hsz := hb.size
        rcases hk.out with ⟨rfl, rfl⟩ | ⟨rfl, rfl⟩ | ⟨rfl, rfl⟩
        · clear hk
          have G3 : wr.cell? ⟨g, 0, none⟩ = some (.slice a1 n1 c1) := (hb.cell (p := ⟨g, 0, none⟩) hg).trans ((hb0.cell (p := ⟨g, 0, none⟩) hg).symm.trans G1)
          rcases (H1.out.below hb) with ⟨a, c, e, hac, e2⟩ | ⟨b, o, c, e, hlc, hcm, hbb, hcs⟩
          · have hn0 := N1.out
            rw [e2] at hn0
            obtain ⟨rfl, _, rfl⟩ := Value.slice.inj e
            have hm0 := Lib.hid (show (0 : Nat) = n1 from hn0)
            have E2 := Lib.hid e2
            clear hn0 e e2
            cases hca : a1 with
            | none =>
              subst hca
              have hc0 := hac rfl
              subst hc0
              clear hac
              go_wp2_with (at_builtin; refine wpList_append_own_none rfl _ _ 25 rfl w.heap.size 32 i0 2 Tryd.underlying25 hi _ _ _ rfl hown (by show Value.slice none n1 0 = Value.slice none 0 0; rw [← hm0.out]) ?_)
              go_roundw
              case rel => exact ⟨1, _, by go_num, Lib.hid (.inr (.inl ⟨rfl, E2.out⟩)), hown, hb⟩
              case measure => simp [intOf]
            | some ad =>
              subst hca
              clear hac
              go_wp2_with (at_builtin; refine wpList_append_own _ rfl _ _ 25 rfl w.heap.size 32 i0 _ 2 32 Tryd.underlying25 hi hz0 hz1 hz2 rfl (by decide) _ _ _ rfl hown ad n1 _ [] rfl (by rw [← hm0.out]; rfl) (by simp) (by simp) (by have h1 := N1.out; have h2 := N2.out; unfold maxLen; first | omega | (simp; omega)) (by have h1 := N1.out; have h2 := N2.out; first | omega | (simp; omega)) hsz ?_; intro v' w2 hown' hgrow _)
              go_roundw
              case rel => exact ⟨1, _, by go_num, Lib.hid (.inr (.inl ⟨rfl, E2.out⟩)), (by have h := hown'; rw [← hm0.out, List.append_nil] at h; exact h), below_grown hb hsz hown hgrow⟩
              case measure => simp [intOf]
          · obtain ⟨rfl, _, rfl⟩ := Value.slice.inj e
            have hln := N1.out
            have LN := Lib.hid hln
            clear hln e
            go_wp2_with (at_builtin; refine wpList_append_own _ rfl _ _ 25 rfl w.heap.size 32 i0 _ 2 32 Tryd.underlying25 hi hz0 hz1 hz2 rfl (by decide) _ _ _ rfl hown ⟨b, o, none⟩ n1 _ (cellsR l1) rfl (by rw [cellsR_length, LN.out]) hcs.addF (cellsR_one l1) (by have h1 := N1.out; have h2 := N2.out; unfold maxLen; first | omega | (simp; omega)) (by have h1 := N1.out; have h2 := N2.out; first | omega | (simp; omega)) hsz ?_; intro v' w2 hown' hgrow _)
            go_roundw
            case rel => exact ⟨1, _, by go_num, Lib.hid (.inr (.inl ⟨rfl, by simp⟩)), own_app hown' rfl LN.out, below_grown hb hsz hown hgrow⟩
            case measure => simp [intOf]
        · clear hk
          have G3 : wr.cell? ⟨g, 1, none⟩ = some (.slice a2 n2 c2) := (hb.cell (p := ⟨g, 1, none⟩) hg).trans ((hb0.cell (p := ⟨g, 1, none⟩) hg).symm.trans G2)
          rcases (H2.out.below hb) with ⟨a, c, e, hac, e2⟩ | ⟨b, o, c, e, hlc, hcm, hbb, hcs⟩
          · have hn0 := N2.out
            rw [e2] at hn0
            obtain ⟨rfl, _, rfl⟩ := Value.slice.inj e
            have hm0 := Lib.hid (show (0 : Nat) = n2 from hn0)
            have E2 := Lib.hid e2
            clear hn0 e e2
            cases hca : a2 with
            | none =>
              subst hca
              have hc0 := hac rfl
              subst hc0
              clear hac
              go_wp2_with (at_builtin; refine wpList_append_own_none rfl _ _ 25 rfl w.heap.size 32 i0 2 Tryd.underlying25 hi _ _ _ rfl hown (by show Value.slice none n2 0 = Value.slice none 0 0; rw [← hm0.out]) ?_)
              go_roundw
              case rel => exact ⟨2, _, by go_num, Lib.hid (.inr (.inr ⟨rfl, by rw [E2.out, List.append_nil]⟩)), hown, hb⟩
              case measure => simp [intOf]
            | some ad =>
              subst hca
              clear hac
              go_wp2_with (at_builtin; refine wpList_append_own _ rfl _ _ 25 rfl w.heap.size 32 i0 _ 2 32 Tryd.underlying25 hi hz0 hz1 hz2 rfl (by decide) _ _ _ rfl hown ad n2 _ [] rfl (by rw [← hm0.out]; rfl) (by simp) (by simp) (by have h1 := N1.out; have h2 := N2.out; unfold maxLen; first | omega | (simp; omega)) (by have h1 := N1.out; have h2 := N2.out; first | omega | (simp; omega)) hsz ?_; intro v' w2 hown' hgrow _)
              go_roundw
              case rel => exact ⟨2, _, by go_num, Lib.hid (.inr (.inr ⟨rfl, by rw [E2.out, List.append_nil]⟩)), (by have h := hown'; rw [← hm0.out, List.append_nil] at h; exact h), below_grown hb hsz hown hgrow⟩
              case measure => simp [intOf]
          · obtain ⟨rfl, _, rfl⟩ := Value.slice.inj e
            have hln := N2.out
            have LN := Lib.hid hln
            clear hln e
            go_wp2_with (at_builtin; refine wpList_append_own _ rfl _ _ 25 rfl w.heap.size 32 i0 _ 2 32 Tryd.underlying25 hi hz0 hz1 hz2 rfl (by decide) _ _ _ rfl hown ⟨b, o, none⟩ n2 _ (cellsR l2) rfl (by rw [cellsR_length, LN.out]) hcs.addF (cellsR_one l2) (by have h1 := N1.out; have h2 := N2.out; unfold maxLen; first | omega | (simp; omega)) (by have h1 := N1.out; have h2 := N2.out; first | omega | (simp; omega)) hsz ?_; intro v' w2 hown' hgrow _)
            go_roundw
            case rel => exact ⟨2, _, by go_num, Lib.hid (.inr (.inr ⟨rfl, by simp⟩)), own_app hown' rfl LN.out, below_grown hb hsz hown hgrow⟩
            case measure => simp [intOf]
        · clear hk
          go_wp2
          go_ret
          exact ⟨_, rfl, hown, hb⟩

end Go.Proofs.YtcccaaleekednaaDoor
