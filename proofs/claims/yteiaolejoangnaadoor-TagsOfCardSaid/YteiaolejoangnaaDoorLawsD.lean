/-
  The walk of the statement of layer 2 on the tags of classes.
-/
import Derived.Test.YteiaolejoangnaaDoorWalksM
import Derived.Laws.AppendOwnNone
import Derived.Deep.DeepCutAuto
import Derived.OpenShut
namespace Go.Proofs.YteiaolejoangnaaDoor
open Go.RowKit

theorem ownsI_made (w : World) (B : Nat) (hB : B ≤ w.heap.size) : (w.alloc (.cells #[] 3)).ownsRow B 3 1 (.slice (some ⟨w.heap.size, 0, none⟩) 0 0) 0 [] :=
  World.ownsRow_made w #[] 0 hB (Nat.zero_le _) rfl

theorem i64s_one (l : List Int) : ∀ u ∈ i64s l, u.oneCell' = true := by
  intro u hu
  obtain ⟨_, _, rfl⟩ := List.mem_map.1 hu
  rfl

theorem news_at {w : World} {ad : Addr} {zs : List Int} (hin : ∀ j, j < zs.length → w.cell? (ad.add j) = some (.int .i64 (zs.getD j 0))) (o : Obj) : ∀ j u, (i64s zs)[j]? = some u → (w.alloc o).cell? (ad.add j) = some u := by
  intro j u hu
  have hj : j < zs.length := by
    have := (List.getElem?_eq_some_iff.1 hu).1
    simpa [i64s] using this
  have hc := hin j hj
  have e : u = .int .i64 (zs.getD j 0) := by
    unfold i64s at hu
    rw [List.getElem?_map, List.getElem?_eq_getElem hj, getDI hj] at *
    simpa using hu.symm
  rw [World.cell?_alloc_lt _ _ _ (block_lt_of_cell hc), hc, e]

theorem below_made {w w1 : World} {c : Array Value} {t : TypeId} {n : Nat} (hg : (w.alloc (.cells c t)).grownBy w1 (Value.slice (some ⟨w.heap.size, 0, none⟩) 0 n).ownBlock) : Below w.heap.size w w1 :=
  ((Below.refl _ _).alloc (Nat.le_refl _) _).grown hg (by simp) (fun j hj => by cases hj; exact Nat.le_refl _)

/-- What stands behind the copy of the classes. -/
def Copied (zs : List Int) (w : World) (v : Value) (w1 : World) : Prop := Owns w.heap.size v zs w1 ∧ Below w.heap.size w w1

set_option maxHeartbeats 4000000 in
theorem lawOf_rest (a : Option Addr) (cap : Nat) (zs : List Int) (w : World) (hT : OwnT w) (hin : IntsIn w a zs) (hl : zs.length ≤ 100)
    (hv : a = none ∧ cap = 0 ∧ zs = [] ∨ ∃ ad : Addr, a = some ad ∧ ∀ j, j < zs.length → w.cell? (ad.add j) = some (.int .i64 (zs.getD j 0))) :
    Calls Tryd.prog 6 #[.slice a zs.length cap] w fun e w' => e = .returned (.bool true) ∧ Below w.heap.size w w' := by
  obtain ⟨i0, hi, hz0, hz1, hz2⟩ := info_parts (infoI ())
  have hown0 := ownsI_made w w.heap.size (Nat.le_refl _)
  have hl' : zs.length ≤ 100000 := by omega
  go_enter Tryd.func6, Tryd.ntmps6
  go_upto_region 3 with fail
  go_cut [3] (fun v wx => Copied zs w v wx)
  case first =>
    rcases hv with ⟨rfl, rfl, rfl⟩ | ⟨ad, rfl, had⟩
    · go_wp2_with (at_builtin; refine wpList_append_own_none _ rfl _ _ 30 rfl w.heap.size 3 i0 1 Tryd.underlying30 hi _ _ _ rfl hown0 rfl ?_)
      go_meet
      exact ⟨hown0, (Below.refl _ _).alloc (Nat.le_refl _) _⟩
    · have hnews := news_at had (.cells #[] 3)
      go_wp2_with (at_builtin; refine wpList_append_own _ rfl _ _ 30 rfl w.heap.size 3 i0 (.int .i64 0) 1 8 Tryd.underlying30 hi hz0 hz1 hz2 rfl (by decide) _ _ _ rfl hown0 ad zs.length cap (i64s zs) rfl (by simp [i64s]) hnews (i64s_one zs) (by unfold maxLen; omega) (by omega) (by simp) ?_; intro v' w1 hown' hgrow _)
      go_meet
      exact ⟨by rw [Nat.zero_add, List.nil_append] at hown'; exact hown', below_made hgrow⟩
  case rest =>
    obtain ⟨hown, hb⟩ := hcut
    obtain ⟨a1, c1, rfl, hi1⟩ := hown.ints
    have hT := hT.in hb
    have hin := hin.below hb
    clear hown hown0 hv
    go_wp2_with (first
      | (go_at_call 22; (with_reducible refine (tags_any a1 c1 zs _ hi1 hl').mono ?_); rintro e w2 ⟨v2, rfl, hown2, hb1⟩; obtain ⟨a2, c2, rfl, hi2⟩ := hown2.ints; have hT := hT.in hb1; have hin := hin.below hb1; have hi1 := hi1.below hb1; have hb := hb.trans (hb1.mono hb.size); clear hown2)
      | (go_at_call 24; (with_reducible refine (rtags_any a cap zs _ hin hl').mono ?_); rintro e w3 ⟨v3, rfl, hown3, hb1⟩; obtain ⟨a3, c3, rfl, hi3⟩ := hown3.ints; have hT := hT.in hb1; have hin := hin.below hb1; have hi1 := hi1.below hb1; have hi2 := hi2.below hb1; have hb := hb.trans (hb1.mono hb.size); have ht17 := tagsL_len zs 17; clear hown3)
      | (go_at_call 23; (with_reducible refine (rsame_yes a2 a3 c2 c3 (tagsL zs 17) _ hi2 hi3 (by omega)).mono ?_); rintro e w4 ⟨rfl, hb1⟩; have hT := hT.in hb1; have hin := hin.below hb1; have hi1 := hi1.below hb1; have hb := hb.trans (hb1.mono hb.size))
      | (go_at_call 23; (with_reducible refine (rsame_yes a1 a c1 cap zs _ hi1 hin hl').mono ?_); rintro e w4 ⟨rfl, hb1⟩; have hT := hT.in hb1; have hb := hb.trans (hb1.mono hb.size))
      | (go_at_call 17; (with_reducible refine (awake_any _ hT).mono ?_); rintro e w5 ⟨rfl, hb1⟩; have hb := hb.trans (hb1.mono hb.size)))
    go_ret
    exact ⟨rfl, hb⟩

theorem lawOf_many (a : Option Addr) (n cap : Nat) (w : World) (hT : OwnT w) (hl : 100 < n) :
    Calls Tryd.prog 6 #[.slice a n cap] w fun e w' => e = .returned (.bool true) ∧ Below w.heap.size w w' := by
  go_enter Tryd.func6, Tryd.ntmps6
  go_wp2_with (go_at_call 17; (with_reducible refine (awake_any _ hT).mono ?_); rintro e w5 ⟨rfl, hb1⟩)
  go_ret
  exact ⟨rfl, hb1⟩

theorem lawOf_walk (a : Option Addr) (n cap : Nat) (zs : List Int) (w : World) (hT : OwnT w) (hn : n = zs.length)
    (hv : a = none ∧ cap = 0 ∧ zs = [] ∨ ∃ ad : Addr, a = some ad ∧ ∀ j, j < zs.length → w.cell? (ad.add j) = some (.int .i64 (zs.getD j 0))) :
    Calls Tryd.prog 6 #[.slice a n cap] w fun e w' => e = .returned (.bool true) ∧ Below w.heap.size w w' := by
  subst hn
  by_cases hl : 100 < zs.length
  · exact lawOf_many a _ cap w hT hl
  · refine lawOf_rest a cap zs w hT ?_ (by omega) hv
    rcases hv with ⟨_, _, rfl⟩ | ⟨ad, rfl, had⟩
    · exact fun j hj => absurd hj (Nat.not_lt_zero _)
    · intro j hj
      obtain ⟨b, off, rfl, hc⟩ := ints_at had (by omega)
      exact ⟨b, off, rfl, hc j hj⟩

end Go.Proofs.YteiaolejoangnaaDoor
