/-
  The chapter's tree: example; awake.
-/
import Derived.Test.YtggjoefhopoggaaDoorCCmp
import Derived.Test.YtggjoefhopoggaaDoorCGraftS

namespace Go.Proofs.YtggjoefhopoggaaDoor
open Go.RowKit Go.Lib

def sXY : ByteArray := ⟨#[120, 121]⟩
def tX : Pn := .mk 0 none 0 0 ⟨#[120, 121]⟩ none 0 0 [] []
def tA (b : Nat) : Pn := .mk 10 none 0 0 ⟨#[]⟩ (some ⟨b, 0, none⟩) 1 1 [] [tX]
def tP (b b' : Nat) : Pn := .mk 2 none 0 0 ⟨#[]⟩ (some ⟨b', 0, none⟩) 1 1 [] [tA b]
def tQ : Pn := .mk 2 none 0 0 ⟨#[]⟩ none 0 0 [] []
def exL : Sk := [some ⟨1, ⟨#[]⟩, -1, [1, 4], []⟩, some ⟨2, anewS ⟨#[]⟩, 0, [2], []⟩, some ⟨10, anewS ⟨#[]⟩, 1, [3], []⟩, some ⟨0, anewS ⟨#[120, 121]⟩, 2, [], []⟩, some ⟨2, anewS ⟨#[]⟩, 0, [], []⟩, none, none, none, none, none]
def exL1 : Sk := [some ⟨1, ⟨#[]⟩, -1, [1], []⟩, some ⟨2, anewS ⟨#[]⟩, 0, [2], []⟩, some ⟨10, anewS ⟨#[]⟩, 1, [3], []⟩, some ⟨0, anewS ⟨#[120, 121]⟩, 2, [], []⟩, none, none, none, none, none, none]
def exL0 : Sk := [some ⟨1, ⟨#[]⟩, -1, [], []⟩, none, none, none, none, none, none, none, none, none]

theorem ex_plant1 (b b' : Nat) : joinK (plantS (tP b b') exL0).2 0 0 (plantS (tP b b') exL0).1 = exL1 := by
  simp [tP, tA, tX, plantS, plantKids, exL0, exL1, ixSk, joinK, insZ]
theorem ex_num1 (b b' : Nat) : (plantS (tP b b') exL0).1 = 1 := by
  simp [tP, tA, tX, plantS, plantKids, exL0, ixSk]
theorem ex_plant2 : joinK (plantS tQ exL1).2 0 1 (plantS tQ exL1).1 = exL := by
  simp [tQ, plantS, plantKids, exL, exL1, ixSk, joinK, insZ]
theorem ex_num2 : (plantS tQ exL1).1 = 4 := by
  simp [tQ, plantS, exL1, ixSk]
theorem ex_good (b b' : Nat) : goodP (tP b b') = true := by kernel_rfl
theorem ex_slim (b b' : Nat) : slimP (tP b b') = true := by kernel_rfl
theorem ex_short (b b' : Nat) : shortP (tP b b') = true := by kernel_rfl
theorem ex_high (b b' : Nat) : hP (tP b b') = 2 := by kernel_rfl
theorem ex_size (b b' : Nat) : sizeP (tP b b') = 3 := by kernel_rfl
theorem ex2_good : goodP tQ = true := by kernel_rfl
theorem ex2_slim : slimP tQ = true := by kernel_rfl
theorem ex2_short : shortP tQ = true := by kernel_rfl
theorem ex2_high : hP tQ = 0 := by kernel_rfl
theorem ex2_size : sizeP tQ = 1 := by kernel_rfl
theorem ex_cmp1 : cmpS exL 41 (3, 1) (1, 1) = (-1, true) := by decide +kernel
theorem ex_cmp2 : cmpS exL 41 (0, 1) (3, 2) = (1, true) := by decide +kernel
theorem ex_find : findS exL 0 [0, 0, 0] = some 3 := by decide +kernel
theorem ex_next3 : nextS exL 41 41 3 = 4 := by decide +kernel
theorem ex_next4 : nextS exL 41 41 4 = -1 := by decide +kernel
theorem ex_prev4 : prevS exL 41 4 = 3 := by decide +kernel
theorem ex_behind1 : behindS exL 41 1 = 4 := by decide +kernel
theorem count_sk (l : List (Option Nd)) : countF l = ((sk l).filter (·.isSome)).length := by
  unfold countF sk
  rw [List.filter_map, List.length_map]
  congr 2
  funext o
  cases o <;> rfl

theorem full_ka {B : Nat} {w : World} {p nb : Nat} {deep : Int} {l : List (Option Nd)} (h : Full B w p nb deep l) : ∀ id x, ndAt l id = some x → x.ka = none → x.kids = [] := fun id x hx e => by
  obtain ⟨_, hk⟩ := ndAt_some hx
  rcases (h.own _ x hk).2 with ⟨_, h0⟩ | ⟨g, cap, cur, e2, _⟩
  · exact List.eq_nil_of_length_eq_zero h0
  · unfold Nd.ks at e2
    rw [e] at e2
    have := (Value.slice.inj e2).1
    cases this
theorem full_tv {B : Nat} {w : World} {p nb : Nat} {deep : Int} {l : List (Option Nd)} (h : Full B w p nb deep l) : Tv w (.pointer (some ⟨p, 0, none⟩)) (sk l) :=
  .inr ⟨p, nb, deep, l, rfl, rfl, h.ln, h.t, full_ka h⟩
theorem exL_short : ShortS exL := by
  have h1 : ∀ o ∈ exL, ((o.map Sn.tx).getD (⟨#[]⟩ : ByteArray)).size ≤ 8192 := by decide +kernel
  intro id
  unfold toldS ndS
  split
  · cases e : exL[id.toNat]? with
    | none => decide
    | some o => exact h1 o (List.mem_of_getElem? e)
  · decide
theorem far_at {nb : Nat} {l : List (Option Nd)} {w : World} {b b' : Nat} (hb : b < w.heap.size) (hb' : b' < w.heap.size) (hn : b ≠ nb) (hn' : b' ≠ nb) (ht : ¬ TB l b) (ht' : ¬ TB l b')
    (c0 : w.cell? ⟨b, 0, none⟩ = some (.int .i64 0)) (c1 : w.cell? ⟨b, 1, none⟩ = some (.slice none 0 0)) (c2 : w.cell? ⟨b, 2, none⟩ = some (.string ⟨#[120, 121]⟩)) (c3 : w.cell? ⟨b, 3, none⟩ = some (.slice none 0 0))
    (d0 : w.cell? ⟨b', 0, none⟩ = some (.int .i64 10)) (d1 : w.cell? ⟨b', 1, none⟩ = some (.slice none 0 0)) (d2 : w.cell? ⟨b', 2, none⟩ = some (.string ⟨#[]⟩)) (d3 : w.cell? ⟨b', 3, none⟩ = some (.slice (some ⟨b, 0, none⟩) 1 1)) : FarP nb l w (tP b b') := fun la wr hA => by
  have e := hA.sd b hb hn ht
  have e' := hA.sd b' hb' hn' ht'
  have row : ∀ W : World, RowAt W (.slice none 0 0) [] := fun W => .inl ⟨none, 0, rfl, fun _ => rfl, rfl⟩
  have sz : SizedR [] := fun a ha => by cases ha
  have kX : PlAt wr tX := .mk (row _) sz (by decide) rfl (by decide) (.inl rfl) (fun s hs => by cases hs)
  have kA : PlAt wr (tA b) := .mk (row _) sz (show (⟨#[]⟩ : ByteArray).size ≤ 140737488355328 by decide) rfl (show 1 ≤ maxLen by decide) (.inr ⟨b, 0, rfl, Nat.lt_of_lt_of_le hb hA.sz, fun j t hj => by
    match j, hj with
    | 0, hj =>
      obtain rfl : tX = t := by simpa [tA, Pn.kids] using hj
      exact ⟨(World.cell?_of_block e).trans c0, (World.cell?_of_block e).trans c1, (World.cell?_of_block e).trans c2, (World.cell?_of_block e).trans c3⟩⟩) (fun s hs => (show s = tX by simpa [tA, Pn.kids] using hs) ▸ kX)
  exact .mk (row _) sz (show (⟨#[]⟩ : ByteArray).size ≤ 140737488355328 by decide) rfl (show 1 ≤ maxLen by decide) (.inr ⟨b', 0, rfl, Nat.lt_of_lt_of_le hb' hA.sz, fun j t hj => by
    match j, hj with
    | 0, hj =>
      obtain rfl : tA b = t := by simpa [tP, Pn.kids] using hj
      exact ⟨(World.cell?_of_block e').trans d0, (World.cell?_of_block e').trans d1, (World.cell?_of_block e').trans d2, (World.cell?_of_block e').trans d3⟩⟩) (fun s hs => (show s = tA b by simpa [tP, Pn.kids] using hs) ▸ kA)
theorem far_q (nb : Nat) (l : List (Option Nd)) (w : World) : FarP nb l w tQ := fun la wr _ =>
  .mk (.inl ⟨none, 0, rfl, fun _ => rfl, rfl⟩) (fun a ha => by cases ha) (by decide) rfl (by decide) (.inl rfl) (fun s hs => by cases hs)
theorem depth0 {l : List (Option Nd)} {i : Nat} {x : Nd} (hi : l[i]? = some (some x)) (hu : x.up = -1) : depthF l 41 (i : Int) = 0 := by
  have hn : depthF l 40 (-1) = -1 := by rw [depthF, (nd_none (id := -1) (by rfl)).1, if_neg (by decide)]
  rw [depthF, (nd_some hi).1, if_pos rfl, (nd_some hi).2, hu, hn]
  rfl

end Go.Proofs.YtggjoefhopoggaaDoor
