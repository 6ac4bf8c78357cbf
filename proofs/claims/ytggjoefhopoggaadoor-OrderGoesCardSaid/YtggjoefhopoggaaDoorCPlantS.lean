/-
  plant, exactly: the tree behind it, its blocks left out, with the numbers of the new nodes. Written by gen_plants.py.
-/
import Derived.Test.YtggjoefhopoggaaDoorCPlant
import Derived.Test.YtggjoefhopoggaaDoorCOff
import Derived.Test.YtggjoefhopoggaaDoorCRead

namespace Go.Proofs.YtggjoefhopoggaaDoor
open Go.RowKit Go.Lib

def ixSk : Sk → Nat → Int
  | [], _ => -1
  | none :: _, i => i
  | some _ :: l, i => ixSk l (i + 1)
theorem sk_ix : ∀ (l : List (Option Nd)) (i : Nat), ixN l i = ixSk (sk l) i
  | [], _ => rfl
  | none :: _, _ => rfl
  | some _ :: l, i => sk_ix l (i + 1)
def joinK (L : Sk) (i a j : Nat) : Sk := match L[i]?, L[j]? with
  | some (some x), some (some y) => (L.set i (some { x with kids := insZ x.kids a j })).set j (some { y with up := i })
  | _, _ => L
theorem sk_set (l : List (Option Nd)) (i : Nat) (x : Nd) : sk (l.set i (some x)) = (sk l).set i (some x.sn) := by unfold sk; rw [List.map_set]; rfl
theorem sk_joined {l : List (Option Nd)} {i j : Nat} {x y : Nd} (hi : l[i]? = some (some x)) (hj : l[j]? = some (some y)) (a : Nat) (ka : Option Addr) (kc : Nat) : sk (joinedZ l i x a j y ka kc) = joinK (sk l) i a j := by
  unfold joinedZ joinK
  rw [sk_set, sk_set, sk_of hi, sk_of hj]
  rfl
mutual
/-- The number of the new node, the tree then. -/
def plantS : Pn → Sk → Nat × Sk
  | .mk tag _ _ _ tx _ _ _ ats kids, L => ((ixSk L 0).toNat, plantKids (ixSk L 0).toNat 0 kids (L.set (ixSk L 0).toNat (some ⟨tag, anewS tx, -1, [], ats⟩)))
def plantKids (k : Nat) : Nat → List Pn → Sk → Sk
  | _, [], L => L
  | a, s :: ss, L => plantKids k (a + 1) ss (joinK (plantS s L).2 k a (plantS s L).1)
end
theorem plantKids_snoc (k : Nat) (s : Pn) : ∀ (l : List Pn) (b : Nat) (L : Sk), plantKids k b (l ++ [s]) L = joinK (plantS s (plantKids k b l L)).2 k (b + l.length) (plantS s (plantKids k b l L)).1
  | [], b, L => by
    rw [List.nil_append, plantKids, plantKids, plantKids]
    rfl
  | x :: l, b, L => by
    rw [List.cons_append, plantKids, plantKids_snoc k s l (b + 1) _, plantKids, List.length_cons, show b + 1 + l.length = b + (l.length + 1) by omega]
theorem plantS_eq (t : Pn) (L : Sk) : plantS t L = ((ixSk L 0).toNat, plantKids (ixSk L 0).toNat 0 t.kids (L.set (ixSk L 0).toNat (some ⟨t.tag, anewS t.tx, -1, [], t.ats⟩))) := by
  cases t
  rw [plantS]
  rfl
/-- a of the kids stand. -/
def sowK (t : Pn) (id a : Nat) (L : Sk) : Sk := plantKids id 0 (t.kids.take a) (L.set id (some ⟨t.tag, anewS t.tx, -1, [], t.ats⟩))
theorem sowK_succ {t s : Pn} {id a : Nat} (L : Sk) (hs : t.kids[a]? = some s) : sowK t id (a + 1) L = joinK (plantS s (sowK t id a L)).2 id a (plantS s (sowK t id a L)).1 := by
  unfold sowK
  have hal := (List.getElem?_eq_some_iff.1 hs).1
  rw [List.take_add_one, hs, Option.toList_some, plantKids_snoc, Nat.zero_add, List.length_take, Nat.min_eq_left (by omega)]
/-- The tree's blocks among those that were there are those that were its; no other block has turned. -/
structure Asd (nb : Nat) (l l' : List (Option Nd)) (w w' : World) : Prop where
  sz : w.heap.size ≤ w'.heap.size
  tb : ∀ q, q < w.heap.size → TB l' q → TB l q
  sd : ∀ q, q < w.heap.size → q ≠ nb → ¬ TB l q → w'.heap[q]? = w.heap[q]?
theorem Asd.trans {nb : Nat} {l l1 l2 : List (Option Nd)} {w w1 w2 : World} (h : Asd nb l l1 w w1) (k : Asd nb l1 l2 w1 w2) : Asd nb l l2 w w2 :=
  ⟨Nat.le_trans h.sz k.sz, fun q hq ht => h.tb q hq (k.tb q (Nat.lt_of_lt_of_le hq h.sz) ht), fun q hq hn ht => (k.sd q (Nat.lt_of_lt_of_le hq h.sz) hn (fun h1 => ht (h.tb q hq h1))).trans (h.sd q hq hn ht)⟩
theorem Asd.below {nb : Nat} {l : List (Option Nd)} {w w' : World} (h : Below w.heap.size w w') : Asd nb l l w w' := ⟨h.size, fun _ _ h => h, fun q hq _ _ => h.block q hq⟩
theorem Asd.add {nb k b : Nat} {l : List (Option Nd)} {w w' : World} {tag : Int} {aa : Option Addr} {an ac : Nat} {tx : ByteArray} {ats : List (ByteArray × ByteArray)} (hb : w.heap.size ≤ b) (h : But nb w w') : Asd nb l (l.set k (some (ndF b tag aa an ac tx ats))) w w' := by
  refine ⟨h.size, fun q hq ⟨i, x, hi, hx⟩ => ?_, fun q hq hn _ => h.block q hq hn⟩
  rcases set_get hi with ⟨_, e⟩ | ⟨_, hi⟩
  · obtain rfl := Option.some.inj e
    rcases hx with hx | hx
    · have : b = q := hx
      omega
    · cases hx
  · exact ⟨i, x, hi, hx⟩
theorem Asd.join {nb i j a : Nat} {l : List (Option Nd)} {w w' : World} {x y : Nd} {ka : Option Addr} {kc : Nat} (hi : l[i]? = some (some x)) (hj : l[j]? = some (some y)) (hsz : w.heap.size ≤ w'.heap.size)
    (h3 : (Value.slice ka (insZ x.kids a j).length kc).ownBlock = x.ks.ownBlock ∨ ∀ b, (Value.slice ka (insZ x.kids a j).length kc).ownBlock = some b → w.heap.size ≤ b) (h4 : ∀ q, q < w.heap.size → x.ks.ownBlock ≠ some q → q ≠ x.ab → q ≠ y.ab → w'.heap[q]? = w.heap[q]?) : Asd nb l (joinedZ l i x a j y ka kc) w w' :=
  ⟨hsz, TB.joined hi hj h3, fun q hq _ ht => h4 q hq (fun e => ht ⟨i, x, hi, .inr e⟩) (fun e => ht ⟨i, x, hi, .inl e.symm⟩) (fun e => ht ⟨j, y, hj, .inl e.symm⟩)⟩
/-- A plain tree that lies aside, whatever is done to the tree. -/
def FarP (nb : Nat) (l : List (Option Nd)) (w : World) (t : Pn) : Prop := ∀ la wr, Asd nb l la w wr → PlAt wr t
/-- As Planted; and the tree, exactly. -/
def PlantedK (B : Nat) (p nb : Nat) (deep : Int) (l : List (Option Nd)) (c : Nat) (hi : Int) (T : Nat × Sk) (w : World) (e : Ending) (w' : World) : Prop :=
  ∃ (id : Nat) (l' : List (Option Nd)) (x : Nd), e = .returned (.int .i64 id) ∧ Below B w w' ∧ Full B w' p nb deep l' ∧ Inv deep l' ∧ Grows l l' ∧ l[id]? = some none ∧ l'[id]? = some (some x) ∧ x.up = -1 ∧ countF l' = countF l + c ∧ heightF l' 41 (id : Int) ≤ hi ∧ (id, sk l') = T ∧ Asd nb l l' w w'
structure SownK (B : Nat) (p nb : Nat) (deep : Int) (l : List (Option Nd)) (t : Pn) (id : Nat) (a : Nat) (w wr : World) (la : List (Option Nd)) (x : Nd) : Prop where
  s : Sown B p nb deep l t id a w wr la x
  eq : sk la = sowK t id a (sk l)
  ix : ixN l 0 = (id : Int)
  asd : Asd nb l la w wr
section
variable {B p nb : Nat} {deep : Int} {l la : List (Option Nd)} {t s : Pn} {id a : Nat} {w wr w1 w2 : World} {x : Nd}
theorem SownK.start (hI : Inv deep l) (hd : 0 ≤ deep) (hb : Below B w wr) {k : Nat} (hk : ixN l 0 = (k : Int)) {b : Nat} {aa : Option Addr} {an ac : Nat} (hats : t.ats.length ≤ 10000) (htx : (anewS t.tx).size ≤ 8192) {S : ByteArray} (hS : anewS t.tx = S) (hF : Full B wr p nb deep (l.set k (some (ndF b t.tag aa an ac S t.ats)))) (hasd : Asd nb l (l.set k (some (ndF b t.tag aa an ac S t.ats))) w wr) :
    SownK B p nb deep l t k 0 w wr (l.set k (some (ndF b t.tag aa an ac S t.ats))) (ndF b t.tag aa an ac S t.ats) := by
  refine ⟨Sown.start hI hd hb hk ⟨hats, hS ▸ htx⟩ hF, ?_, hk, hasd⟩
  rw [sk_set, ← hS]
  unfold sowK
  rw [List.take_zero, plantKids]
  rfl
theorem SownK.step (h : SownK B p nb deep l t id a w wr la x) (hd : deep ≤ 40) (ht : hP t ≤ deep) (hs : t.kids[a]? = some s) (htag : t.tag ≠ 0) {j : Nat} {y : Nd} {l2 : List (Option Nd)} (hI2 : Inv deep l2) (hg : Grows la l2) (hfree : la[j]? = some none) (hj : l2[j]? = some (some y)) (hu : y.up = -1) (hc : countF l2 = countF la + sizeP s) (hh : heightF l2 41 (j : Int) ≤ hP s) (hsk : (j, sk l2) = plantS s (sk la)) (ka : Option Addr) (kc : Nat) (hb : Below B w w2) (hF : Full B w2 p nb deep (joinedZ l2 id x a j y ka kc)) (hasd : Asd nb la (joinedZ l2 id x a j y ka kc) wr w2) :
    ∃ l3 x3, SownK B p nb deep l t id (a + 1) w w2 l3 x3 := by
  have hij : id ≠ j := fun e => by have := h.s.at_; rw [e, hfree] at this; cases this
  have hi := hg.old id x h.s.at_
  have hx0 := h.s.inv.host
  obtain ⟨x0, hx0, _, _⟩ := hx0
  have hj0 : j ≠ 0 := fun e => by rw [e, hx0] at hfree; cases hfree
  have hm := hPs_mem t.kids s (List.mem_of_getElem? hs)
  rw [← hP_eq] at hm
  have hlj : l[j]? = some none := by
    have hjl : j < l.length := by rw [← h.s.gr.len]; exact (List.getElem?_eq_some_iff.1 hfree).1
    cases e : l[j] with
    | none => rw [List.getElem?_eq_getElem hjl, e]
    | some z =>
      have := h.s.gr.old j z (by rw [List.getElem?_eq_getElem hjl, e])
      rw [this] at hfree; cases hfree
  have hroot : rootF l2 41 (id : Int) = (id : Int) := Inv.rootN hi h.s.up
  have hdep : depthF l2 41 (id : Int) = 0 := by
    have hn : depthF l2 40 (-1) = -1 := by
      rw [depthF, (nd_none (id := -1) (by rfl)).1, if_neg (by decide)]
    rw [depthF, (nd_some hi).1, if_pos rfl, (nd_some hi).2, h.s.up, hn]
    rfl
  have hJ := hI2.join hd (a := a) hi hj (by rw [h.s.tag]; exact htag) hu hj0 (by rw [hroot]; omega) (by rw [hdep]; omega) ka kc
  have h1 : heightF l2 41 (id : Int) ≤ hP t := by rw [hg.height h.s.inv 41 id x h.s.at_]; exact h.s.hi
  have hkl := h.s.kl
  have hnot : ∀ k : Nat, k ≠ id → ¬ Sub l2 k id := fun k hk ⟨_, n, hn⟩ => by
    cases n with
    | zero => have : (id : Int) = (k : Int) := hn; omega
    | succ n =>
      have e : upN l2 n (upT l2 (id : Int)) = (k : Int) := hn
      rw [(nd_some hi).2, h.s.up, upN_neg] at e
      omega
  have hS : Sown B p nb deep l t id (a + 1) w w2 (joinedZ l2 id x a j y ka kc) { x with ka := ka, kc := kc, kids := insZ x.kids a j } := by
    refine ⟨hb, hF, hJ, ?_, h.s.free, ?_, h.s.up, h.s.tag, ?_, ?_, join_high hI2 hd hi hj hij h.s.up ka kc hJ h1 (by omega)⟩
    · unfold joinedZ
      exact ((h.s.gr.trans hg).set h.s.free).set hlj
    · unfold joinedZ
      rw [set_ne hij]
      exact set_at (w := some x) hi
    · show (insZ x.kids a j).length = a + 1
      unfold insZ
      simp
      omega
    · rw [joined_count hi hj hij, hc, h.s.cnt, sizePs_take hs]
      omega
  refine ⟨_, _, hS, ?_, h.ix, h.asd.trans hasd⟩
  rw [sk_joined hi hj, sowK_succ _ hs, ← h.eq, ← hsk]
theorem SownK.lat (h : SownK B p nb deep l t id a w wr la x) (hb : Below wr.heap.size wr w2) : SownK B p nb deep l t id a w w2 la x :=
  ⟨⟨h.s.bel.trans (hb.mono (by have := h.s.full.bn; have := h.s.full.ln; omega)), h.s.full.below hb, h.s.inv, h.s.gr, h.s.free, h.s.at_, h.s.up, h.s.tag, h.s.kl, h.s.cnt, h.s.hi⟩, h.eq, h.ix, h.asd.trans (.below hb)⟩
theorem SownK.done (h : SownK B p nb deep l t id t.kn w wr la x) (hkn : t.kn = t.kids.length) : PlantedK B p nb deep l (sizeP t) (hP t) (plantS t (sk l)) w (.returned (.int .i64 id)) wr := by
  have hsq := sizeP_eq t
  refine ⟨id, la, x, rfl, h.s.bel, h.s.full, h.s.inv, h.s.gr, h.s.free, h.s.at_, h.s.up, by rw [h.s.cnt, hkn, List.take_length]; omega, h.s.hi, ?_, h.asd⟩
  have hix := h.ix
  rw [sk_ix] at hix
  rw [plantS_eq, hix, Int.toNat_natCast, h.eq]
  unfold sowK
  rw [hkn, List.take_length]
end

set_option maxRecDepth 20000 in
set_option maxHeartbeats 8000000 in
theorem plant_sk (B p nb : Nat) (deep : Int) (hd0 : 0 ≤ deep) (hd : deep ≤ 40) : ∀ (n : Nat) (t : Pn), sizeP t ≤ n → goodP t = true → shortP t = true → slimP t = true → hP t ≤ deep →
    ∀ (w : World) (l : List (Option Nd)), FarP nb l w t → Full B w p nb deep l → Inv deep l → countF l + sizeP t ≤ l.length →
    Calls Tryd.prog 68 #[.pointer (some ⟨p, 0, none⟩), t.v] w (PlantedK B p nb deep l (sizeP t) (hP t) (plantS t (sk l)) w)
  | 0, t, hn, _, _, _, _ => by have := sizeP_pos t; omega
  | n + 1, t, hn, hg, hsh, hsl, hh => by
    intro w l hFar hF hI hc
    have hP0 := hFar l w (Asd.below (Below.refl _ _))
    have ih := fun (s : Pn) (hs : s ∈ t.kids) (h2 : goodP s = true) (h3 : shortP s = true) (h4 : slimP s = true) (h5 : hP s ≤ deep) => plant_sk B p nb deep hd0 hd n s (by rw [sizeP_eq] at hn; have := sizePs_mem t.kids s hs; omega) h2 h3 h4 h5
    obtain ⟨hrow, hsz, htz, hkn, hk1, hkr, hks⟩ := hP0.parts
    have hrow2 := hrow
    rw [shortP_eq, Bool.and_eq_true] at hsh
    obtain ⟨hok, hshk⟩ := hsh
    unfold okS at hok
    rw [Bool.and_eq_true, decide_eq_true_eq, decide_eq_true_eq] at hok
    rw [goodP_eq, Bool.and_eq_true] at hg
    obtain ⟨hmay, hgk⟩ := hg
    have hslk : t.an ≤ 200 ∧ slimPs t.kids = true := by
      cases t
      rw [slimP, Bool.and_eq_true, Bool.and_eq_true, decide_eq_true_eq, decide_eq_true_eq] at hsl
      exact ⟨hsl.1.2, hsl.2⟩
    have hlen : t.an = t.ats.length := by obtain ⟨a, c, e⟩ := hrow.len; exact (Value.slice.inj e).2.1
    have hspos := sizeP_pos t
    have hsq := sizeP_eq t
    obtain ⟨k, hk, hkl⟩ := ixN_room (l := l) (by omega)
    have hle := hF.t.le
    have hln := hF.ln
    have hbn := hF.bn
    have htag0 : t.kids ≠ [] → t.tag ≠ 0 := fun hne h0 => by
      unfold mayP at hmay
      rw [if_pos h0, Bool.and_eq_true, decide_eq_true_eq, decide_eq_true_eq] at hmay
      rw [hkn] at hmay
      exact hne (List.length_eq_zero_iff.1 hmay.2)
    have hkl2 : t.kids.length < 2000 := by have := sizePs_len t.kids; omega
    obtain ⟨S, hS0⟩ : ∃ S, anewS t.tx = S := ⟨_, rfl⟩
    have cN : ∀ W, Calls Tryd.prog 71 #[.string t.tx] W fun e w' => e = .returned (.tuple #[.string S, .bool true]) ∧ Below W.heap.size W w' := fun W => by
      have h := anew_any t.tx W
      rw [if_pos hok.1, decide_eq_true hok.2, hS0] at h
      exact h
    have cO : ∀ W, Below w.heap.size w W → Calls Tryd.prog 78 #[.slice t.aa t.an t.ac] W fun e w' => ∃ aa3 ac3, e = .returned (.slice aa3 t.an ac3) ∧ Below W.heap.size W w' ∧ Hid (∀ W2, Below w'.heap.size w' W2 → Calls Tryd.prog 72 #[.pointer (some ⟨p, 0, none⟩), .agg #[.int .i64 t.tag, .slice aa3 t.an ac3, .string S, .slice none 0 0]] W2 fun e w6 => e = .returned (.tuple #[.int .i64 k, .int .i64 0]) ∧ But nb W2 w6 ∧ Hid (∃ la x, SownK B p nb deep l t k 0 w w6 la x)) := fun W hb => (own_any W _ t.ats (hrow2.below hb) (by omega) hsz).mono (by
      rintro e w' ⟨v, rfl, ho, hb5⟩
      obtain ⟨aa3, ac3, rfl⟩ := (rowAt_of_own ho).len
      refine ⟨aa3, ac3, by rw [hlen], hb5, Lib.hid (fun W2 hb6 => ?_)⟩
      have hFW := hF.below hb
      have ho2 : W2.ownsRow W.heap.size 116 2 (.slice aa3 t.ats.length ac3) t.ats.length (cellsR t.ats) := ownsRow_below ho hb6
      have hbW2 := hb.trans ((hb5.trans (hb6.mono hb5.size)).mono hb.size)
      have := add_full B W2 p nb deep l (hF.below hbW2) k hk t.tag aa3 t.ats.length ac3 S t.ats (own_mono2 ho2 (by have := hb.size; omega)) (own_fits hFW ho2)
      rw [hlen]
      refine this.mono ?_
      rintro e w6 ⟨rfl, h1, ⟨b, hb4, h2⟩, h3⟩
      exact ⟨rfl, h3, Lib.hid ⟨_, _, SownK.start hI hd0 ((hbW2.mono (by omega)).trans h1) hk (by omega) hok.2 hS0 h2 ((Asd.below hbW2).trans (Asd.add hb4 h3))⟩⟩)
    have cP : ∀ (a : Nat) (wr W : World) (s : Pn), t.kids[a]? = some s → (∃ la x, SownK B p nb deep l t k a w wr la x) → Below wr.heap.size wr W → Calls Tryd.prog 68 #[.pointer (some ⟨p, 0, none⟩), s.v] W fun e w' => ∃ j : Nat, e = .returned (.int .i64 j) ∧ Calls Tryd.prog 69 #[.pointer (some ⟨p, 0, none⟩), .int .i64 k, .int .i64 a, .int .i64 j] w' fun e2 w2 => e2 = .returned (.tuple #[]) ∧ Hid (∃ la x, SownK B p nb deep l t k (a + 1) w w2 la x) := fun a wr W s hs ⟨la, x, hW⟩ hb => by
      have hmem := List.mem_of_getElem? hs
      have htl := sizePs_take hs
      have htl2 := sizePs_take_le t.kids (a + 1)
      have hcn := hW.s.cnt
      have hgl := hW.s.gr.len
      have hal := (List.getElem?_eq_some_iff.1 hs).1
      have hkx := hW.s.kl
      have hhs := hPs_mem t.kids s hmem
      rw [← hP_eq] at hhs
      have hbW : Below B w W := hW.s.bel.trans (hb.mono (by have := hW.s.full.bn; have := hW.s.full.ln; omega))
      refine (ih s hmem (goodPs_mem _ _ hmem hgk) (shortPs_mem _ _ hmem hshk) (slimPs_mem _ _ hmem hslk.2) (by omega) W la (fun lb wr2 h2 => by obtain ⟨_, _, _, _, _, _, hks2⟩ := (hFar lb wr2 ((hW.asd.trans (.below hb)).trans h2)).parts; exact hks2 s hmem) (hW.s.full.below hb) hW.s.inv (by omega)).mono ?_
      rintro e w' ⟨j, l2, y, rfl, q1, q2, q3, q4, q5, q6, q7, q8, q9, q10, q12⟩
      have hij : k ≠ j := fun e => by have := hW.s.at_; rw [e, q5] at this; cases this
      refine ⟨j, rfl, (join_but B w' p nb deep l2 q2 k a j x y (q4.old k x hW.s.at_) q6 hij (by omega) (by omega)).mono ?_⟩
      rintro e2 w2 ⟨rfl, r1, ka2, kc2, r2, r3, r4⟩
      exact ⟨rfl, Lib.hid (hW.step hd hh hs (htag0 (List.ne_nil_of_mem hmem)) q3 q4 q5 q6 q7 q8 q9 q10 ka2 kc2 ((hbW.trans q1).trans r1) r2 ((Asd.below hb).trans (q12.trans (Asd.join (q4.old k x hW.s.at_) q6 r1.size r3 r4))))⟩
    have HEnd : Hid (∀ W, (∃ la x, SownK B p nb deep l t k t.kn w W la x) → PlantedK B p nb deep l (sizeP t) (hP t) (plantS t (sk l)) w (.returned (.int .i64 k)) W) := Lib.hid (fun W ⟨la, x, h⟩ => h.done hkn)
    have HLat : Hid (∀ a W W2, Below W.heap.size W W2 → (∃ la x, SownK B p nb deep l t k a w W la x) → ∃ la x, SownK B p nb deep l t k a w W2 la x) := Lib.hid (fun a W W2 hb ⟨la, x, h⟩ => ⟨la, x, h.lat hb⟩)
    have HRow : Hid (∀ (a : Nat) (s : Pn) (wr : World), t.kids[a]? = some s → (∃ la x, SownK B p nb deep l t k a w wr la x) → ∃ b o, t.ka = some ⟨b, o, none⟩ ∧ wr.cell? ⟨b, o + a * 4, none⟩ = some (.int .i64 s.tag) ∧ wr.cell? ⟨b, o + a * 4 + 1, none⟩ = some (.slice s.aa s.an s.ac) ∧ wr.cell? ⟨b, o + a * 4 + 2, none⟩ = some (.string s.tx) ∧ wr.cell? ⟨b, o + a * 4 + 3, none⟩ = some (.slice s.ka s.kn s.kc)) := Lib.hid (fun a s wr hs ⟨la, x, h⟩ => by
      obtain ⟨_, _, _, _, _, hkr2, _⟩ := (hFar la wr h.asd).parts
      rcases hkr2 with h0 | ⟨b, o, eka, hbl, hcells⟩
      · rw [h0] at hs; simp at hs
      · obtain ⟨y0, y1, y2, y3⟩ := hcells a s hs
        exact ⟨b, o, eka, y0, y1, y2, y3⟩)
    have hv : t.v = .agg #[.int .i64 t.tag, .slice t.aa t.an t.ac, .string t.tx, .slice t.ka t.kn t.kc] := rfl
    rw [hv]
    obtain ⟨tag, h1⟩ : ∃ z, t.tag = z := ⟨_, rfl⟩
    obtain ⟨aa, h2⟩ : ∃ z, t.aa = z := ⟨_, rfl⟩
    obtain ⟨an, h3⟩ : ∃ z, t.an = z := ⟨_, rfl⟩
    obtain ⟨ac, h4⟩ : ∃ z, t.ac = z := ⟨_, rfl⟩
    obtain ⟨tx, h5⟩ : ∃ z, t.tx = z := ⟨_, rfl⟩
    obtain ⟨ka, h6⟩ : ∃ z, t.ka = z := ⟨_, rfl⟩
    obtain ⟨kn, h7⟩ : ∃ z, t.kn = z := ⟨_, rfl⟩
    obtain ⟨kc, h8⟩ : ∃ z, t.kc = z := ⟨_, rfl⟩
    have HK : Hid (kn = t.kids.length) := Lib.hid (by rw [← h7]; exact hkn)
    have hnbl : Hid (nb < w.heap.size) := Lib.hid hln
    have hk1' : kn ≤ maxLen := by rw [← h7]; exact hk1
    have hk2 : kn < 2000 := by rw [← h7, hkn]; exact hkl2
    simp only [h1, h2, h3, h4, h5, h6, h7, h8] at cO cN cP HEnd HRow ⊢
    have hbx := (Below.refl _ w).alloc (Nat.le_refl _) (.cells #[.int .i64 tag, .slice aa an ac, .string tx, .slice ka kn kc] 67)
    have HBX := Lib.hid hbx
    have CO := Lib.hid cO
    have CP := Lib.hid cP
    clear h1 h2 h3 h4 h5 h6 h7 h8 hS0 hk hkl hle hln hbn htag0 hkl2 hlen hspos hsq hslk hmay hgk hshk hok hsl hkr hks hkn hk1 htz hsz hrow hrow2 ih hF hI hc hFar hP0 hn hh cO cP hbx hv
    go_enter Tryd.func68, Tryd.ntmps68
    go_upto_region 2 with (go_at_call 71; ((with_reducible refine (cN _).mono ?_); rintro e w2 ⟨rfl, hb2⟩))
    have hsz : (w.alloc (.cells #[.int .i64 tag, .slice aa an ac, .string tx, .slice ka kn kc] 67)).heap.size = w.heap.size + 1 := by simp
    have hbase := HBX.out.trans (hb2.mono HBX.out.size)
    have hge2 : w.heap.size < w2.heap.size := by have := hb2.size; omega
    have hS : (w2.cell? ⟨w.heap.size, 0, none⟩ = some (.int .i64 tag) ∧ w2.cell? ⟨w.heap.size, 1, none⟩ = some (.slice aa an ac) ∧ w2.cell? ⟨w.heap.size, 3, none⟩ = some (.slice ka kn kc)) := ⟨(hb2.cell (p := ⟨w.heap.size, 0, none⟩) (show w.heap.size < _ by omega)).trans (by simp [go_sem]), (hb2.cell (p := ⟨w.heap.size, 1, none⟩) (show w.heap.size < _ by omega)).trans (by simp [go_sem]), (hb2.cell (p := ⟨w.heap.size, 3, none⟩) (show w.heap.size < _ by omega)).trans (by simp [go_sem])⟩
    have KS : Hid (∀ W', But nb w2 W' → (W'.cell? ⟨w.heap.size, 0, none⟩ = some (.int .i64 tag) ∧ W'.cell? ⟨w.heap.size, 1, none⟩ = some (.slice aa an ac) ∧ W'.cell? ⟨w.heap.size, 3, none⟩ = some (.slice ka kn kc))) := Lib.hid (fun W' h => ⟨(h.cell hge2 (by have := hnbl.out; omega) 0).trans hS.1, (h.cell hge2 (by have := hnbl.out; omega) 1).trans hS.2.1, (h.cell hge2 (by have := hnbl.out; omega) 3).trans hS.2.2⟩)
    have HBase := Lib.hid hbase
    have hb : Hid (Below w2.heap.size w2 w2) := Lib.hid (Below.refl _ _)
    have hbt : Hid (But nb w2 w2) := Lib.hid (But.refl _ _)
    have cO := fun W (hq : Below w2.heap.size w2 W) => CO.out W (HBase.out.trans (hq.mono HBase.out.size))
    clear hsz hb2 hbase hge2
    go_region_held3 (fun W' => (W'.cell? ⟨w.heap.size, 0, none⟩ = some (.int .i64 tag) ∧ W'.cell? ⟨w.heap.size, 1, none⟩ = some (.slice aa an ac) ∧ W'.cell? ⟨w.heap.size, 3, none⟩ = some (.slice ka kn kc))) (first | (with_reducible exact hS) | (refine KS.out _ ?_; (repeat (first | (with_reducible exact hbt.out) | (with_reducible exact But.refl _ _) | (with_reducible refine But.drew ?_) | (with_reducible refine But.alloc ?_ _))); done)) (first
      | (go_at_call 78; ((with_reducible refine (cO _ (show Below w2.heap.size w2 _ by (repeat (first | (with_reducible exact hb.out) | (with_reducible exact Below.refl _ _) | (with_reducible refine Below.drew ?_) | (with_reducible refine Below.alloc ?_ ?_ _) | omega | (simp <;> omega))))).mono ?_); rintro e w5 ⟨aa3, ac3, rfl, hb5, HA⟩; have hd2 := Lib.hid ((show Below w2.heap.size w2 _ by (repeat (first | (with_reducible exact hb.out) | (with_reducible exact Below.refl _ _) | (with_reducible refine Below.drew ?_) | (with_reducible refine Below.alloc ?_ ?_ _) | omega | (simp <;> omega)))).trans (hb5.mono (by first | exact hb.out.size | (simp; exact hb.out.size) | (simp; omega)))); clear hb hb5; have hb := hd2; clear hd2 hbt; have hbt := Lib.hid (But.of_below (nb := nb) hb.out); replace hS := KS.out _ hbt.out))
      | (go_at_call 72; ((with_reducible refine (HA.out _ (by (repeat (first | (with_reducible exact Below.refl _ _) | (with_reducible refine Below.drew ?_) | (with_reducible refine Below.alloc ?_ ?_ _) | omega | (simp <;> omega))))).mono ?_); rintro e w6 ⟨rfl, hbt6, HQ⟩; have hd3 := Lib.hid (But.trans (show But nb w2 _ by (repeat (first | (with_reducible exact hbt.out) | (with_reducible exact But.refl _ _) | (with_reducible refine But.drew ?_) | (with_reducible refine But.alloc ?_ _)))) hbt6); clear hbt hbt6 hb; have hbt := hd3; clear hd3; replace hS := KS.out _ hbt.out)))
    all_goals obtain ⟨_, _, z3⟩ := hS
    all_goals go_wp2
    all_goals go_loopw [9, 10, 32] (fun _ _ i wr => ∃ a : Nat, a ≤ kn ∧ i = .int .i64 a ∧ Hid (∃ la x, SownK B p nb deep l t k a w wr la x)) (fun _ _ i _ => kn - (RowKit.intOf i).toNat)
    case atStart => exact ⟨0, Nat.zero_le _, rfl, Lib.hid (HLat.out _ _ _ (by (repeat (first | (with_reducible exact Below.refl _ _) | (with_reducible refine Below.drew ?_) | (with_reducible refine Below.alloc ?_ ?_ _) | omega | (simp <;> omega)))) HQ.out)⟩
    case round =>
      obtain ⟨a, ha, rfl, HA⟩ := hrel
      by_cases hlt : a < kn
      · have hal : a < t.kids.length := by rw [← HK.out]; exact hlt
        have haI : (a : Int) < (kn : Int) := by omega
        obtain ⟨s, hs⟩ : ∃ s, t.kids[a]? = some s := ⟨_, List.getElem?_eq_getElem hal⟩
        obtain ⟨b, o, eka, y0, y1, y2, y3⟩ := HRow.out a s wr hs HA.out
        have cP := fun (W : World) (hb : Below wr.heap.size wr W) => CP.out a wr W s hs HA.out hb
        have hvs : s.v = .agg #[.int .i64 s.tag, .slice s.aa s.an s.ac, .string s.tx, .slice s.ka s.kn s.kc] := rfl
        rw [hvs] at cP
        subst eka
        have hbr : Hid (Below wr.heap.size wr wr) := Lib.hid (Below.refl _ _)
        clear HA hal hs hvs
        go_wp2_with (first
          | (go_at_call 68; ((with_reducible refine (cP _ (by (repeat (first | (with_reducible exact Below.refl _ _) | (with_reducible refine Below.drew ?_) | (with_reducible refine Below.alloc ?_ ?_ _) | omega | (simp <;> omega))))).mono ?_); rintro e w7 ⟨j, rfl, cJ⟩))
          | (go_at_call 69; ((with_reducible refine (cJ).mono ?_); rintro e w8 ⟨rfl, HA8⟩)))
        go_roundw
        case rel => exact ⟨a + 1, hlt, by go_num, HA8⟩
        case measure => simp [RowKit.intOf]; omega
      · have ham : a = kn := by omega
        subst ham
        have HE := Lib.hid (HEnd.out _ HA.out)
        clear HA
        go_wp2
        go_ret
        exact HE.out


end Go.Proofs.YtggjoefhopoggaaDoor
