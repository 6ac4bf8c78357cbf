/-
  plant, exactly: what stands at the new node is the plain tree, its texts written anew; all new nodes are within it.
-/
import Derived.Test.YtdegkcibadjogaaDoorCPlant
import Derived.Test.YtdegkcibadjogaaDoorCOff

namespace Go.Proofs.YtdegkcibadjogaaDoor
open Go.RowKit Go.Lib

mutual
/-- A plain tree, its texts written anew. -/
def anewPt : Pt → Pt
  | .mk tag tx ats kids => .mk tag (anewS tx) ats (anewPts kids)
def anewPts : List Pt → List Pt
  | [] => []
  | t :: r => anewPt t :: anewPts r
end
theorem anewPts_eq : ∀ l : List Pt, anewPts l = l.map anewPt
  | [] => by rw [anewPts]; rfl
  | t :: r => by rw [anewPts, anewPts_eq r]; rfl
theorem anewPt_eq (t : Pn) : anewPt t.pt = .mk t.tag (anewS t.tx) t.ats (t.kids.map fun s => anewPt s.pt) := by
  rw [pt_eq, anewPt, anewPts_eq, List.map_map]
  rfl

section
variable {deep : Int} {l l' : List (Option Nd)} {r : Nat → Nat}
theorem plain_more : ∀ (n : Nat) (id : Int), endsH l n id → plainF l (n + 1) id = plainF l n id
  | 0, id, h => by
    have h0 : ndAt l id = none := h
    rw [plainF_none h0, plainF_none h0]
  | n + 1, id, h => by
    cases e : ndAt l id with
    | none => rw [plainF_none e, plainF_none e]
    | some x =>
      rw [plainF_some e, plainF_some e]
      congr 1
      exact List.map_congr_left fun k hk => plain_more n k (h x e k hk)
theorem Inv.kidMore (hI : Inv deep l) (hd : deep ≤ 40) {i : Nat} {x : Nd} (hi : l[i]? = some (some x)) : x.kids.map (plainF l 40) = x.kids.map (plainF l 41) :=
  List.map_congr_left fun k hk => by
    obtain ⟨m, z, rfl, hz, hu⟩ := hI.kid i x k hi hk
    obtain ⟨r, hr⟩ := hI.dep
    have h1 := hr.up m z i hz hu
    exact (plain_more 40 (m : Int) (hI.endsH hr 40 m z hz (by omega))).symm
theorem Inv.plainAt (hI : Inv deep l) (hd : deep ≤ 40) {i : Nat} {x : Nd} (hi : l[i]? = some (some x)) : plainF l 41 (i : Int) = .mk x.tag x.tx x.ats (x.kids.map (plainF l 41)) := by
  rw [plainF_some (ndAt_of hi), hI.kidMore hd hi]
theorem Grows.plain (h : Grows l l') (hI : Inv deep l) : ∀ (n j : Nat) (y : Nd), l[j]? = some (some y) → plainF l' n (j : Int) = plainF l n (j : Int)
  | 0, j, y, hj => rfl
  | n + 1, j, y, hj => by
    rw [plainF_some (ndAt_of hj), plainF_some (ndAt_of (h.old j y hj))]
    congr 1
    refine List.map_congr_left fun k hk => ?_
    obtain ⟨m, z, rfl, hz, _⟩ := hI.kid j y k hj hk
    exact h.plain hI n m z hz
/-- What does not hold i says what it said, when a kid comes into i. -/
theorem join_plain (hI : Inv deep l) {i j a : Nat} {x y : Nd} (hj : l[j]? = some (some y)) (ka : Option Addr) (kc : Nat) : ∀ (n k : Nat) (z : Nd), l[k]? = some (some z) → ¬ Sub l k i → plainF (joinedZ l i x a j y ka kc) n (k : Int) = plainF l n (k : Int)
  | 0, k, z, hk, _ => rfl
  | n + 1, k, z, hk, hs => by
    have hki : k ≠ i := fun e => hs (by subst e; exact ⟨⟨z, hk⟩, 0, rfl⟩)
    obtain ⟨z', h1, h2, h3, h4, h5⟩ : ∃ z', (joinedZ l i x a j y ka kc)[k]? = some (some z') ∧ z'.kids = z.kids ∧ z'.tag = z.tag ∧ z'.tx = z.tx ∧ z'.ats = z.ats := by
      unfold joinedZ
      by_cases e : k = j
      · subst e
        rw [hj] at hk
        obtain rfl := Option.some.inj (Option.some.inj hk)
        exact ⟨_, set_at (w := some y) (by rw [set_ne hki]; exact hj), rfl, rfl, rfl, rfl⟩
      · exact ⟨z, by rw [set_ne e, set_ne hki]; exact hk, rfl, rfl, rfl, rfl⟩
    rw [plainF_some (ndAt_of hk), plainF_some (ndAt_of h1), h2, h3, h4, h5]
    congr 1
    refine List.map_congr_left fun m hm => ?_
    obtain ⟨m2, z2, rfl, hz2, _⟩ := hI.kid k z m hk hm
    exact join_plain hI hj ka kc n m2 z2 hz2 (fun hs2 => hs ((hI.sub_kids hk i).2 (.inr ⟨m2, hm, hs2⟩)))
theorem Grows.upN (h : Grows l l') (hI : Inv deep l) {j : Nat} : ∀ (n k : Nat) (z : Nd), l[k]? = some (some z) → Proofs.YtdegkcibadjogaaDoor.upN l n (k : Int) = (j : Int) → Proofs.YtdegkcibadjogaaDoor.upN l' n (k : Int) = (j : Int)
  | 0, k, z, _, e => e
  | n + 1, k, z, hk, e => by
    have e2 : Proofs.YtdegkcibadjogaaDoor.upN l n (upT l (k : Int)) = (j : Int) := e
    show Proofs.YtdegkcibadjogaaDoor.upN l' n (upT l' (k : Int)) = (j : Int)
    rw [(nd_some hk).2] at e2
    rw [(nd_some (h.old k z hk)).2]
    rcases hI.par k z hk with c | ⟨i2, x2, c1, c2, _⟩
    · rw [c, upN_neg] at e2; omega
    · rw [c1] at e2 ⊢
      exact h.upN hI n i2 x2 c2 e2
theorem Grows.sub (h : Grows l l') (hI : Inv deep l) {j k : Nat} (hs : Sub l j k) : Sub l' j k := by
  obtain ⟨⟨z, hz⟩, n, hn⟩ := hs
  exact ⟨⟨z, h.old k z hz⟩, n, h.upN hI n k z hz hn⟩
/-- What was there is not within what is new. -/
theorem Grows.notSub (h : Grows l l') (hI : Inv deep l) {id : Nat} (hid : l[id]? = some none) : ∀ (n k : Nat) (z : Nd), l[k]? = some (some z) → Proofs.YtdegkcibadjogaaDoor.upN l' n (k : Int) ≠ (id : Int)
  | 0, k, z, hk, e => by
    have e2 : (k : Int) = (id : Int) := e
    obtain rfl : k = id := by omega
    rw [hid] at hk; cases hk
  | n + 1, k, z, hk, e => by
    have e2 : Proofs.YtdegkcibadjogaaDoor.upN l' n (upT l' (k : Int)) = (id : Int) := e
    rw [(nd_some (h.old k z hk)).2] at e2
    rcases hI.par k z hk with c | ⟨i2, x2, c1, c2, _⟩
    · rw [c, upN_neg] at e2; omega
    · rw [c1] at e2
      exact h.notSub hI hid n i2 x2 c2 e2

theorem join_up {i j a : Nat} {x y : Nd} (hi : l[i]? = some (some x)) (hj : l[j]? = some (some y)) (hij : i ≠ j) (ka : Option Addr) (kc : Nat) (k : Int) : upT (joinedZ l i x a j y ka kc) k = if k = (j : Int) then (i : Int) else upT l k := by
  by_cases e : k = (j : Int)
  · subst e
    rw [if_pos rfl]
    have : (joinedZ l i x a j y ka kc)[j]? = some (some { y with up := (i : Int) }) := by unfold joinedZ; exact set_at (w := some y) (by rw [set_ne (fun e => hij e.symm)]; exact hj)
    exact (nd_some this).2
  · rw [if_neg e]
    by_cases h0 : 0 ≤ k
    · obtain ⟨m, rfl⟩ : ∃ m : Nat, k = (m : Int) := ⟨k.toNat, by omega⟩
      have hmj : m ≠ j := fun e2 => e (by rw [e2])
      by_cases hmi : m = i
      · subst hmi
        have : (joinedZ l m x a j y ka kc)[m]? = some (some { x with ka := ka, kc := kc, kids := insZ x.kids a j }) := by unfold joinedZ; rw [set_ne hmj]; exact set_at hi
        rw [(nd_some this).2, (nd_some hi).2]
      · unfold upT ndAt
        rw [if_pos h0, if_pos h0, Int.toNat_natCast]
        unfold joinedZ
        rw [set_ne hmj, set_ne hmi]
    · unfold upT ndAt
      rw [if_neg h0, if_neg h0]
theorem join_in {i j a : Nat} {x y : Nd} (hi : l[i]? = some (some x)) (hj : l[j]? = some (some y)) (hij : i ≠ j) (ka : Option Addr) (kc : Nat) : ∀ (n : Nat) (k : Int), upN l n k = (j : Int) → ∃ m, upN (joinedZ l i x a j y ka kc) m k = (i : Int)
  | n, k, e => by
    by_cases h : k = (j : Int)
    · refine ⟨1, ?_⟩
      show upT (joinedZ l i x a j y ka kc) k = _
      rw [join_up hi hj hij, if_pos h]
    · cases n with
      | zero => exact absurd e h
      | succ n =>
        obtain ⟨m, hm⟩ := join_in hi hj hij ka kc n (upT l k) e
        refine ⟨m + 1, ?_⟩
        show upN (joinedZ l i x a j y ka kc) m (upT (joinedZ l i x a j y ka kc) k) = _
        rw [join_up hi hj hij, if_neg h]
        exact hm
theorem join_on {i j a : Nat} {x y : Nd} (hi : l[i]? = some (some x)) (hj : l[j]? = some (some y)) (hij : i ≠ j) (hu : y.up = -1) (ka : Option Addr) (kc : Nat) : ∀ (n : Nat) (k : Int), upN l n k = (i : Int) → upN (joinedZ l i x a j y ka kc) n k = (i : Int)
  | 0, k, e => e
  | n + 1, k, e => by
    have e2 : upN l n (upT l k) = (i : Int) := e
    show upN (joinedZ l i x a j y ka kc) n (upT (joinedZ l i x a j y ka kc) k) = _
    rw [join_up hi hj hij]
    split
    · rename_i h
      rw [h, (nd_some hj).2, hu, upN_neg] at e2
      omega
    · exact join_on hi hj hij hu ka kc n _ e2
theorem join_some {i j a k : Nat} {x y : Nd} (hi : l[i]? = some (some x)) (hj : l[j]? = some (some y)) (hij : i ≠ j) (ka : Option Addr) (kc : Nat) : (∃ z, (joinedZ l i x a j y ka kc)[k]? = some (some z)) ↔ ∃ z, l[k]? = some (some z) := by
  unfold joinedZ
  by_cases e : k = j
  · subst e
    exact ⟨fun _ => ⟨y, hj⟩, fun _ => ⟨_, set_at (w := some y) (by rw [set_ne (fun e => hij e.symm)]; exact hj)⟩⟩
  · rw [set_ne e]
    by_cases e2 : k = i
    · subst e2
      exact ⟨fun _ => ⟨x, hi⟩, fun _ => ⟨_, set_at hi⟩⟩
    · rw [set_ne e2]
end

/-- The tree's blocks among those that were there are those that were its; no other block has turned. -/
structure Asd (nb : Nat) (l l' : List (Option Nd)) (w w' : World) : Prop where
  sz : w.heap.size ≤ w'.heap.size
  tb : ∀ q, q < w.heap.size → TB l' q → TB l q
  sd : ∀ q, q < w.heap.size → q ≠ nb → ¬ TB l q → w'.heap[q]? = w.heap[q]?
theorem Asd.trans {nb : Nat} {l l1 l2 : List (Option Nd)} {w w1 w2 : World} (h : Asd nb l l1 w w1) (k : Asd nb l1 l2 w1 w2) : Asd nb l l2 w w2 :=
  ⟨Nat.le_trans h.sz k.sz, fun q hq ht => h.tb q hq (k.tb q (Nat.lt_of_lt_of_le hq h.sz) ht), fun q hq hn ht => (k.sd q (Nat.lt_of_lt_of_le hq h.sz) hn (fun h1 => ht (h.tb q hq h1))).trans (h.sd q hq hn ht)⟩
theorem Asd.below {nb : Nat} {l : List (Option Nd)} {w w' : World} (h : Below w.heap.size w w') : Asd nb l l w w' := ⟨h.size, fun _ _ h => h, fun q hq _ _ => h.block q hq⟩
theorem Asd.add {nb k b : Nat} {l : List (Option Nd)} {w w' : World} {tag : Int} {aa : Option Addr} {an ac : Nat} {tx : ByteArray} {ats : List (ByteArray × ByteArray)} (hb : w.heap.size ≤ b) (h : But nb w w') : Asd nb l (l.set k (some (ndF b tag aa an ac tx ats))) w w' := by
  refine ⟨h.size, fun q hq ⟨i, x, hi, hx⟩ => ?_, fun q hq hn _ => h.block q hq hn⟩
  rcases set_get hi with ⟨_, e⟩ | ⟨_, hi⟩
  · obtain rfl := Option.some.inj e
    rcases hx with hx | hx
    · have : b = q := hx
      omega
    · cases hx
  · exact ⟨i, x, hi, hx⟩
theorem Asd.join {nb i j a : Nat} {l : List (Option Nd)} {w w' : World} {x y : Nd} {ka : Option Addr} {kc : Nat} (hi : l[i]? = some (some x)) (hj : l[j]? = some (some y)) (hsz : w.heap.size ≤ w'.heap.size)
    (h3 : (Value.slice ka (insZ x.kids a j).length kc).ownBlock = x.ks.ownBlock ∨ ∀ b, (Value.slice ka (insZ x.kids a j).length kc).ownBlock = some b → w.heap.size ≤ b) (h4 : ∀ q, q < w.heap.size → x.ks.ownBlock ≠ some q → q ≠ x.ab → q ≠ y.ab → w'.heap[q]? = w.heap[q]?) : Asd nb l (joinedZ l i x a j y ka kc) w w' :=
  ⟨hsz, TB.joined hi hj h3, fun q hq _ ht => h4 q hq (fun e => ht ⟨i, x, hi, .inr e⟩) (fun e => ht ⟨i, x, hi, .inl e.symm⟩) (fun e => ht ⟨j, y, hj, .inl e.symm⟩)⟩
/-- All that is new is within id. -/
def NewIn (l l' : List (Option Nd)) (id : Nat) : Prop := ∀ k : Nat, l[k]? = some none → (∃ y, l'[k]? = some (some y)) → ∃ n, upN l' n (k : Int) = (id : Int)
/-- As Planted; what is told of the new node; what is new. -/
def PlantedX (B : Nat) (p nb : Nat) (deep : Int) (l : List (Option Nd)) (c : Nat) (hi : Int) (P : Pt) (w : World) (e : Ending) (w' : World) : Prop :=
  ∃ (id : Nat) (l' : List (Option Nd)) (x : Nd), e = .returned (.int .i64 id) ∧ Below B w w' ∧ Full B w' p nb deep l' ∧ Inv deep l' ∧ Grows l l' ∧ l[id]? = some none ∧ l'[id]? = some (some x) ∧ x.up = -1 ∧ countF l' = countF l + c ∧ heightF l' 41 (id : Int) ≤ hi ∧ plainF l' 41 (id : Int) = P ∧ NewIn l l' id ∧ Asd nb l l' w w'
structure SownX (B : Nat) (p nb : Nat) (deep : Int) (l : List (Option Nd)) (t : Pn) (id : Nat) (a : Nat) (w wr : World) (la : List (Option Nd)) (x : Nd) : Prop where
  s : Sown B p nb deep l t id a w wr la x
  tx : x.tx = anewS t.tx
  ats : x.ats = t.ats
  pl : x.kids.map (plainF la 41) = (t.kids.take a).map fun s => anewPt s.pt
  new : NewIn l la id
  asd : Asd nb l la w wr
section
variable {B p nb : Nat} {deep : Int} {l la : List (Option Nd)} {t s : Pn} {id a : Nat} {w wr w1 w2 : World} {x : Nd}
theorem SownX.start (hI : Inv deep l) (hd : 0 ≤ deep) (hb : Below B w wr) {k : Nat} (hk : ixN l 0 = (k : Int)) {b : Nat} {aa : Option Addr} {an ac : Nat} (hats : t.ats.length ≤ 10000) {S : ByteArray} (hS : anewS t.tx = S) (hF : Full B wr p nb deep (l.set k (some (ndF b t.tag aa an ac S t.ats)))) (hasd : Asd nb l (l.set k (some (ndF b t.tag aa an ac S t.ats))) w wr) :
    SownX B p nb deep l t k 0 w wr (l.set k (some (ndF b t.tag aa an ac S t.ats))) (ndF b t.tag aa an ac S t.ats) := by
  refine ⟨Sown.start hI hd hb hk hats hF, hS.symm, rfl, rfl, fun m hm ⟨y, hy⟩ => ?_, hasd⟩
  rcases set_get hy with ⟨e, _⟩ | ⟨_, h⟩
  · exact ⟨0, by rw [e]; rfl⟩
  · rw [hm] at h; cases h
theorem SownX.step (h : SownX B p nb deep l t id a w wr la x) (hd : deep ≤ 40) (ht : hP t ≤ deep) (hs : t.kids[a]? = some s) (htag : t.tag ≠ 0) {j : Nat} {y : Nd} {l2 : List (Option Nd)} (hI2 : Inv deep l2) (hg : Grows la l2) (hfree : la[j]? = some none) (hj : l2[j]? = some (some y)) (hu : y.up = -1) (hc : countF l2 = countF la + sizeP s) (hh : heightF l2 41 (j : Int) ≤ hP s) (hpl : plainF l2 41 (j : Int) = anewPt s.pt) (hnew : NewIn la l2 j) (ka : Option Addr) (kc : Nat) (hb : Below B w w2) (hF : Full B w2 p nb deep (joinedZ l2 id x a j y ka kc)) (hasd : Asd nb la (joinedZ l2 id x a j y ka kc) wr w2) :
    ∃ l3 x3, SownX B p nb deep l t id (a + 1) w w2 l3 x3 := by
  have hij : id ≠ j := fun e => by have := h.s.at_; rw [e, hfree] at this; cases this
  have hi := hg.old id x h.s.at_
  have hx0 := h.s.inv.host
  obtain ⟨x0, hx0, _, _⟩ := hx0
  have hj0 : j ≠ 0 := fun e => by rw [e, hx0] at hfree; cases hfree
  have hm := hPs_mem t.kids s (List.mem_of_getElem? hs)
  rw [← hP_eq] at hm
  have hlj : l[j]? = some none := by
    have hjl : j < l.length := by rw [← h.s.gr.len]; exact (List.getElem?_eq_some_iff.1 hfree).1
    cases e : l[j] with
    | none => rw [List.getElem?_eq_getElem hjl, e]
    | some z =>
      have := h.s.gr.old j z (by rw [List.getElem?_eq_getElem hjl, e])
      rw [this] at hfree; cases hfree
  have hroot : rootF l2 41 (id : Int) = (id : Int) := Inv.rootN hi h.s.up
  have hdep : depthF l2 41 (id : Int) = 0 := by
    have hn : depthF l2 40 (-1) = -1 := by
      rw [depthF, (nd_none (id := -1) (by rfl)).1, if_neg (by decide)]
    rw [depthF, (nd_some hi).1, if_pos rfl, (nd_some hi).2, h.s.up, hn]
    rfl
  have hJ := hI2.join hd (a := a) hi hj (by rw [h.s.tag]; exact htag) hu hj0 (by rw [hroot]; omega) (by rw [hdep]; omega) ka kc
  have h1 : heightF l2 41 (id : Int) ≤ hP t := by rw [hg.height h.s.inv 41 id x h.s.at_]; exact h.s.hi
  have hkl := h.s.kl
  have hnot : ∀ k : Nat, k ≠ id → ¬ Sub l2 k id := fun k hk ⟨_, n, hn⟩ => by
    cases n with
    | zero => have : (id : Int) = (k : Int) := hn; omega
    | succ n =>
      have e : upN l2 n (upT l2 (id : Int)) = (k : Int) := hn
      rw [(nd_some hi).2, h.s.up, upN_neg] at e
      omega
  have hS : Sown B p nb deep l t id (a + 1) w w2 (joinedZ l2 id x a j y ka kc) { x with ka := ka, kc := kc, kids := insZ x.kids a j } := by
    refine ⟨hb, hF, hJ, ?_, h.s.free, ?_, h.s.up, h.s.tag, ?_, ?_, join_high hI2 hd hi hj hij h.s.up ka kc hJ h1 (by omega)⟩
    · unfold joinedZ
      exact ((h.s.gr.trans hg).set h.s.free).set hlj
    · unfold joinedZ
      rw [set_ne hij]
      exact set_at (w := some x) hi
    · show (insZ x.kids a j).length = a + 1
      unfold insZ
      simp
      omega
    · rw [joined_count hi hj hij, hc, h.s.cnt, sizePs_take hs]
      omega
  refine ⟨_, _, hS, h.tx, h.ats, ?_, fun k hk hy => ?_, h.asd.trans hasd⟩
  · show (insZ x.kids a j).map (plainF (joinedZ l2 id x a j y ka kc) 41) = _
    rw [← hkl, insZ_end, List.map_append, hkl, List.take_add_one, hs, List.map_append, ← h.pl]
    congr 1
    · refine List.map_congr_left fun k hk => ?_
      obtain ⟨m, z, rfl, hz, hzu⟩ := h.s.inv.kid id x k h.s.at_ hk
      have hmi : m ≠ id := fun e => by
        obtain ⟨r, hr⟩ := h.s.inv.dep
        have := hr.up m z id hz hzu
        rw [e] at this
        omega
      have := join_plain hI2 (x := x) (a := a) (i := id) hj ka kc 41 m z (hg.old m z hz) (hnot m hmi)
      rw [this, hg.plain h.s.inv 41 m z hz]
    · have := join_plain hI2 (x := x) (a := a) (i := id) hj ka kc 41 j y hj (hnot j (fun e => hij e.symm))
      show [plainF _ 41 (j : Int)] = [anewPt s.pt]
      rw [this, hpl]
  · obtain ⟨z, hz⟩ := (join_some hi hj hij ka kc).1 hy
    have hkl2 : k < la.length := by rw [h.s.gr.len]; exact (List.getElem?_eq_some_iff.1 hk).1
    cases e : la[k] with
    | some z2 =>
      have he : la[k]? = some (some z2) := by rw [List.getElem?_eq_getElem hkl2, e]
      obtain ⟨n, hn⟩ := h.new k hk ⟨z2, he⟩
      exact ⟨n, join_on hi hj hij hu ka kc n _ (hg.upN h.s.inv n k z2 he hn)⟩
    | none =>
      have he : la[k]? = some none := by rw [List.getElem?_eq_getElem hkl2, e]
      obtain ⟨n, hn⟩ := hnew k he ⟨z, hz⟩
      exact join_in hi hj hij ka kc n _ hn
theorem SownX.lat (h : SownX B p nb deep l t id a w wr la x) (hb : Below wr.heap.size wr w2) : SownX B p nb deep l t id a w w2 la x :=
  ⟨⟨h.s.bel.trans (hb.mono (by have := h.s.full.bn; have := h.s.full.ln; omega)), h.s.full.below hb, h.s.inv, h.s.gr, h.s.free, h.s.at_, h.s.up, h.s.tag, h.s.kl, h.s.cnt, h.s.hi⟩, h.tx, h.ats, h.pl, h.new, h.asd.trans (.below hb)⟩
theorem SownX.done (h : SownX B p nb deep l t id t.kn w wr la x) (hd : deep ≤ 40) (hkn : t.kn = t.kids.length) : PlantedX B p nb deep l (sizeP t) (hP t) (anewPt t.pt) w (.returned (.int .i64 id)) wr := by
  have hsq := sizeP_eq t
  refine ⟨id, la, x, rfl, h.s.bel, h.s.full, h.s.inv, h.s.gr, h.s.free, h.s.at_, h.s.up, by rw [h.s.cnt, hkn, List.take_length]; omega, h.s.hi, ?_, h.new, h.asd⟩
  have hp := h.pl
  rw [hkn, List.take_length] at hp
  rw [h.s.inv.plainAt hd h.s.at_, h.s.tag, h.tx, h.ats, hp, anewPt_eq]
end

set_option maxRecDepth 20000 in
set_option maxHeartbeats 8000000 in
theorem plant_exact (B p nb : Nat) (deep : Int) (hd0 : 0 ≤ deep) (hd : deep ≤ 40) (w0 : World) (hB0 : w0.heap.size = B) : ∀ (n : Nat) (t : Pn), sizeP t ≤ n → PlAt w0 t → goodP t = true → shortP t = true → slimP t = true → hP t ≤ deep →
    ∀ (w : World) (l : List (Option Nd)), Below B w0 w → Full B w p nb deep l → Inv deep l → countF l + sizeP t ≤ l.length →
    Calls Tryd.prog 76 #[.pointer (some ⟨p, 0, none⟩), t.v] w (PlantedX B p nb deep l (sizeP t) (hP t) (anewPt t.pt) w)
  | 0, t, hn, _, _, _, _, _ => by have := sizeP_pos t; omega
  | n + 1, t, hn, hP0, hg, hsh, hsl, hh => by
    intro w l hb0 hF hI hc
    have ih := fun (s : Pn) (hs : s ∈ t.kids) (h1 : PlAt w0 s) (h2 : goodP s = true) (h3 : shortP s = true) (h4 : slimP s = true) (h5 : hP s ≤ deep) => plant_exact B p nb deep hd0 hd w0 hB0 n s (by rw [sizeP_eq] at hn; have := sizePs_mem t.kids s hs; omega) h1 h2 h3 h4 h5
    have hbw : Below w0.heap.size w0 w := by rw [hB0]; exact hb0
    obtain ⟨hrow, hsz, htz, hkn, hk1, hkr, hks⟩ := hP0.parts
    have hrow2 := hrow.below hbw
    rw [shortP_eq, Bool.and_eq_true] at hsh
    obtain ⟨hok, hshk⟩ := hsh
    unfold okS at hok
    rw [Bool.and_eq_true, decide_eq_true_eq, decide_eq_true_eq] at hok
    rw [goodP_eq, Bool.and_eq_true] at hg
    obtain ⟨hmay, hgk⟩ := hg
    have hslk : t.an ≤ 200 ∧ slimPs t.kids = true := by
      cases t
      rw [slimP, Bool.and_eq_true, Bool.and_eq_true, decide_eq_true_eq, decide_eq_true_eq] at hsl
      exact ⟨hsl.1.2, hsl.2⟩
    have hlen : t.an = t.ats.length := by obtain ⟨a, c, e⟩ := hrow.len; exact (Value.slice.inj e).2.1
    have hspos := sizeP_pos t
    have hsq := sizeP_eq t
    obtain ⟨k, hk, hkl⟩ := ixN_room (l := l) (by omega)
    have hle := hF.t.le
    have hln := hF.ln
    have hbn := hF.bn
    have htag0 : t.kids ≠ [] → t.tag ≠ 0 := fun hne h0 => by
      unfold mayP at hmay
      rw [if_pos h0, Bool.and_eq_true, decide_eq_true_eq, decide_eq_true_eq] at hmay
      rw [hkn] at hmay
      exact hne (List.length_eq_zero_iff.1 hmay.2)
    have hkl2 : t.kids.length < 2000 := by have := sizePs_len t.kids; omega
    obtain ⟨S, hS0⟩ : ∃ S, anewS t.tx = S := ⟨_, rfl⟩
    have cN : ∀ W, Calls Tryd.prog 42 #[.string t.tx] W fun e w' => e = .returned (.tuple #[.string S, .bool true]) ∧ Below W.heap.size W w' := fun W => by
      have h := anew_any t.tx W
      rw [if_pos hok.1, decide_eq_true hok.2, hS0] at h
      exact h
    have cO : ∀ W, Below w.heap.size w W → Calls Tryd.prog 81 #[.slice t.aa t.an t.ac] W fun e w' => ∃ aa3 ac3, e = .returned (.slice aa3 t.an ac3) ∧ Below W.heap.size W w' ∧ Hid (∀ W2, Below w'.heap.size w' W2 → Calls Tryd.prog 43 #[.pointer (some ⟨p, 0, none⟩), .agg #[.int .i64 t.tag, .slice aa3 t.an ac3, .string S, .slice none 0 0]] W2 fun e w6 => e = .returned (.tuple #[.int .i64 k, .int .i64 0]) ∧ But nb W2 w6 ∧ Hid (∃ la x, SownX B p nb deep l t k 0 w w6 la x)) := fun W hb => (own_any W _ t.ats (hrow2.below hb) (by omega) hsz).mono (by
      rintro e w' ⟨v, rfl, ho, hb5⟩
      obtain ⟨aa3, ac3, rfl⟩ := (rowAt_of_own ho).len
      refine ⟨aa3, ac3, by rw [hlen], hb5, Lib.hid (fun W2 hb6 => ?_)⟩
      have hFW := hF.below hb
      have ho2 : W2.ownsRow W.heap.size 61 2 (.slice aa3 t.ats.length ac3) t.ats.length (cellsR t.ats) := ownsRow_below ho hb6
      have hbW2 := hb.trans ((hb5.trans (hb6.mono hb5.size)).mono hb.size)
      have := add_full B W2 p nb deep l (hF.below hbW2) k hk t.tag aa3 t.ats.length ac3 S t.ats (own_mono2 ho2 (by have := hb.size; omega)) (own_fits hFW ho2)
      rw [hlen]
      refine this.mono ?_
      rintro e w6 ⟨rfl, h1, ⟨b, hb4, h2⟩, h3⟩
      exact ⟨rfl, h3, Lib.hid ⟨_, _, SownX.start hI hd0 ((hbW2.mono (by omega)).trans h1) hk (by omega) hS0 h2 ((Asd.below hbW2).trans (Asd.add hb4 h3))⟩⟩)
    have cP : ∀ (a : Nat) (wr W : World) (s : Pn), t.kids[a]? = some s → (∃ la x, SownX B p nb deep l t k a w wr la x) → Below wr.heap.size wr W → Calls Tryd.prog 76 #[.pointer (some ⟨p, 0, none⟩), s.v] W fun e w' => ∃ j : Nat, e = .returned (.int .i64 j) ∧ Calls Tryd.prog 51 #[.pointer (some ⟨p, 0, none⟩), .int .i64 k, .int .i64 a, .int .i64 j] w' fun e2 w2 => e2 = .returned (.tuple #[]) ∧ Hid (∃ la x, SownX B p nb deep l t k (a + 1) w w2 la x) := fun a wr W s hs ⟨la, x, hW⟩ hb => by
      have hmem := List.mem_of_getElem? hs
      have htl := sizePs_take hs
      have htl2 := sizePs_take_le t.kids (a + 1)
      have hcn := hW.s.cnt
      have hgl := hW.s.gr.len
      have hal := (List.getElem?_eq_some_iff.1 hs).1
      have hkx := hW.s.kl
      have hhs := hPs_mem t.kids s hmem
      rw [← hP_eq] at hhs
      have hbW : Below B w W := hW.s.bel.trans (hb.mono (by have := hW.s.full.bn; have := hW.s.full.ln; omega))
      refine (ih s hmem (hks s hmem) (goodPs_mem _ _ hmem hgk) (shortPs_mem _ _ hmem hshk) (slimPs_mem _ _ hmem hslk.2) (by omega) W la (hb0.trans hbW) (hW.s.full.below hb) hW.s.inv (by omega)).mono ?_
      rintro e w' ⟨j, l2, y, rfl, q1, q2, q3, q4, q5, q6, q7, q8, q9, q10, q11, q12⟩
      have hij : k ≠ j := fun e => by have := hW.s.at_; rw [e, q5] at this; cases this
      refine ⟨j, rfl, (join_but B w' p nb deep l2 q2 k a j x y (q4.old k x hW.s.at_) q6 hij (by omega) (by omega)).mono ?_⟩
      rintro e2 w2 ⟨rfl, r1, ka2, kc2, r2, r3, r4⟩
      exact ⟨rfl, Lib.hid (hW.step hd hh hs (htag0 (List.ne_nil_of_mem hmem)) q3 q4 q5 q6 q7 q8 q9 q10 q11 ka2 kc2 ((hbW.trans q1).trans r1) r2 ((Asd.below hb).trans (q12.trans (Asd.join (q4.old k x hW.s.at_) q6 r1.size r3 r4))))⟩
    have HEnd : Hid (∀ W, (∃ la x, SownX B p nb deep l t k t.kn w W la x) → PlantedX B p nb deep l (sizeP t) (hP t) (anewPt t.pt) w (.returned (.int .i64 k)) W) := Lib.hid (fun W ⟨la, x, h⟩ => h.done hd hkn)
    have HLat : Hid (∀ a W W2, Below W.heap.size W W2 → (∃ la x, SownX B p nb deep l t k a w W la x) → ∃ la x, SownX B p nb deep l t k a w W2 la x) := Lib.hid (fun a W W2 hb ⟨la, x, h⟩ => ⟨la, x, h.lat hb⟩)
    have HRow : Hid (∀ (a : Nat) (s : Pn) (wr : World), t.kids[a]? = some s → (∃ la x, SownX B p nb deep l t k a w wr la x) → ∃ b o, t.ka = some ⟨b, o, none⟩ ∧ wr.cell? ⟨b, o + a * 4, none⟩ = some (.int .i64 s.tag) ∧ wr.cell? ⟨b, o + a * 4 + 1, none⟩ = some (.slice s.aa s.an s.ac) ∧ wr.cell? ⟨b, o + a * 4 + 2, none⟩ = some (.string s.tx) ∧ wr.cell? ⟨b, o + a * 4 + 3, none⟩ = some (.slice s.ka s.kn s.kc)) := Lib.hid (fun a s wr hs ⟨la, x, h⟩ => by
      have hbr := hb0.trans h.s.bel
      rcases hkr with h0 | ⟨b, o, eka, hbl, hcells⟩
      · rw [h0] at hs; simp at hs
      · obtain ⟨y0, y1, y2, y3⟩ := hcells a s hs
        rw [hB0] at hbl
        exact ⟨b, o, eka, (hbr.cell (p := ⟨b, o + a * 4, none⟩) hbl).trans y0, (hbr.cell (p := ⟨b, o + a * 4 + 1, none⟩) hbl).trans y1, (hbr.cell (p := ⟨b, o + a * 4 + 2, none⟩) hbl).trans y2, (hbr.cell (p := ⟨b, o + a * 4 + 3, none⟩) hbl).trans y3⟩)
    have hv : t.v = .agg #[.int .i64 t.tag, .slice t.aa t.an t.ac, .string t.tx, .slice t.ka t.kn t.kc] := rfl
    rw [hv]
    obtain ⟨tag, h1⟩ : ∃ z, t.tag = z := ⟨_, rfl⟩
    obtain ⟨aa, h2⟩ : ∃ z, t.aa = z := ⟨_, rfl⟩
    obtain ⟨an, h3⟩ : ∃ z, t.an = z := ⟨_, rfl⟩
    obtain ⟨ac, h4⟩ : ∃ z, t.ac = z := ⟨_, rfl⟩
    obtain ⟨tx, h5⟩ : ∃ z, t.tx = z := ⟨_, rfl⟩
    obtain ⟨ka, h6⟩ : ∃ z, t.ka = z := ⟨_, rfl⟩
    obtain ⟨kn, h7⟩ : ∃ z, t.kn = z := ⟨_, rfl⟩
    obtain ⟨kc, h8⟩ : ∃ z, t.kc = z := ⟨_, rfl⟩
    have HK : Hid (kn = t.kids.length) := Lib.hid (by rw [← h7]; exact hkn)
    have hnbl : Hid (nb < w.heap.size) := Lib.hid hln
    have hk1' : kn ≤ maxLen := by rw [← h7]; exact hk1
    have hk2 : kn < 2000 := by rw [← h7, hkn]; exact hkl2
    simp only [h1, h2, h3, h4, h5, h6, h7, h8] at cO cN cP HEnd HRow ⊢
    have hbx := (Below.refl _ w).alloc (Nat.le_refl _) (.cells #[.int .i64 tag, .slice aa an ac, .string tx, .slice ka kn kc] 34)
    have HBX := Lib.hid hbx
    have CO := Lib.hid cO
    have CP := Lib.hid cP
    clear h1 h2 h3 h4 h5 h6 h7 h8 hS0 hk hkl hle hln hbn htag0 hkl2 hlen hspos hsq hslk hmay hgk hshk hok hsl hkr hks hkn hk1 htz hsz hrow hrow2 hbw ih hF hI hc hb0 hP0 hn hh cO cP hbx hv
    go_enter Tryd.func76, Tryd.ntmps76
    go_upto_region 2 with (go_at_call 42; ((with_reducible refine (cN _).mono ?_); rintro e w2 ⟨rfl, hb2⟩))
    have hsz : (w.alloc (.cells #[.int .i64 tag, .slice aa an ac, .string tx, .slice ka kn kc] 34)).heap.size = w.heap.size + 1 := by simp
    have hbase := HBX.out.trans (hb2.mono HBX.out.size)
    have hge2 : w.heap.size < w2.heap.size := by have := hb2.size; omega
    have hS : (w2.cell? ⟨w.heap.size, 0, none⟩ = some (.int .i64 tag) ∧ w2.cell? ⟨w.heap.size, 1, none⟩ = some (.slice aa an ac) ∧ w2.cell? ⟨w.heap.size, 3, none⟩ = some (.slice ka kn kc)) := ⟨(hb2.cell (p := ⟨w.heap.size, 0, none⟩) (show w.heap.size < _ by omega)).trans (by simp [go_sem]), (hb2.cell (p := ⟨w.heap.size, 1, none⟩) (show w.heap.size < _ by omega)).trans (by simp [go_sem]), (hb2.cell (p := ⟨w.heap.size, 3, none⟩) (show w.heap.size < _ by omega)).trans (by simp [go_sem])⟩
    have KS : Hid (∀ W', But nb w2 W' → (W'.cell? ⟨w.heap.size, 0, none⟩ = some (.int .i64 tag) ∧ W'.cell? ⟨w.heap.size, 1, none⟩ = some (.slice aa an ac) ∧ W'.cell? ⟨w.heap.size, 3, none⟩ = some (.slice ka kn kc))) := Lib.hid (fun W' h => ⟨(h.cell hge2 (by have := hnbl.out; omega) 0).trans hS.1, (h.cell hge2 (by have := hnbl.out; omega) 1).trans hS.2.1, (h.cell hge2 (by have := hnbl.out; omega) 3).trans hS.2.2⟩)
    have HBase := Lib.hid hbase
    have hb : Hid (Below w2.heap.size w2 w2) := Lib.hid (Below.refl _ _)
    have hbt : Hid (But nb w2 w2) := Lib.hid (But.refl _ _)
    have cO := fun W (hq : Below w2.heap.size w2 W) => CO.out W (HBase.out.trans (hq.mono HBase.out.size))
    clear hsz hb2 hbase hge2
    go_region_held3 (fun W' => (W'.cell? ⟨w.heap.size, 0, none⟩ = some (.int .i64 tag) ∧ W'.cell? ⟨w.heap.size, 1, none⟩ = some (.slice aa an ac) ∧ W'.cell? ⟨w.heap.size, 3, none⟩ = some (.slice ka kn kc))) (first | (with_reducible exact hS) | (refine KS.out _ ?_; (repeat (first | (with_reducible exact hbt.out) | (with_reducible exact But.refl _ _) | (with_reducible refine But.drew ?_) | (with_reducible refine But.alloc ?_ _))); done)) (first
      | (go_at_call 81; ((with_reducible refine (cO _ (show Below w2.heap.size w2 _ by (repeat (first | (with_reducible exact hb.out) | (with_reducible exact Below.refl _ _) | (with_reducible refine Below.drew ?_) | (with_reducible refine Below.alloc ?_ ?_ _) | omega | (simp <;> omega))))).mono ?_); rintro e w5 ⟨aa3, ac3, rfl, hb5, HA⟩; have hd2 := Lib.hid ((show Below w2.heap.size w2 _ by (repeat (first | (with_reducible exact hb.out) | (with_reducible exact Below.refl _ _) | (with_reducible refine Below.drew ?_) | (with_reducible refine Below.alloc ?_ ?_ _) | omega | (simp <;> omega)))).trans (hb5.mono (by first | exact hb.out.size | (simp; exact hb.out.size) | (simp; omega)))); clear hb hb5; have hb := hd2; clear hd2 hbt; have hbt := Lib.hid (But.of_below (nb := nb) hb.out); replace hS := KS.out _ hbt.out))
      | (go_at_call 43; ((with_reducible refine (HA.out _ (by (repeat (first | (with_reducible exact Below.refl _ _) | (with_reducible refine Below.drew ?_) | (with_reducible refine Below.alloc ?_ ?_ _) | omega | (simp <;> omega))))).mono ?_); rintro e w6 ⟨rfl, hbt6, HQ⟩; have hd3 := Lib.hid (But.trans (show But nb w2 _ by (repeat (first | (with_reducible exact hbt.out) | (with_reducible exact But.refl _ _) | (with_reducible refine But.drew ?_) | (with_reducible refine But.alloc ?_ _)))) hbt6); clear hbt hbt6 hb; have hbt := hd3; clear hd3; replace hS := KS.out _ hbt.out)))
    all_goals obtain ⟨_, _, z3⟩ := hS
    all_goals go_wp2
    all_goals go_loopw [9, 10, 32] (fun _ _ i wr => ∃ a : Nat, a ≤ kn ∧ i = .int .i64 a ∧ Hid (∃ la x, SownX B p nb deep l t k a w wr la x)) (fun _ _ i _ => kn - (RowKit.intOf i).toNat)
    case atStart => exact ⟨0, Nat.zero_le _, rfl, Lib.hid (HLat.out _ _ _ (by (repeat (first | (with_reducible exact Below.refl _ _) | (with_reducible refine Below.drew ?_) | (with_reducible refine Below.alloc ?_ ?_ _) | omega | (simp <;> omega)))) HQ.out)⟩
    case round =>
      obtain ⟨a, ha, rfl, HA⟩ := hrel
      by_cases hlt : a < kn
      · have hal : a < t.kids.length := by rw [← HK.out]; exact hlt
        have haI : (a : Int) < (kn : Int) := by omega
        obtain ⟨s, hs⟩ : ∃ s, t.kids[a]? = some s := ⟨_, List.getElem?_eq_getElem hal⟩
        obtain ⟨b, o, eka, y0, y1, y2, y3⟩ := HRow.out a s wr hs HA.out
        have cP := fun (W : World) (hb : Below wr.heap.size wr W) => CP.out a wr W s hs HA.out hb
        have hvs : s.v = .agg #[.int .i64 s.tag, .slice s.aa s.an s.ac, .string s.tx, .slice s.ka s.kn s.kc] := rfl
        rw [hvs] at cP
        subst eka
        have hbr : Hid (Below wr.heap.size wr wr) := Lib.hid (Below.refl _ _)
        clear HA hal hs hvs
        go_wp2_with (first
          | (go_at_call 76; ((with_reducible refine (cP _ (by (repeat (first | (with_reducible exact Below.refl _ _) | (with_reducible refine Below.drew ?_) | (with_reducible refine Below.alloc ?_ ?_ _) | omega | (simp <;> omega))))).mono ?_); rintro e w7 ⟨j, rfl, cJ⟩))
          | (go_at_call 51; ((with_reducible refine (cJ).mono ?_); rintro e w8 ⟨rfl, HA8⟩)))
        go_roundw
        case rel => exact ⟨a + 1, hlt, by go_num, HA8⟩
        case measure => simp [RowKit.intOf]; omega
      · have ham : a = kn := by omega
        subst ham
        have HE := Lib.hid (HEnd.out _ HA.out)
        clear HA
        go_wp2
        go_ret
        exact HE.out


end Go.Proofs.YtdegkcibadjogaaDoor
