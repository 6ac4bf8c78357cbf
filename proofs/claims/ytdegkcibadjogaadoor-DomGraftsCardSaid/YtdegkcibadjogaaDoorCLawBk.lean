/-
  The law DomBack.
-/
import Derived.Test.YtdegkcibadjogaaDoorCInsX
import Derived.Test.YtdegkcibadjogaaDoorCLawAp

namespace Go.Proofs.YtdegkcibadjogaaDoor
open Go.RowKit Go.Lib

theorem Like.refl (l : List (Option Nd)) : Like l l := ⟨rfl, fun _ h => h, fun _ y h => ⟨y, h, rfl, rfl, rfl, rfl, rfl⟩⟩
theorem ins_get {K : List Int} {z : Int} {a : Nat} (ha : a ≤ K.length) : (insZ K a z)[a]? = some z := by
  unfold insZ
  have hl : (K.take a).length = a := by rw [List.length_take]; omega
  rw [List.getElem?_append_right (by omega), hl, Nat.sub_self]
  rfl
section
variable {B : Nat} {w0 Wb wr : World} {S : Nat → Prop} {p nb : Nat} {d : Int} {l : List (Option Nd)}
theorem HsSt.more (s : HsSt B w0 Wb S p nb d l l wr) {W : World} (hS : ∀ q, S q → q < Wb.heap.size) (hb : Below wr.heap.size wr W) : HsSt B w0 W (fun b => S b ∨ (wr.heap.size ≤ b ∧ b < W.heap.size)) p nb d l l W := by
  have s2 := s.below hS hb
  refine ⟨s2.b, s2.f, s2.i, s2.ls, fun q hq => ?_, fun q _ => rfl⟩
  rcases hq with hq | hq
  · exact s2.sn q hq
  · have h1 := s.f.ln
    exact ⟨by omega, fun ht => by have := TB.lt s.f q ht; omega⟩
theorem bk_remove (s : HsSt B w0 Wb S p nb d l l wr) (hS : ∀ q, S q → q < Wb.heap.size) {i a j : Nat} {x y : Nd} (hi : l[i]? = some (some x)) (hj : l[j]? = some (some y)) (hu : y.up = (i : Int)) (ha : x.kids[a]? = some (j : Int)) (W : World) (hb : Below wr.heap.size wr W) :
    Calls Tryd.prog 29 #[.pointer (some ⟨p, 0, none⟩), .int .i64 (j : Int)] W fun e w' => e = .returned (.int .i64 0) ∧ HsSt B w0 Wb S p nb d (removedZ l i x a j y) (removedZ l i x a j y) w' := by
  have s2 := s.below hS hb
  have hij : i ≠ j := fun e => by
    obtain ⟨r, hr⟩ := s.i.dep
    have := hr.up j y i hj hu
    rw [e] at this
    omega
  have hix := ixZ_ofB x.kids 0 a (s.i.nod i x hi) ha
  rw [Nat.zero_add] at hix
  refine (remove_but B W p nb d l s2.f i a j x y hi hj hij hu hix (List.getElem?_eq_some_iff.1 ha).1).mono ?_
  rintro e w' ⟨rfl, h1, h2, h3⟩
  have ql : ∀ q, S q → q < W.heap.size := fun q hq => lt_of_same (hS q hq) (s2.same q hq)
  exact ⟨rfl, s2.b.trans h1, h2, s.i.remove hi hj hu ha, LS.refl _, fun q hq => ⟨(s2.sn q hq).1, fun ht => (s2.sn q hq).2 (TB.removed hi hj q ht)⟩,
    fun q hq => (h3 q (ql q hq) (fun e => (s2.sn q hq).2 ⟨i, x, hi, .inr e⟩) (fun e => (s2.sn q hq).2 ⟨i, x, hi, .inl e.symm⟩) (fun e => (s2.sn q hq).2 ⟨j, y, hj, .inl e.symm⟩)).trans (s2.same q hq)⟩
theorem HsSt.joined (s : HsSt B w0 Wb S p nb d l l wr) (hS : ∀ q, S q → q < Wb.heap.size) {w' : World} {i a j : Nat} {x y : Nd} {ka : Option Addr} {kc : Nat} (hi : l[i]? = some (some x)) (hj : l[j]? = some (some y)) (h1 : Below B wr w') (h2 : Full B w' p nb d (joinedZ l i x a j y ka kc)) (hI : Inv d (joinedZ l i x a j y ka kc))
    (h3 : (Value.slice ka (insZ x.kids a j).length kc).ownBlock = x.ks.ownBlock ∨ ∀ b, (Value.slice ka (insZ x.kids a j).length kc).ownBlock = some b → wr.heap.size ≤ b) (h4 : ∀ q, q < wr.heap.size → x.ks.ownBlock ≠ some q → q ≠ x.ab → q ≠ y.ab → w'.heap[q]? = wr.heap[q]?) :
    HsSt B w0 Wb S p nb d (joinedZ l i x a j y ka kc) (joinedZ l i x a j y ka kc) w' := by
  have ql : ∀ q, S q → q < wr.heap.size := fun q hq => lt_of_same (hS q hq) (s.same q hq)
  exact ⟨s.b.trans h1, h2, hI, LS.refl _, fun q hq => ⟨(s.sn q hq).1, fun ht => (s.sn q hq).2 (TB.joined hi hj h3 q (ql q hq) ht)⟩,
    fun q hq => (h4 q (ql q hq) (fun e => (s.sn q hq).2 ⟨i, x, hi, .inr e⟩) (fun e => (s.sn q hq).2 ⟨i, x, hi, .inl e.symm⟩) (fun e => (s.sn q hq).2 ⟨j, y, hj, .inl e.symm⟩)).trans (s.same q hq)⟩
/-- Insert: an error, or the node is there. -/
theorem bk_insert (s : HsSt B w0 Wb S p nb d l l wr) (hS : ∀ q, S q → q < Wb.heap.size) (hd : d ≤ 40) (pa at_ : Int) (j : Nat) :
    Calls Tryd.prog 15 #[.pointer (some ⟨p, 0, none⟩), .int .i64 pa, .int .i64 at_, .int .i64 (j : Int)] wr fun e w' => (∃ c : Int, (c == 0) = false ∧ c ≠ 0 ∧ e = .returned (.int .i64 c) ∧ HsSt B w0 Wb S p nb d l l w') ∨
      (e = .returned (.int .i64 0) ∧ ∃ (i a : Nat) (x y : Nd) (ka : Option Addr) (kc : Nat), pa = (i : Int) ∧ at_ = (a : Int) ∧ l[i]? = some (some x) ∧ l[j]? = some (some y) ∧ y.up = -1 ∧ i ≠ j ∧ a ≤ x.kids.length ∧ HsSt B w0 Wb S p nb d (joinedZ l i x a j y ka kc) (joinedZ l i x a j y ka kc) w') := by
  refine (insert_exact B wr p nb d l s.f s.i hd pa at_ (j : Int)).mono ?_
  rintro e w' (⟨c, h1, h2, h3⟩ | ⟨h1, h2, i, a, j2, x, y, ka, kc, e1, e2, e3, h3, h4, h5, h6, h7, h8, h9, h10, h11⟩)
  · exact .inl ⟨c, by simpa using h1, h1, h2, s.below hS h3⟩
  · obtain rfl : j = j2 := by omega
    exact .inr ⟨h1, i, a, x, y, ka, kc, e1, e2, h3, h4, h5, h6, h7, s.joined hS h3 h4 h2 h8 h9 h10 h11⟩
/-- Insert, when all is well. -/
theorem bk_put (s : HsSt B w0 Wb S p nb d l l wr) (hS : ∀ q, S q → q < Wb.heap.size) (hd : d ≤ 40) {i a j : Nat} {x y : Nd} (hM : MayInZ l i a j x y 41) (hf : depthF l 41 (i : Int) + 1 + heightF l 41 (j : Int) ≤ d) (W : World) (hb : Below wr.heap.size wr W) :
    Calls Tryd.prog 15 #[.pointer (some ⟨p, 0, none⟩), .int .i64 (i : Int), .int .i64 (a : Int), .int .i64 (j : Int)] W fun e w' => e = .returned (.int .i64 0) ∧ ∃ ka kc, HsSt B w0 Wb S p nb d (joinedZ l i x a j y ka kc) (joinedZ l i x a j y ka kc) w' := by
  have s2 := s.below hS hb
  refine (ins_but B W p nb d l s2.f i a j 41 x y hM hf).mono ?_
  rintro e w' ⟨rfl, h1, ka, kc, h2, h3, h4⟩
  have hl := hM.hl
  unfold looseT at hl
  simp only [Bool.and_eq_true, decide_eq_true_eq] at hl
  rw [(nd_some hM.hj).2] at hl
  exact ⟨rfl, ka, kc, s2.joined hS hM.hi hM.hj h1 h2 (s.i.join hd hM.hi hM.hj hM.ht hl.2 (by omega) hM.hrt hf ka kc) h3 h4⟩
end

set_option maxRecDepth 20000 in
set_option maxHeartbeats 16000000 in
theorem domBack_any (w : World) (hT : OwnT w) (c d id pa at_ : Int) (v : Value) (l : List Cl) (hv : ClsAt w v l) :
    Calls Tryd.prog 7 #[.int .i64 c, .int .i64 d, v, .int .i64 id, .int .i64 pa, .int .i64 at_] w fun e w' => e = .returned (.bool true) ∧ Below w.heap.size w w' := by
  have cH := heavy_any w v l hv
  have cA := fun (W : World) (hb : Below w.heap.size w W) => awake_any W (hT.below hb)
  cases hh : heavyP l with
  | true =>
    rw [hh] at cH
    obtain ⟨a0, c0, rfl⟩ := hv.len
    clear hh hv hT
    go_enter Tryd.func7, Tryd.ntmps7
    go_wp2_with (first
      | (go_at_call 8; ((with_reducible refine (cH).mono ?_); rintro e w1 ⟨rfl, hb⟩))
      | (go_at_call 9; ((with_reducible refine (cA _ hb).mono ?_); rintro e w2 ⟨rfl, hb2⟩)))
    go_ret
    exact ⟨rfl, hb.trans (hb2.mono hb.size)⟩
  | false =>
    rw [hh] at cH
    have cP := fun (W : World) (hb : Below w.heap.size w W) => played_any W (hT.below hb) c d v l (hv.below hb) hh
    obtain ⟨a0, c0, rfl⟩ := hv.len
    have HT := Lib.hid hT
    clear hh hv hT
    go_enter Tryd.func7, Tryd.ntmps7
    go_upto_region 4 with (first
      | (go_at_call 8; ((with_reducible refine (cH).mono ?_); rintro e w2 ⟨rfl, hbq⟩))
      | (go_at_call 18; ((with_reducible refine (cP _ hbq).mono ?_); rintro e w3 (⟨rfl, hb3⟩ | ⟨p, rfl, hS⟩))))
    · go_wp2_with (go_at_call 9; ((with_reducible refine (cA _ (hbq.trans (hb3.mono hbq.size))).mono ?_); rintro e w4 ⟨rfl, hb4⟩))
      go_ret
      exact ⟨rfl, (hbq.trans (hb3.mono hbq.size)).trans (hb4.mono (hbq.trans (hb3.mono hbq.size)).size)⟩
    · obtain ⟨hd0, hd1, _, _, hbP, nb, l2, hF, hI, _⟩ := hS
      obtain ⟨B, hB⟩ : ∃ z, w2.heap.size = z := ⟨_, rfl⟩
      rw [hB] at hbP hF
      have hBw : w.heap.size ≤ B := by rw [← hB]; exact hbq.size
      have hB3 : B ≤ w3.heap.size := by have := hF.bn; have := hF.ln; omega
      have hT2a : OwnT w2 := HT.out.below hbq
      have hbw3 : Below w.heap.size w w3 := by rw [← hB] at hbP; exact hbq.trans (hbP.mono hbq.size)
      have cHs := has_any w3 p nb d id l2 hF.t
      have cPr := parent_any w3 p nb d id l2 hF.t
      clear cP cH
      cases hx : ndAt l2 id with
      | none =>
        rw [(nd_none hx).1] at cHs
        clear hx hF hI hbP
        go_wp2_with (first
          | (go_at_call 31; ((with_reducible refine (cHs).mono ?_); rintro e w5 ⟨rfl, rfl⟩))
          | (go_at_call 9; ((with_reducible refine (cA _ hbw3).mono ?_); rintro e w4 ⟨rfl, hb4⟩)))
        go_ret
        exact ⟨rfl, hbw3.trans (hb4.mono hbw3.size)⟩
      | some y =>
        obtain ⟨j, rfl, hj⟩ := nd_id hx
        rw [(nd_some hj).1] at cHs
        rw [(nd_some hj).2] at cPr
        rcases hI.par j y hj with hu | ⟨i, x, hu, hi, hm⟩
        · rw [hu] at cPr
          clear hx hF hI hbP hj hu
          go_wp2_with (first
            | (go_at_call 31; ((with_reducible refine (cHs).mono ?_); rintro e w5 ⟨rfl, rfl⟩))
            | (go_at_call 27; ((with_reducible refine (cPr).mono ?_); rintro e w5 ⟨rfl, rfl⟩))
            | (go_at_call 9; ((with_reducible refine (cA _ hbw3).mono ?_); rintro e w4 ⟨rfl, hb4⟩)))
          go_ret
          exact ⟨rfl, hbw3.trans (hb4.mono hbw3.size)⟩
        · rw [hu] at cPr
          have hi0 : ¬ (i : Int) < 0 := by omega
          have hi0b : decide ((i : Int) < 0) = false := decide_eq_false hi0
          go_upto_region 6 with (first
            | (go_at_call 31; ((with_reducible refine (cHs).mono ?_); rintro e w5 ⟨rfl, rfl⟩))
            | (go_at_call 27; ((with_reducible refine (cPr).mono ?_); rintro e w5 ⟨rfl, rfl⟩)))
          have hT2 : OwnT w2 := hT2a
          have hkl := (hF.t.yes i x hi).2.kl
          have hij : i ≠ j := fun e => by
            obtain ⟨r, hr⟩ := hI.dep
            have := hr.up j y i hj hu
            rw [e] at this
            omega
          have hj0 : j ≠ 0 := fun e => by
            obtain ⟨x0, a1, a2, _⟩ := hI.host
            rw [e, a1] at hj
            obtain rfl := Option.some.inj (Option.some.inj hj)
            omega
          have hixa : ∃ a : Nat, ixZ x.kids (j : Int) 0 = (a : Int) ∧ x.kids[a]? = some (j : Int) := by
            rcases ixZ_at x.kids (j : Int) 0 with ⟨_, h2⟩ | ⟨a, h1, h2⟩
            · exact absurd hm h2
            · exact ⟨a, by rw [h1, Nat.zero_add], h2⟩
          obtain ⟨a, hix, ha⟩ := hixa
          have hidx : indexT l2 (j : Int) = (a : Int) := by
            unfold indexT
            rw [(nd_some hj).2, hu, ndAt_of hi]
            exact hix
          have cPl := fun (z : Int) (W' : World) (hb : Below w3.heap.size w3 W') => plain_any B p nb d l2 hI.ats 41 z (hI.endsHa hd1 z) W' (hF.below hb)
          unfold PlainPost at cPl
          have HF := Lib.hid hF
          have HI := Lib.hid hI
          have HB := Lib.hid (And.intro hbw3 (And.intro hbP hT2))
          have HXY := Lib.hid (And.intro hi (And.intro hj (And.intro hu (And.intro ha (And.intro hkl (And.intro hij hj0))))))
          have HBQ := Lib.hid hbq
          clear cHs cPr hx hF hI hbP hbw3 hT2 hi hj hu ha hkl hm hix hbq hij hi0 hi0b hT2a
          go_upto_region 7 with (first
            | (go_at_call 21; ((with_reducible refine (cPl 0 _ (Below.refl _ _)).mono ?_); rintro e w4 ⟨tgA, aaA, anA, acA, txA, kaA, knA, kcA, atA, ksA, rfl, hpA, hb4, honA⟩))
            | (go_at_call 21; ((with_reducible refine (cPl _ _ hb4).mono ?_); rintro e w5 ⟨tgB, aaB, anB, acB, txB, kaB, knB, kcB, atB, ksB, rfl, hpB, hb5, honB⟩)))
          obtain ⟨q, hq⟩ : ∃ z, w5.heap.size = z := ⟨_, rfl⟩
          obtain ⟨W6, hW6⟩ : ∃ z, (w5.alloc (.cells #[.int .i64 tgA, .slice aaA anA acA, .string txA, .slice kaA knA kcA] 34)).alloc (.cells #[.int .i64 tgB, .slice aaB anB acB, .string txB, .slice kaB knB kcB] 34) = z := ⟨_, rfl⟩
          have hs6 : W6.heap.size = q + 1 + 1 := by rw [← hW6, ← hq]; simp
          have hb56 : Below w5.heap.size w5 W6 := by rw [← hW6]; exact ((Below.refl _ _).alloc (Nat.le_refl _) _).alloc (by simp) _
          have hb46 : Below w4.heap.size w4 W6 := hb5.trans (hb56.mono hb5.size)
          have hb6 : Below w3.heap.size w3 W6 := hb4.trans (hb46.mono hb4.size)
          have hs34 := hb4.size
          have hs45 := hb5.size
          have hs56 := hb56.size
          have hXA : (W6.cell? ⟨q, 0, none⟩ = some (.int .i64 tgA) ∧ W6.cell? ⟨q, 1, none⟩ = some (.slice aaA anA acA) ∧ W6.cell? ⟨q, 2, none⟩ = some (.string txA) ∧ W6.cell? ⟨q, 3, none⟩ = some (.slice kaA knA kcA)) := by rw [← hW6, ← hq]; exact ⟨by simp [go_sem], by simp [go_sem], by simp [go_sem], by simp [go_sem]⟩
          have hXB : (W6.cell? ⟨(q + 1), 0, none⟩ = some (.int .i64 tgB) ∧ W6.cell? ⟨(q + 1), 1, none⟩ = some (.slice aaB anB acB) ∧ W6.cell? ⟨(q + 1), 2, none⟩ = some (.string txB) ∧ W6.cell? ⟨(q + 1), 3, none⟩ = some (.slice kaB knB kcB)) := by rw [← hW6, ← hq]; exact ⟨by simp [go_sem], by simp [go_sem], by simp [go_sem], by simp [go_sem]⟩
          have hoA : PlOn (fun b => w3.heap.size ≤ b ∧ b < W6.heap.size) W6 (Pn.mk tgA aaA anA acA txA kaA knA kcA atA ksA) := (honA.keep (w' := W6) (fun b hb => hb46.block b hb.2)).more (fun b hb => ⟨hb.1, by omega⟩) (fun b hb => hb.2)
          have hoB : PlOn (fun b => w3.heap.size ≤ b ∧ b < W6.heap.size) W6 (Pn.mk tgB aaB anB acB txB kaB knB kcB atB ksB) := (honB.keep (w' := W6) (fun b hb => hb56.block b hb.2)).more (fun b hb => ⟨by omega, by omega⟩) (fun b hb => hb.2)
          have HPrA := Lib.hid hoA.at_
          have HPrB := Lib.hid hoB.at_
          have HpA := Lib.hid hpA
          have HpB := Lib.hid hpB
          have hqS : (fun b => w3.heap.size ≤ b ∧ b < W6.heap.size) q := ⟨by omega, by omega⟩
          have hqS1 : (fun b => w3.heap.size ≤ b ∧ b < W6.heap.size) (q + 1) := ⟨by omega, by omega⟩
          have KXA : Hid (∀ W' : World, (∀ b, (fun b => w3.heap.size ≤ b ∧ b < W6.heap.size) b → W'.heap[b]? = W6.heap[b]?) → (W'.cell? ⟨q, 0, none⟩ = some (.int .i64 tgA) ∧ W'.cell? ⟨q, 1, none⟩ = some (.slice aaA anA acA) ∧ W'.cell? ⟨q, 2, none⟩ = some (.string txA) ∧ W'.cell? ⟨q, 3, none⟩ = some (.slice kaA knA kcA))) := Lib.hid (fun W' h => by
            obtain ⟨x0, x1, x2, x3⟩ := hXA
            have hs := h q hqS
            exact ⟨(World.cell?_of_block (w := W6) hs).trans x0, (World.cell?_of_block (w := W6) hs).trans x1, (World.cell?_of_block (w := W6) hs).trans x2, (World.cell?_of_block (w := W6) hs).trans x3⟩)
          have KXB : Hid (∀ W' : World, (∀ b, (fun b => w3.heap.size ≤ b ∧ b < W6.heap.size) b → W'.heap[b]? = W6.heap[b]?) → (W'.cell? ⟨(q + 1), 0, none⟩ = some (.int .i64 tgB) ∧ W'.cell? ⟨(q + 1), 1, none⟩ = some (.slice aaB anB acB) ∧ W'.cell? ⟨(q + 1), 2, none⟩ = some (.string txB) ∧ W'.cell? ⟨(q + 1), 3, none⟩ = some (.slice kaB knB kcB))) := Lib.hid (fun W' h => by
            obtain ⟨x0, x1, x2, x3⟩ := hXB
            have hs := h (q + 1) hqS1
            exact ⟨(World.cell?_of_block (w := W6) hs).trans x0, (World.cell?_of_block (w := W6) hs).trans x1, (World.cell?_of_block (w := W6) hs).trans x2, (World.cell?_of_block (w := W6) hs).trans x3⟩)
          have HSS : Hid (∀ b, (fun b => w3.heap.size ≤ b ∧ b < W6.heap.size) b → b < W6.heap.size) := Lib.hid (fun b hb => hb.2)
          have HS : Hid (HsSt B w2 W6 (fun b => w3.heap.size ≤ b ∧ b < W6.heap.size) p nb d l2 l2 W6) := Lib.hid ⟨HB.out.2.1.trans (hb6.mono hB3), HF.out.below hb6, HI.out, LS.refl l2, fun b hb => ⟨fun e => by have h9 := HF.out.ln; have h8 := hb.1; omega, fun ht => by have h9 := TB.lt HF.out b ht; have h8 := hb.1; omega⟩, fun b _ => rfl⟩
          have cPr6 := parent_any W6 p nb d (j : Int) l2 HS.out.f.t
          rw [(nd_some HXY.out.2.1).2, HXY.out.2.2.1] at cPr6
          have cIx6 := index_any W6 p nb d (j : Int) l2 HS.out.f.t
          rw [hidx] at cIx6
          rw [hW6]
          have hqa : w5.heap.size + 1 = q + 1 := by rw [hq]
          (try simp only [hq])
          clear hW6 hb56 hb46 hb6 hXA hXB hoA hoB honA honB hpA hpB hb4 hb5 cPl hidx hqS hqS1
          go_upto_region 8 with (first
            | (go_at_call 27; ((with_reducible refine (cPr6).mono ?_); rintro e w21 ⟨rfl, rfl⟩))
            | (go_at_call 28; ((with_reducible refine (cIx6).mono ?_); rintro e w21 ⟨rfl, rfl⟩)))
          clear cPr6 cIx6
          obtain ⟨hi, hj, hu, ha, hkl, hij, hj0⟩ := HXY.out
          have cRm := fun (W : World) (hb : Below W6.heap.size W6 W) => bk_remove HS.out HSS.out hi hj hu ha W hb
          have hN1 := near_removed (a := a) hi hj hij
          have hj1 : (removedZ l2 i x a j y)[j]? = some (some { y with up := -1 }) := by unfold removedZ; exact set_at (w := some y) (by rw [set_ne (fun e => hij e.symm)]; exact hj)
          have hP1 : plainF (removedZ l2 i x a j y) 41 (j : Int) = plainF l2 41 (j : Int) := by
            obtain ⟨r, hr⟩ := HI.out.dep
            exact hN1.plain HI.out hr 41 j y hj (by have := hr.up j y i hj hu; omega)
          have hup1 : upT (removedZ l2 i x a j y) (j : Int) = -1 := (nd_some hj1).2
          have hix1 : indexT (removedZ l2 i x a j y) (j : Int) = -1 := by unfold indexT; rw [hup1, nd_neg]
          have hdp1 : depthF (removedZ l2 i x a j y) 41 (j : Int) = 0 := by
            unfold depthF
            rw [(nd_some hj1).1, if_pos rfl, hup1]
            unfold depthF
            rw [(nd_none (nd_neg _)).1]
            rfl
          have HL1 : Hid (∀ l', Like (removedZ l2 i x a j y) l' → Inv d l' → (∃ x' y', MayInZ l' i a j x' y' 41 ∧ depthF l' 41 (i : Int) + 1 + heightF l' 41 (j : Int) ≤ d ∧ ∀ ka kc, plainF (joinedZ l' i x' a j y' ka kc) 41 0 = plainF l2 41 0)) := Lib.hid (fun l' hL hI' => by
            obtain ⟨x', y', h1, h2⟩ := may_back HI.out hd1 hi hj hu ha hkl hj0 hL hI'
            exact ⟨x', y', h1, h2, fun ka kc => (like_back hi hj hij hu ha hL h1.hi h1.hj).plain 41 0⟩)
          obtain ⟨l1, hl1⟩ : ∃ z, removedZ l2 i x a j y = z := ⟨_, rfl⟩
          rw [hl1] at cRm hj1 hP1 hup1 hix1 hdp1 HL1
          have cPa : ∀ wc, HsSt B w2 W6 (fun b => w3.heap.size ≤ b ∧ b < W6.heap.size) p nb d l1 l1 wc → ∀ W, Below wc.heap.size wc W → Calls Tryd.prog 27 #[.pointer (some ⟨p, 0, none⟩), .int .i64 (j : Int)] W fun e w' => e = .returned (.int .i64 (-1)) ∧ W = w' := fun wc s W hb => by
            have := parent_any W p nb d (j : Int) l1 (s.f.below hb).t
            rw [hup1] at this
            exact this
          have cIx : ∀ wc, HsSt B w2 W6 (fun b => w3.heap.size ≤ b ∧ b < W6.heap.size) p nb d l1 l1 wc → ∀ W, Below wc.heap.size wc W → Calls Tryd.prog 28 #[.pointer (some ⟨p, 0, none⟩), .int .i64 (j : Int)] W fun e w' => e = .returned (.int .i64 (-1)) ∧ W = w' := fun wc s W hb => by
            have := index_any W p nb d (j : Int) l1 (s.f.below hb).t
            rw [hix1] at this
            exact this
          have cDp : ∀ wc, HsSt B w2 W6 (fun b => w3.heap.size ≤ b ∧ b < W6.heap.size) p nb d l1 l1 wc → ∀ W, Below wc.heap.size wc W → Calls Tryd.prog 36 #[.pointer (some ⟨p, 0, none⟩), .int .i64 (j : Int)] W fun e w' => e = .returned (.int .i64 0) ∧ W = w' := fun wc s W hb => by
            have := depth_any W p nb d l1 (s.f.below hb).t (j : Int) 41 (by omega) (s.i.endsDa hd1 _)
            rw [hdp1] at this
            exact this
          have cPj : ∀ wc, HsSt B w2 W6 (fun b => w3.heap.size ≤ b ∧ b < W6.heap.size) p nb d l1 l1 wc → ∀ W, Below wc.heap.size wc W → Calls Tryd.prog 21 #[.pointer (some ⟨p, 0, none⟩), .int .i64 (j : Int)] W (PlainPost (plainF l2 41 (j : Int)) W) := fun wc s W hb => by
            have := plain_any B p nb d l1 s.i.ats 41 (j : Int) (s.i.endsHa hd1 _) W (s.f.below hb)
            rw [hP1] at this
            exact this
          have cP0 : ∀ wc, HsSt B w2 W6 (fun b => w3.heap.size ≤ b ∧ b < W6.heap.size) p nb d l1 l1 wc → ∀ W, Below wc.heap.size wc W → Calls Tryd.prog 21 #[.pointer (some ⟨p, 0, none⟩), .int .i64 0] W (PlainPost (plainF l1 41 0) W) := fun wc s W hb => plain_any B p nb d l1 s.i.ats 41 0 (s.i.endsHa hd1 _) W (s.f.below hb)
          unfold PlainPost at cPj cP0
          have HJ1 := Lib.hid (And.intro hj1 hP1)
          have hS : (W6.cell? ⟨(q + 1), 0, none⟩ = some (.int .i64 tgB) ∧ W6.cell? ⟨(q + 1), 1, none⟩ = some (.slice aaB anB acB) ∧ W6.cell? ⟨(q + 1), 2, none⟩ = some (.string txB) ∧ W6.cell? ⟨(q + 1), 3, none⟩ = some (.slice kaB knB kcB)) := KXB.out W6 HS.out.same
          have hb : Hid (Below W6.heap.size W6 W6) := Lib.hid (Below.refl _ _)
          clear hi hj hu ha hkl hij hj0 hN1 hj1 hP1 hup1 hix1 hdp1 hl1
          go_region_held3 (fun W' => (W'.cell? ⟨(q + 1), 0, none⟩ = some (.int .i64 tgB) ∧ W'.cell? ⟨(q + 1), 1, none⟩ = some (.slice aaB anB acB) ∧ W'.cell? ⟨(q + 1), 2, none⟩ = some (.string txB) ∧ W'.cell? ⟨(q + 1), 3, none⟩ = some (.slice kaB knB kcB))) (first | (with_reducible exact hS) | (refine KXB.out _ (HsSt.below HS.out HSS.out ?_).same; (repeat (first | (with_reducible exact hb.out) | (with_reducible exact Below.refl _ _) | (with_reducible refine Below.drew ?_) | (with_reducible refine Below.alloc ?_ ?_ _) | omega | (simp <;> omega))); done)) (first
            | (go_at_call 29; ((with_reducible refine (cRm _ (show Below W6.heap.size W6 _ by (repeat (first | (with_reducible exact hb.out) | (with_reducible exact Below.refl _ _) | (with_reducible refine Below.drew ?_) | (with_reducible refine Below.alloc ?_ ?_ _) | omega | (simp <;> omega))))).mono ?_); rintro e w8 ⟨rfl, hs8⟩; clear hb HS; have HS := Lib.hid hs8; clear hs8; have hb := Lib.hid (Below.refl w8.heap.size w8); replace hS := KXB.out _ HS.out.same))
            | (go_at_call 27; ((with_reducible refine (cPa _ HS.out _ (show Below w8.heap.size w8 _ by (repeat (first | (with_reducible exact hb.out) | (with_reducible exact Below.refl _ _) | (with_reducible refine Below.drew ?_) | (with_reducible refine Below.alloc ?_ ?_ _) | omega | (simp <;> omega))))).mono ?_); rintro e w21 ⟨rfl, rfl⟩))
            | (go_at_call 28; ((with_reducible refine (cIx _ HS.out _ (show Below w8.heap.size w8 _ by (repeat (first | (with_reducible exact hb.out) | (with_reducible exact Below.refl _ _) | (with_reducible refine Below.drew ?_) | (with_reducible refine Below.alloc ?_ ?_ _) | omega | (simp <;> omega))))).mono ?_); rintro e w21 ⟨rfl, rfl⟩))
            | (go_at_call 36; ((with_reducible refine (cDp _ HS.out _ (show Below w8.heap.size w8 _ by (repeat (first | (with_reducible exact hb.out) | (with_reducible exact Below.refl _ _) | (with_reducible refine Below.drew ?_) | (with_reducible refine Below.alloc ?_ ?_ _) | omega | (simp <;> omega))))).mono ?_); rintro e w21 ⟨rfl, rfl⟩))
            | (go_at_call 21; ((with_reducible refine (cPj _ HS.out _ (show Below w8.heap.size w8 _ by (repeat (first | (with_reducible exact hb.out) | (with_reducible exact Below.refl _ _) | (with_reducible refine Below.drew ?_) | (with_reducible refine Below.alloc ?_ ?_ _) | omega | (simp <;> omega))))).mono ?_); rintro e w2J ⟨tgJ, aaJ, anJ, acJ, txJ, kaJ, knJ, kcJ, atJ, ksJ, rfl, hp5, hb8, hon8⟩; have hbq := Lib.hid (pre_of (a := w8) hb8 (by (repeat (first | (with_reducible exact hb.out) | (with_reducible exact Below.refl _ _) | (with_reducible refine Below.drew ?_) | (with_reducible refine Below.alloc ?_ ?_ _) | omega | (simp <;> omega))))); have hd2 := Lib.hid (hbq.out.trans (hb8.mono hbq.out.size)); have H8J := Lib.hid hon8.here; have HPJ := Lib.hid hp5; clear hb hb8 hbq hon8 hp5; have hb := hd2; clear hd2; replace hS := KXB.out _ (HsSt.below HS.out HSS.out hb.out).same))
            | (go_at_call 24; ((with_reducible refine (samenode_mk (HPJ.out.trans HpB.out.symm) _ ?p1 ?p2).mono ?_); (case p1 => exact H8J.out.stay (show Below w2J.heap.size w2J _ by (repeat (first | (with_reducible exact Below.refl _ _) | (with_reducible refine Below.drew ?_) | (with_reducible refine Below.alloc ?_ ?_ _) | omega | (simp <;> omega))))); (case p2 => exact HPrB.out _ (HsSt.below HS.out HSS.out (show Below w8.heap.size w8 _ by (repeat (first | (with_reducible exact hb.out) | (with_reducible exact Below.refl _ _) | (with_reducible refine Below.drew ?_) | (with_reducible refine Below.alloc ?_ ?_ _) | omega | (simp <;> omega))))).same); rintro e w22 ⟨rfl, hb10⟩; have hbq := Lib.hid (pre_of (a := w8) hb10 (by (repeat (first | (with_reducible exact hb.out) | (with_reducible exact Below.refl _ _) | (with_reducible refine Below.drew ?_) | (with_reducible refine Below.alloc ?_ ?_ _) | omega | (simp <;> omega))))); have hd2 := Lib.hid (hbq.out.trans (hb10.mono hbq.out.size)); clear hb hb10 hbq; have hb := hd2; clear hd2; replace hS := KXB.out _ (HsSt.below HS.out HSS.out hb.out).same)))
          have HS22 : Hid (HsSt B w2 W6 (fun b => w3.heap.size ≤ b ∧ b < W6.heap.size) p nb d l1 l1 w22) := Lib.hid (HsSt.below HS.out HSS.out hb.out)
          obtain ⟨Z, hZ⟩ : ∃ z, w22.heap.size = z := ⟨_, rfl⟩
          have c0 := cP0 _ HS22.out w22 (Below.refl _ _)
          clear hb hS HS cRm cPa cIx cDp cPj H8J HPJ cP0
          go_upto_region 11 with (go_at_call 21; ((with_reducible refine (c0).mono ?_); rintro e w9 ⟨tgC, aaC, anC, acC, txC, kaC, knC, kcC, atC, ksC, rfl, hpC, hb9, honC⟩))
          obtain ⟨q2, hq2⟩ : ∃ z, w9.heap.size = z := ⟨_, rfl⟩
          obtain ⟨W10, hW10⟩ : ∃ z, w9.alloc (.cells #[.int .i64 tgC, .slice aaC anC acC, .string txC, .slice kaC knC kcC] 34) = z := ⟨_, rfl⟩
          have hs10 : W10.heap.size = q2 + 1 := by rw [← hW10, ← hq2]; simp
          have hb910 : Below w9.heap.size w9 W10 := by rw [← hW10]; exact (Below.refl _ _).alloc (Nat.le_refl _) _
          have hb10 : Below w22.heap.size w22 W10 := hb9.trans (hb910.mono hb9.size)
          have hs229 := hb9.size
          have hs910 := hb910.size
          have hXC : (W10.cell? ⟨q2, 0, none⟩ = some (.int .i64 tgC) ∧ W10.cell? ⟨q2, 1, none⟩ = some (.slice aaC anC acC) ∧ W10.cell? ⟨q2, 2, none⟩ = some (.string txC) ∧ W10.cell? ⟨q2, 3, none⟩ = some (.slice kaC knC kcC)) := by rw [← hW10, ← hq2]; exact ⟨by simp [go_sem], by simp [go_sem], by simp [go_sem], by simp [go_sem]⟩
          have hoC : PlOn (fun b => Z ≤ b ∧ b < W10.heap.size) W10 (Pn.mk tgC aaC anC acC txC kaC knC kcC atC ksC) := (honC.keep (w' := W10) (fun b hb => hb910.block b hb.2)).more (fun b hb => ⟨by omega, by omega⟩) (fun b hb => hb.2)
          have S10 := HsSt.below HS22.out HSS.out hb10
          have h10 := HsSt.more HS22.out HSS.out hb10
          rw [hZ] at h10
          have HS10 : Hid (HsSt B w2 W10 (fun b => (fun b => w3.heap.size ≤ b ∧ b < W6.heap.size) b ∨ (Z ≤ b ∧ b < W10.heap.size)) p nb d l1 l1 W10) := Lib.hid h10
          have HSS2 : Hid (∀ b, (fun b => (fun b => w3.heap.size ≤ b ∧ b < W6.heap.size) b ∨ (Z ≤ b ∧ b < W10.heap.size)) b → b < W10.heap.size) := Lib.hid (fun b hb => by
            rcases hb with hb | hb
            · exact lt_of_same (HSS.out b hb) (S10.same b hb)
            · exact hb.2)
          have HPrA2 : Hid (∀ W' : World, (∀ b, (fun b => (fun b => w3.heap.size ≤ b ∧ b < W6.heap.size) b ∨ (Z ≤ b ∧ b < W10.heap.size)) b → W'.heap[b]? = W10.heap[b]?) → PrAt W' (Pn.mk tgA aaA anA acA txA kaA knA kcA atA ksA)) := Lib.hid (fun W' h => HPrA.out W' (fun b hb => (h b (.inl hb)).trans (S10.same b hb)))
          have HPrB2 : Hid (∀ W' : World, (∀ b, (fun b => (fun b => w3.heap.size ≤ b ∧ b < W6.heap.size) b ∨ (Z ≤ b ∧ b < W10.heap.size)) b → W'.heap[b]? = W10.heap[b]?) → PrAt W' (Pn.mk tgB aaB anB acB txB kaB knB kcB atB ksB)) := Lib.hid (fun W' h => HPrB.out W' (fun b hb => (h b (.inl hb)).trans (S10.same b hb)))
          have HPrC2 : Hid (∀ W' : World, (∀ b, (fun b => (fun b => w3.heap.size ≤ b ∧ b < W6.heap.size) b ∨ (Z ≤ b ∧ b < W10.heap.size)) b → W'.heap[b]? = W10.heap[b]?) → PrAt W' (Pn.mk tgC aaC anC acC txC kaC knC kcC atC ksC)) := Lib.hid (fun W' h => hoC.at_ W' (fun b hb => h b (.inr hb)))
          have KXA2 : Hid (∀ W' : World, (∀ b, (fun b => (fun b => w3.heap.size ≤ b ∧ b < W6.heap.size) b ∨ (Z ≤ b ∧ b < W10.heap.size)) b → W'.heap[b]? = W10.heap[b]?) → (W'.cell? ⟨q, 0, none⟩ = some (.int .i64 tgA) ∧ W'.cell? ⟨q, 1, none⟩ = some (.slice aaA anA acA) ∧ W'.cell? ⟨q, 2, none⟩ = some (.string txA) ∧ W'.cell? ⟨q, 3, none⟩ = some (.slice kaA knA kcA))) := Lib.hid (fun W' h => KXA.out W' (fun b hb => (h b (.inl hb)).trans (S10.same b hb)))
          have hq2S : (fun b => (fun b => w3.heap.size ≤ b ∧ b < W6.heap.size) b ∨ (Z ≤ b ∧ b < W10.heap.size)) q2 := .inr ⟨by omega, by omega⟩
          have KXB2 : Hid (∀ W' : World, (∀ b, (fun b => (fun b => w3.heap.size ≤ b ∧ b < W6.heap.size) b ∨ (Z ≤ b ∧ b < W10.heap.size)) b → W'.heap[b]? = W10.heap[b]?) → (W'.cell? ⟨(q + 1), 0, none⟩ = some (.int .i64 tgB) ∧ W'.cell? ⟨(q + 1), 1, none⟩ = some (.slice aaB anB acB) ∧ W'.cell? ⟨(q + 1), 2, none⟩ = some (.string txB) ∧ W'.cell? ⟨(q + 1), 3, none⟩ = some (.slice kaB knB kcB) ∧ W'.cell? ⟨q2, 0, none⟩ = some (.int .i64 tgC) ∧ W'.cell? ⟨q2, 1, none⟩ = some (.slice aaC anC acC) ∧ W'.cell? ⟨q2, 2, none⟩ = some (.string txC) ∧ W'.cell? ⟨q2, 3, none⟩ = some (.slice kaC knC kcC))) := Lib.hid (fun W' h => by
            obtain ⟨b0, b1, b2, b3⟩ := KXB.out W' (fun b hb => (h b (.inl hb)).trans (S10.same b hb))
            obtain ⟨x0, x1, x2, x3⟩ := hXC
            have hs := h q2 hq2S
            exact ⟨b0, b1, b2, b3, (World.cell?_of_block (w := W10) hs).trans x0, (World.cell?_of_block (w := W10) hs).trans x1, (World.cell?_of_block (w := W10) hs).trans x2, (World.cell?_of_block (w := W10) hs).trans x3⟩)
          have HpC := Lib.hid hpC
          rw [hW10]
          (try simp only [hq2])
          clear hW10 hb910 hb10 hXC hoC honC hpC hb9 c0 S10 h10 hq2S HS22 HPrA HPrB KXA KXB
          have cIn := bk_insert HS10.out HSS2.out hd1 pa at_ j
          go_upto_region 12 with (go_at_call 15; ((with_reducible refine (cIn).mono ?_); rintro e w11 (⟨cc, hcb, hc0, rfl, s11⟩ | ⟨rfl, i2, a2, x2, y2, ka2, kc2, rfl, rfl, hi2, hj2, hu2, hij2, ha2, s11⟩)))
          · clear cIn hcb hc0
            obtain ⟨x', y', hM, hf, hP4⟩ := HL1.out l1 (Like.refl l1) s11.i
            have HS := Lib.hid s11
            clear s11 HS10
            have cPut := fun (W : World) (hb : Below w11.heap.size w11 W) => bk_put HS.out HSS2.out hd1 hM hf W hb
            have cP4 : ∀ (ka : Option Addr) (kc : Nat) (wc : World), HsSt B w2 W10 (fun b => (fun b => w3.heap.size ≤ b ∧ b < W6.heap.size) b ∨ (Z ≤ b ∧ b < W10.heap.size)) p nb d (joinedZ l1 i x' a j y' ka kc) (joinedZ l1 i x' a j y' ka kc) wc → ∀ W, Below wc.heap.size wc W → Calls Tryd.prog 21 #[.pointer (some ⟨p, 0, none⟩), .int .i64 0] W (PlainPost (plainF l2 41 0) W) := fun ka kc wc s W hb => by
              have := plain_any B p nb d _ s.i.ats 41 0 (s.i.endsHa hd1 _) W (s.f.below hb)
              rw [hP4 ka kc] at this
              exact this
            unfold PlainPost at cP4
            have cA4 : ∀ (ka : Option Addr) (kc : Nat) (wc : World), HsSt B w2 W10 (fun b => (fun b => w3.heap.size ≤ b ∧ b < W6.heap.size) b ∨ (Z ≤ b ∧ b < W10.heap.size)) p nb d (joinedZ l1 i x' a j y' ka kc) (joinedZ l1 i x' a j y' ka kc) wc → ∀ W, Below wc.heap.size wc W → Calls Tryd.prog 9 #[] W fun e w' => e = .returned (.bool true) ∧ Below W.heap.size W w' := fun ka kc wc s W hb => cA W ((HBQ.out.trans (s.b.mono hBw)).trans (hb.mono (HBQ.out.trans (s.b.mono hBw)).size))
            have hS : (w11.cell? ⟨q, 0, none⟩ = some (.int .i64 tgA) ∧ w11.cell? ⟨q, 1, none⟩ = some (.slice aaA anA acA) ∧ w11.cell? ⟨q, 2, none⟩ = some (.string txA) ∧ w11.cell? ⟨q, 3, none⟩ = some (.slice kaA knA kcA)) := KXA2.out w11 HS.out.same
            have hb : Hid (Below w11.heap.size w11 w11) := Lib.hid (Below.refl _ _)
            clear hM hf hP4
            go_region_held3 (fun W' => (W'.cell? ⟨q, 0, none⟩ = some (.int .i64 tgA) ∧ W'.cell? ⟨q, 1, none⟩ = some (.slice aaA anA acA) ∧ W'.cell? ⟨q, 2, none⟩ = some (.string txA) ∧ W'.cell? ⟨q, 3, none⟩ = some (.slice kaA knA kcA))) (first | (with_reducible exact hS) | (refine KXA2.out _ (HsSt.below HS.out HSS2.out ?_).same; (repeat (first | (with_reducible exact hb.out) | (with_reducible exact Below.refl _ _) | (with_reducible refine Below.drew ?_) | (with_reducible refine Below.alloc ?_ ?_ _) | omega | (simp <;> omega))); done)) (first
              | (go_at_call 15; ((with_reducible refine (cPut _ (show Below w11.heap.size w11 _ by (repeat (first | (with_reducible exact hb.out) | (with_reducible exact Below.refl _ _) | (with_reducible refine Below.drew ?_) | (with_reducible refine Below.alloc ?_ ?_ _) | omega | (simp <;> omega))))).mono ?_); rintro e w31 ⟨rfl, ka4, kc4, hs31⟩; clear hb HS; have HS := Lib.hid hs31; clear hs31; have hb := Lib.hid (Below.refl w31.heap.size w31); replace hS := KXA2.out _ HS.out.same))
              | (go_at_call 21; ((with_reducible refine (cP4 _ _ _ HS.out _ (show Below w31.heap.size w31 _ by (repeat (first | (with_reducible exact hb.out) | (with_reducible exact Below.refl _ _) | (with_reducible refine Below.drew ?_) | (with_reducible refine Below.alloc ?_ ?_ _) | omega | (simp <;> omega))))).mono ?_); rintro e w2N ⟨tgN, aaN, anN, acN, txN, kaN, knN, kcN, atN, ksN, rfl, hp5, hb8, hon8⟩; have hbq := Lib.hid (pre_of (a := w31) hb8 (by (repeat (first | (with_reducible exact hb.out) | (with_reducible exact Below.refl _ _) | (with_reducible refine Below.drew ?_) | (with_reducible refine Below.alloc ?_ ?_ _) | omega | (simp <;> omega))))); have hd2 := Lib.hid (hbq.out.trans (hb8.mono hbq.out.size)); have H8N := Lib.hid hon8.here; have HPN := Lib.hid hp5; clear hb hb8 hbq hon8 hp5; have hb := hd2; clear hd2; replace hS := KXA2.out _ (HsSt.below HS.out HSS2.out hb.out).same))
              | (go_at_call 24; ((with_reducible refine (samenode_mk (HPN.out.trans HpA.out.symm) _ ?p1 ?p2).mono ?_); (case p1 => exact H8N.out.stay (show Below w2N.heap.size w2N _ by (repeat (first | (with_reducible exact Below.refl _ _) | (with_reducible refine Below.drew ?_) | (with_reducible refine Below.alloc ?_ ?_ _) | omega | (simp <;> omega))))); (case p2 => exact HPrA2.out _ (HsSt.below HS.out HSS2.out (show Below w31.heap.size w31 _ by (repeat (first | (with_reducible exact hb.out) | (with_reducible exact Below.refl _ _) | (with_reducible refine Below.drew ?_) | (with_reducible refine Below.alloc ?_ ?_ _) | omega | (simp <;> omega))))).same); rintro e w22 ⟨rfl, hb10⟩; have hbq := Lib.hid (pre_of (a := w31) hb10 (by (repeat (first | (with_reducible exact hb.out) | (with_reducible exact Below.refl _ _) | (with_reducible refine Below.drew ?_) | (with_reducible refine Below.alloc ?_ ?_ _) | omega | (simp <;> omega))))); have hd2 := Lib.hid (hbq.out.trans (hb10.mono hbq.out.size)); clear hb hb10 hbq; have hb := hd2; clear hd2; replace hS := KXA2.out _ (HsSt.below HS.out HSS2.out hb.out).same))
              | (go_at_call 9; ((with_reducible refine (cA4 _ _ _ HS.out _ (show Below w31.heap.size w31 _ by (repeat (first | (with_reducible exact hb.out) | (with_reducible exact Below.refl _ _) | (with_reducible refine Below.drew ?_) | (with_reducible refine Below.alloc ?_ ?_ _) | omega | (simp <;> omega))))).mono ?_); rintro e w33 ⟨rfl, hb10⟩; have hbq := Lib.hid (pre_of (a := w31) hb10 (by (repeat (first | (with_reducible exact hb.out) | (with_reducible exact Below.refl _ _) | (with_reducible refine Below.drew ?_) | (with_reducible refine Below.alloc ?_ ?_ _) | omega | (simp <;> omega))))); have hd2 := Lib.hid (hbq.out.trans (hb10.mono hbq.out.size)); clear hb hb10 hbq; have hb := hd2; clear hd2; replace hS := KXA2.out _ (HsSt.below HS.out HSS2.out hb.out).same)))
            all_goals go_wp2
            all_goals go_ret
            all_goals exact ⟨rfl, (HBQ.out.trans (HS.out.b.mono hBw)).trans (hb.out.mono (HBQ.out.trans (HS.out.b.mono hBw)).size)⟩
          · clear cIn
            have hi2' : (joinedZ l1 i2 x2 a2 j y2 ka2 kc2)[i2]? = some (some { x2 with ka := ka2, kc := kc2, kids := insZ x2.kids a2 j }) := by unfold joinedZ; rw [set_ne hij2]; exact set_at hi2
            have hj2' : (joinedZ l1 i2 x2 a2 j y2 ka2 kc2)[j]? = some (some { y2 with up := (i2 : Int) }) := by unfold joinedZ; exact set_at (w := some y2) (by rw [set_ne (fun e => hij2 e.symm)]; exact hj2)
            have hL3 := like_there (ka := ka2) (kc := kc2) hi2 hj2 hij2 hu2 ha2
            have hget : (insZ x2.kids a2 (j : Int))[a2]? = some (j : Int) := ins_get ha2
            have hP2 : plainF (joinedZ l1 i2 x2 a2 j y2 ka2 kc2) 41 (j : Int) = plainF l2 41 (j : Int) := by
              obtain ⟨r, hr⟩ := s11.i.dep
              have hN := (near_joined (a := a2) (ka := ka2) (kc := kc2) hi2 hj2 hij2).symm
              rw [← hN.plain s11.i hr 41 j _ hj2' (by have := hr.up j _ i2 hj2' rfl; omega)]
              exact HJ1.out.2
            have hup2 : upT (joinedZ l1 i2 x2 a2 j y2 ka2 kc2) (j : Int) = (i2 : Int) := (nd_some hj2').2
            have hix2 : indexT (joinedZ l1 i2 x2 a2 j y2 ka2 kc2) (j : Int) = (a2 : Int) := by
              unfold indexT
              rw [hup2, ndAt_of hi2']
              have := ixZ_ofB (insZ x2.kids a2 (j : Int)) 0 a2 (s11.i.nod i2 _ hi2') hget
              rw [Nat.zero_add] at this
              exact this
            have cRm2 := fun (W : World) (hb : Below w11.heap.size w11 W) => bk_remove s11 HSS2.out hi2' hj2' rfl hget W hb
            obtain ⟨lR, hlR⟩ : ∃ z, removedZ (joinedZ l1 i2 x2 a2 j y2 ka2 kc2) i2 { x2 with ka := ka2, kc := kc2, kids := insZ x2.kids a2 j } a2 j { y2 with up := (i2 : Int) } = z := ⟨_, rfl⟩
            rw [hlR] at hL3 cRm2
            obtain ⟨lJ, hlJ⟩ : ∃ z, joinedZ l1 i2 x2 a2 j y2 ka2 kc2 = z := ⟨_, rfl⟩
            rw [hlJ] at hP2 hup2 hix2 s11
            have HS := Lib.hid s11
            have HL3 := Lib.hid hL3
            have hP3 := hL3.plain 41 0
            have cPa2 : ∀ wc, HsSt B w2 W10 (fun b => (fun b => w3.heap.size ≤ b ∧ b < W6.heap.size) b ∨ (Z ≤ b ∧ b < W10.heap.size)) p nb d lJ lJ wc → ∀ W, Below wc.heap.size wc W → Calls Tryd.prog 27 #[.pointer (some ⟨p, 0, none⟩), .int .i64 (j : Int)] W fun e w' => e = .returned (.int .i64 (i2 : Int)) ∧ W = w' := fun wc s W hb => by
              have := parent_any W p nb d (j : Int) lJ (s.f.below hb).t
              rw [hup2] at this
              exact this
            have cIx2 : ∀ wc, HsSt B w2 W10 (fun b => (fun b => w3.heap.size ≤ b ∧ b < W6.heap.size) b ∨ (Z ≤ b ∧ b < W10.heap.size)) p nb d lJ lJ wc → ∀ W, Below wc.heap.size wc W → Calls Tryd.prog 28 #[.pointer (some ⟨p, 0, none⟩), .int .i64 (j : Int)] W fun e w' => e = .returned (.int .i64 (a2 : Int)) ∧ W = w' := fun wc s W hb => by
              have := index_any W p nb d (j : Int) lJ (s.f.below hb).t
              rw [hix2] at this
              exact this
            have cPj2 : ∀ wc, HsSt B w2 W10 (fun b => (fun b => w3.heap.size ≤ b ∧ b < W6.heap.size) b ∨ (Z ≤ b ∧ b < W10.heap.size)) p nb d lJ lJ wc → ∀ W, Below wc.heap.size wc W → Calls Tryd.prog 21 #[.pointer (some ⟨p, 0, none⟩), .int .i64 (j : Int)] W (PlainPost (plainF l2 41 (j : Int)) W) := fun wc s W hb => by
              have := plain_any B p nb d lJ s.i.ats 41 (j : Int) (s.i.endsHa hd1 _) W (s.f.below hb)
              rw [hP2] at this
              exact this
            have cP03 : ∀ wc, HsSt B w2 W10 (fun b => (fun b => w3.heap.size ≤ b ∧ b < W6.heap.size) b ∨ (Z ≤ b ∧ b < W10.heap.size)) p nb d lR lR wc → ∀ W, Below wc.heap.size wc W → Calls Tryd.prog 21 #[.pointer (some ⟨p, 0, none⟩), .int .i64 0] W (PlainPost (plainF l1 41 0) W) := fun wc s W hb => by
              have := plain_any B p nb d lR s.i.ats 41 0 (s.i.endsHa hd1 _) W (s.f.below hb)
              rw [hP3] at this
              exact this
            unfold PlainPost at cPj2 cP03
            have hS : (w11.cell? ⟨(q + 1), 0, none⟩ = some (.int .i64 tgB) ∧ w11.cell? ⟨(q + 1), 1, none⟩ = some (.slice aaB anB acB) ∧ w11.cell? ⟨(q + 1), 2, none⟩ = some (.string txB) ∧ w11.cell? ⟨(q + 1), 3, none⟩ = some (.slice kaB knB kcB) ∧ w11.cell? ⟨q2, 0, none⟩ = some (.int .i64 tgC) ∧ w11.cell? ⟨q2, 1, none⟩ = some (.slice aaC anC acC) ∧ w11.cell? ⟨q2, 2, none⟩ = some (.string txC) ∧ w11.cell? ⟨q2, 3, none⟩ = some (.slice kaC knC kcC)) := KXB2.out w11 HS.out.same
            have hb : Hid (Below w11.heap.size w11 w11) := Lib.hid (Below.refl _ _)
            clear hi2 hj2 hu2 hij2 ha2 hi2' hj2' hL3 hget hP2 hup2 hix2 hlR hlJ hP3 s11 HS10
            go_region_held3 (fun W' => (W'.cell? ⟨(q + 1), 0, none⟩ = some (.int .i64 tgB) ∧ W'.cell? ⟨(q + 1), 1, none⟩ = some (.slice aaB anB acB) ∧ W'.cell? ⟨(q + 1), 2, none⟩ = some (.string txB) ∧ W'.cell? ⟨(q + 1), 3, none⟩ = some (.slice kaB knB kcB) ∧ W'.cell? ⟨q2, 0, none⟩ = some (.int .i64 tgC) ∧ W'.cell? ⟨q2, 1, none⟩ = some (.slice aaC anC acC) ∧ W'.cell? ⟨q2, 2, none⟩ = some (.string txC) ∧ W'.cell? ⟨q2, 3, none⟩ = some (.slice kaC knC kcC))) (first | (with_reducible exact hS) | (refine KXB2.out _ (HsSt.below HS.out HSS2.out ?_).same; (repeat (first | (with_reducible exact hb.out) | (with_reducible exact Below.refl _ _) | (with_reducible refine Below.drew ?_) | (with_reducible refine Below.alloc ?_ ?_ _) | omega | (simp <;> omega))); done)) (first
              | (go_at_call 27; ((with_reducible refine (cPa2 _ HS.out _ (show Below w11.heap.size w11 _ by (repeat (first | (with_reducible exact hb.out) | (with_reducible exact Below.refl _ _) | (with_reducible refine Below.drew ?_) | (with_reducible refine Below.alloc ?_ ?_ _) | omega | (simp <;> omega))))).mono ?_); rintro e w21 ⟨rfl, rfl⟩))
              | (go_at_call 28; ((with_reducible refine (cIx2 _ HS.out _ (show Below w11.heap.size w11 _ by (repeat (first | (with_reducible exact hb.out) | (with_reducible exact Below.refl _ _) | (with_reducible refine Below.drew ?_) | (with_reducible refine Below.alloc ?_ ?_ _) | omega | (simp <;> omega))))).mono ?_); rintro e w21 ⟨rfl, rfl⟩))
              | (go_at_call 21; ((with_reducible refine (cPj2 _ HS.out _ (show Below w11.heap.size w11 _ by (repeat (first | (with_reducible exact hb.out) | (with_reducible exact Below.refl _ _) | (with_reducible refine Below.drew ?_) | (with_reducible refine Below.alloc ?_ ?_ _) | omega | (simp <;> omega))))).mono ?_); rintro e w2K ⟨tgK, aaK, anK, acK, txK, kaK, knK, kcK, atK, ksK, rfl, hp5, hb8, hon8⟩; have hbq := Lib.hid (pre_of (a := w11) hb8 (by (repeat (first | (with_reducible exact hb.out) | (with_reducible exact Below.refl _ _) | (with_reducible refine Below.drew ?_) | (with_reducible refine Below.alloc ?_ ?_ _) | omega | (simp <;> omega))))); have hd2 := Lib.hid (hbq.out.trans (hb8.mono hbq.out.size)); have H8K := Lib.hid hon8.here; have HPK := Lib.hid hp5; clear hb hb8 hbq hon8 hp5; have hb := hd2; clear hd2; replace hS := KXB2.out _ (HsSt.below HS.out HSS2.out hb.out).same))
              | (go_at_call 21; ((with_reducible refine (cP03 _ HS.out _ (show Below w12.heap.size w12 _ by (repeat (first | (with_reducible exact hb.out) | (with_reducible exact Below.refl _ _) | (with_reducible refine Below.drew ?_) | (with_reducible refine Below.alloc ?_ ?_ _) | omega | (simp <;> omega))))).mono ?_); rintro e w2M ⟨tgM, aaM, anM, acM, txM, kaM, knM, kcM, atM, ksM, rfl, hp5, hb8, hon8⟩; have hbq := Lib.hid (pre_of (a := w12) hb8 (by (repeat (first | (with_reducible exact hb.out) | (with_reducible exact Below.refl _ _) | (with_reducible refine Below.drew ?_) | (with_reducible refine Below.alloc ?_ ?_ _) | omega | (simp <;> omega))))); have hd2 := Lib.hid (hbq.out.trans (hb8.mono hbq.out.size)); have H8M := Lib.hid hon8.here; have HPM := Lib.hid hp5; clear hb hb8 hbq hon8 hp5; have hb := hd2; clear hd2; replace hS := KXB2.out _ (HsSt.below HS.out HSS2.out hb.out).same))
              | (go_at_call 24; ((with_reducible refine (samenode_mk (HPK.out.trans HpB.out.symm) _ ?p1 ?p2).mono ?_); (case p1 => exact H8K.out.stay (show Below w2K.heap.size w2K _ by (repeat (first | (with_reducible exact Below.refl _ _) | (with_reducible refine Below.drew ?_) | (with_reducible refine Below.alloc ?_ ?_ _) | omega | (simp <;> omega))))); (case p2 => exact HPrB2.out _ (HsSt.below HS.out HSS2.out (show Below w11.heap.size w11 _ by (repeat (first | (with_reducible exact hb.out) | (with_reducible exact Below.refl _ _) | (with_reducible refine Below.drew ?_) | (with_reducible refine Below.alloc ?_ ?_ _) | omega | (simp <;> omega))))).same); rintro e w22 ⟨rfl, hb10⟩; have hbq := Lib.hid (pre_of (a := w11) hb10 (by (repeat (first | (with_reducible exact hb.out) | (with_reducible exact Below.refl _ _) | (with_reducible refine Below.drew ?_) | (with_reducible refine Below.alloc ?_ ?_ _) | omega | (simp <;> omega))))); have hd2 := Lib.hid (hbq.out.trans (hb10.mono hbq.out.size)); clear hb hb10 hbq; have hb := hd2; clear hd2; replace hS := KXB2.out _ (HsSt.below HS.out HSS2.out hb.out).same))
              | (go_at_call 24; ((with_reducible refine (samenode_mk (HPM.out.trans HpC.out.symm) _ ?p1 ?p2).mono ?_); (case p1 => exact H8M.out.stay (show Below w2M.heap.size w2M _ by (repeat (first | (with_reducible exact Below.refl _ _) | (with_reducible refine Below.drew ?_) | (with_reducible refine Below.alloc ?_ ?_ _) | omega | (simp <;> omega))))); (case p2 => exact HPrC2.out _ (HsSt.below HS.out HSS2.out (show Below w12.heap.size w12 _ by (repeat (first | (with_reducible exact hb.out) | (with_reducible exact Below.refl _ _) | (with_reducible refine Below.drew ?_) | (with_reducible refine Below.alloc ?_ ?_ _) | omega | (simp <;> omega))))).same); rintro e w22 ⟨rfl, hb10⟩; have hbq := Lib.hid (pre_of (a := w12) hb10 (by (repeat (first | (with_reducible exact hb.out) | (with_reducible exact Below.refl _ _) | (with_reducible refine Below.drew ?_) | (with_reducible refine Below.alloc ?_ ?_ _) | omega | (simp <;> omega))))); have hd2 := Lib.hid (hbq.out.trans (hb10.mono hbq.out.size)); clear hb hb10 hbq; have hb := hd2; clear hd2; replace hS := KXB2.out _ (HsSt.below HS.out HSS2.out hb.out).same))
              | (go_at_call 29; ((with_reducible refine (cRm2 _ (show Below w11.heap.size w11 _ by (repeat (first | (with_reducible exact hb.out) | (with_reducible exact Below.refl _ _) | (with_reducible refine Below.drew ?_) | (with_reducible refine Below.alloc ?_ ?_ _) | omega | (simp <;> omega))))).mono ?_); rintro e w12 ⟨rfl, hs8⟩; clear hb HS; have HS := Lib.hid hs8; clear hs8; have hb := Lib.hid (Below.refl w12.heap.size w12); replace hS := KXB2.out _ HS.out.same)))
            have HS23 := Lib.hid (HsSt.below HS.out HSS2.out hb.out)
            obtain ⟨w23, hw23⟩ : ∃ z, w22 = z := ⟨_, rfl⟩
            rw [hw23] at HS23
            rw [hw23]
            clear hb hS HS cRm2 cPa2 cIx2 cPj2 cP03 H8K HPK H8M HPM
            obtain ⟨x', y', hM, hf, hP4⟩ := HL1.out lR HL3.out HS23.out.i
            have HS := HS23
            clear HS23
            go_wp2
            have cPut := fun (W : World) (hb : Below w23.heap.size w23 W) => bk_put HS.out HSS2.out hd1 hM hf W hb
            have cP4 : ∀ (ka : Option Addr) (kc : Nat) (wc : World), HsSt B w2 W10 (fun b => (fun b => w3.heap.size ≤ b ∧ b < W6.heap.size) b ∨ (Z ≤ b ∧ b < W10.heap.size)) p nb d (joinedZ lR i x' a j y' ka kc) (joinedZ lR i x' a j y' ka kc) wc → ∀ W, Below wc.heap.size wc W → Calls Tryd.prog 21 #[.pointer (some ⟨p, 0, none⟩), .int .i64 0] W (PlainPost (plainF l2 41 0) W) := fun ka kc wc s W hb => by
              have := plain_any B p nb d _ s.i.ats 41 0 (s.i.endsHa hd1 _) W (s.f.below hb)
              rw [hP4 ka kc] at this
              exact this
            unfold PlainPost at cP4
            have cA4 : ∀ (ka : Option Addr) (kc : Nat) (wc : World), HsSt B w2 W10 (fun b => (fun b => w3.heap.size ≤ b ∧ b < W6.heap.size) b ∨ (Z ≤ b ∧ b < W10.heap.size)) p nb d (joinedZ lR i x' a j y' ka kc) (joinedZ lR i x' a j y' ka kc) wc → ∀ W, Below wc.heap.size wc W → Calls Tryd.prog 9 #[] W fun e w' => e = .returned (.bool true) ∧ Below W.heap.size W w' := fun ka kc wc s W hb => cA W ((HBQ.out.trans (s.b.mono hBw)).trans (hb.mono (HBQ.out.trans (s.b.mono hBw)).size))
            have hS : (w23.cell? ⟨q, 0, none⟩ = some (.int .i64 tgA) ∧ w23.cell? ⟨q, 1, none⟩ = some (.slice aaA anA acA) ∧ w23.cell? ⟨q, 2, none⟩ = some (.string txA) ∧ w23.cell? ⟨q, 3, none⟩ = some (.slice kaA knA kcA)) := KXA2.out w23 HS.out.same
            have hb : Hid (Below w23.heap.size w23 w23) := Lib.hid (Below.refl _ _)
            clear hM hf hP4
            go_region_held3 (fun W' => (W'.cell? ⟨q, 0, none⟩ = some (.int .i64 tgA) ∧ W'.cell? ⟨q, 1, none⟩ = some (.slice aaA anA acA) ∧ W'.cell? ⟨q, 2, none⟩ = some (.string txA) ∧ W'.cell? ⟨q, 3, none⟩ = some (.slice kaA knA kcA))) (first | (with_reducible exact hS) | (refine KXA2.out _ (HsSt.below HS.out HSS2.out ?_).same; (repeat (first | (with_reducible exact hb.out) | (with_reducible exact Below.refl _ _) | (with_reducible refine Below.drew ?_) | (with_reducible refine Below.alloc ?_ ?_ _) | omega | (simp <;> omega))); done)) (first
              | (go_at_call 15; ((with_reducible refine (cPut _ (show Below w23.heap.size w23 _ by (repeat (first | (with_reducible exact hb.out) | (with_reducible exact Below.refl _ _) | (with_reducible refine Below.drew ?_) | (with_reducible refine Below.alloc ?_ ?_ _) | omega | (simp <;> omega))))).mono ?_); rintro e w31 ⟨rfl, ka4, kc4, hs31⟩; clear hb HS; have HS := Lib.hid hs31; clear hs31; have hb := Lib.hid (Below.refl w31.heap.size w31); replace hS := KXA2.out _ HS.out.same))
              | (go_at_call 21; ((with_reducible refine (cP4 _ _ _ HS.out _ (show Below w31.heap.size w31 _ by (repeat (first | (with_reducible exact hb.out) | (with_reducible exact Below.refl _ _) | (with_reducible refine Below.drew ?_) | (with_reducible refine Below.alloc ?_ ?_ _) | omega | (simp <;> omega))))).mono ?_); rintro e w2N ⟨tgN, aaN, anN, acN, txN, kaN, knN, kcN, atN, ksN, rfl, hp5, hb8, hon8⟩; have hbq := Lib.hid (pre_of (a := w31) hb8 (by (repeat (first | (with_reducible exact hb.out) | (with_reducible exact Below.refl _ _) | (with_reducible refine Below.drew ?_) | (with_reducible refine Below.alloc ?_ ?_ _) | omega | (simp <;> omega))))); have hd2 := Lib.hid (hbq.out.trans (hb8.mono hbq.out.size)); have H8N := Lib.hid hon8.here; have HPN := Lib.hid hp5; clear hb hb8 hbq hon8 hp5; have hb := hd2; clear hd2; replace hS := KXA2.out _ (HsSt.below HS.out HSS2.out hb.out).same))
              | (go_at_call 24; ((with_reducible refine (samenode_mk (HPN.out.trans HpA.out.symm) _ ?p1 ?p2).mono ?_); (case p1 => exact H8N.out.stay (show Below w2N.heap.size w2N _ by (repeat (first | (with_reducible exact Below.refl _ _) | (with_reducible refine Below.drew ?_) | (with_reducible refine Below.alloc ?_ ?_ _) | omega | (simp <;> omega))))); (case p2 => exact HPrA2.out _ (HsSt.below HS.out HSS2.out (show Below w31.heap.size w31 _ by (repeat (first | (with_reducible exact hb.out) | (with_reducible exact Below.refl _ _) | (with_reducible refine Below.drew ?_) | (with_reducible refine Below.alloc ?_ ?_ _) | omega | (simp <;> omega))))).same); rintro e w22 ⟨rfl, hb10⟩; have hbq := Lib.hid (pre_of (a := w31) hb10 (by (repeat (first | (with_reducible exact hb.out) | (with_reducible exact Below.refl _ _) | (with_reducible refine Below.drew ?_) | (with_reducible refine Below.alloc ?_ ?_ _) | omega | (simp <;> omega))))); have hd2 := Lib.hid (hbq.out.trans (hb10.mono hbq.out.size)); clear hb hb10 hbq; have hb := hd2; clear hd2; replace hS := KXA2.out _ (HsSt.below HS.out HSS2.out hb.out).same))
              | (go_at_call 9; ((with_reducible refine (cA4 _ _ _ HS.out _ (show Below w31.heap.size w31 _ by (repeat (first | (with_reducible exact hb.out) | (with_reducible exact Below.refl _ _) | (with_reducible refine Below.drew ?_) | (with_reducible refine Below.alloc ?_ ?_ _) | omega | (simp <;> omega))))).mono ?_); rintro e w33 ⟨rfl, hb10⟩; have hbq := Lib.hid (pre_of (a := w31) hb10 (by (repeat (first | (with_reducible exact hb.out) | (with_reducible exact Below.refl _ _) | (with_reducible refine Below.drew ?_) | (with_reducible refine Below.alloc ?_ ?_ _) | omega | (simp <;> omega))))); have hd2 := Lib.hid (hbq.out.trans (hb10.mono hbq.out.size)); clear hb hb10 hbq; have hb := hd2; clear hd2; replace hS := KXA2.out _ (HsSt.below HS.out HSS2.out hb.out).same)))
            all_goals go_wp2
            all_goals go_ret
            all_goals exact ⟨rfl, (HBQ.out.trans (HS.out.b.mono hBw)).trans (hb.out.mono (HBQ.out.trans (HS.out.b.mono hBw)).size)⟩

end Go.Proofs.YtdegkcibadjogaaDoor
