/-
  What stands in DomApart's two loops: a box aside from the copy; what the host says, and what was told of it, aside from the tree.
    The law DomApart.
-/
import Derived.Test.YtdegkcibadjogaaDoorCOff
import Derived.Test.YtdegkcibadjogaaDoorCCalls
import Derived.Test.YtdegkcibadjogaaDoorCPlay
import Derived.Test.YtdegkcibadjogaaDoorCPlain
import Derived.Test.YtdegkcibadjogaaDoorCSame
import Derived.Test.YtdegkcibadjogaaDoorCPlayed
import Derived.Test.YtdegkcibadjogaaDoorCInt

namespace Go.Proofs.YtdegkcibadjogaaDoor
open Go.RowKit Go.Lib

/-- The cells of a box that holds a call. -/
structure BxAt (w : World) (q : Nat) (x : Cl) : Prop where
  c1 : w.cell? ⟨q, 1, none⟩ = some (.int .i64 x.a)
  c2 : w.cell? ⟨q, 2, none⟩ = some (.int .i64 x.b)
  c3 : w.cell? ⟨q, 3, none⟩ = some (.int .i64 x.c)
  c4 : w.cell? ⟨q, 4, none⟩ = some (.string x.s)
  c5 : w.cell? ⟨q, 5, none⟩ = some (.slice x.aa x.an x.ac)
theorem BxAt.same {w w' : World} {q : Nat} {x : Cl} (h : BxAt w q x) (hs : w'.heap[q]? = w.heap[q]?) : BxAt w' q x :=
  have hc : ∀ j, w'.cell? ⟨q, j, none⟩ = w.cell? ⟨q, j, none⟩ := fun _ => World.cell?_of_block (w := w) hs
  ⟨(hc 1).trans h.c1, (hc 2).trans h.c2, (hc 3).trans h.c3, (hc 4).trans h.c4, (hc 5).trans h.c5⟩
/-- The copy stands, and the box aside from it. -/
structure LpSt (Wc : World) (p nb : Nat) (d : Int) (q : Nat) (x : Cl) (wr : World) : Prop where
  b : Below Wc.heap.size Wc wr
  ex : ∃ l', Full Wc.heap.size wr p nb d l' ∧ Inv d l' ∧ ¬ TB l' q
  qn : q ≠ nb
  ql : q < wr.heap.size
  bx : BxAt wr q x

section
variable {Wc wr : World} {p nb : Nat} {d : Int} {q : Nat} {x : Cl}
theorem LpSt.off {l' : List (Option Nd)} {C : Prop} {e : Ending} {w' : World} (s : LpSt Wc p nb d q x wr) (hn : ¬ TB l' q) (h : Off Wc.heap.size wr p nb d l' C e w') : (∃ v, e = .returned v) ∧ Hid (LpSt Wc p nb d q x w') := by
  obtain ⟨h1, h2, l'', h3, h4, h5, _, h7, h8⟩ := h
  have hs := h8 q s.ql s.qn hn
  exact ⟨h1, Lib.hid ⟨s.b.trans h2, ⟨l'', h3, h4, fun ht => hn (h7 q s.ql ht)⟩, s.qn, lt_of_same s.ql hs, s.bx.same hs⟩⟩
theorem lp_insert (s : LpSt Wc p nb d q x wr) (hd : d ≤ 40) : Calls Tryd.prog 15 #[.pointer (some ⟨p, 0, none⟩), .int .i64 x.a, .int .i64 x.b, .int .i64 x.c] wr fun e w' => (∃ v, e = .returned v) ∧ Hid (LpSt Wc p nb d q x w') := by
  obtain ⟨l', hF, hI, hn⟩ := s.ex
  exact (insert_off _ wr p nb d l' hF hI hd x.a x.b x.c).mono (fun _ _ h => s.off hn h)
theorem lp_remove (s : LpSt Wc p nb d q x wr) (hd : d ≤ 40) : Calls Tryd.prog 29 #[.pointer (some ⟨p, 0, none⟩), .int .i64 x.a] wr fun e w' => (∃ v, e = .returned v) ∧ Hid (LpSt Wc p nb d q x w') := by
  obtain ⟨l', hF, hI, hn⟩ := s.ex
  exact (remove_off _ wr p nb d l' hF hI hd x.a).mono (fun _ _ h => s.off hn h)
theorem lp_settext (s : LpSt Wc p nb d q x wr) : Calls Tryd.prog 32 #[.pointer (some ⟨p, 0, none⟩), .int .i64 x.a, .string x.s] wr fun e w' => (∃ v, e = .returned v) ∧ Hid (LpSt Wc p nb d q x w') := by
  obtain ⟨l', hF, hI, hn⟩ := s.ex
  exact (settext_off _ wr p nb d l' hF hI x.a x.s).mono (fun _ _ h => s.off hn h)
theorem lp_setattrs (s : LpSt Wc p nb d q x wr) (hA : ClAt Wc x) (hl : x.ats.length ≤ 10000) : Calls Tryd.prog 33 #[.pointer (some ⟨p, 0, none⟩), .int .i64 x.a, .slice x.aa x.an x.ac] wr fun e w' => (∃ v, e = .returned v) ∧ Hid (LpSt Wc p nb d q x w') := by
  obtain ⟨l', hF, hI, hn⟩ := s.ex
  exact (setattrs_off _ wr p nb d l' hF hI x.a _ x.ats (hA.row.below s.b) hl hA.sz).mono (fun _ _ h => s.off hn h)
theorem lp_drop (s : LpSt Wc p nb d q x wr) (hd : d ≤ 40) : Calls Tryd.prog 30 #[.pointer (some ⟨p, 0, none⟩), .int .i64 x.c] wr fun e w' => (∃ v, e = .returned v) ∧ Hid (LpSt Wc p nb d q x w') := by
  obtain ⟨l', hF, hI, hn⟩ := s.ex
  exact (drop_off _ wr p nb d l' hF hI hd x.c).mono (fun _ _ h => s.off hn h)
theorem TB.lt {B : Nat} {w : World} {l : List (Option Nd)} (h : Full B w p nb d l) : ∀ q, TB l q → q < w.heap.size := fun q ⟨i, y, hi, hy⟩ => by
  rcases hy with e | e
  · rw [← e]; exact lt_of_cell' (h.t.yes i y hi).2.c0
  · exact ((h.own i y hi).lt q e).2
/-- The copy stands. -/
def CpSt (Wc : World) (p nb : Nat) (d : Int) (wr : World) : Prop := Below Wc.heap.size Wc wr ∧ ∃ l', Full Wc.heap.size wr p nb d l' ∧ Inv d l'
theorem CpSt.box (h : CpSt Wc p nb d wr) (cs : Array Value) (T : TypeId) (hx : BxAt (wr.alloc (.cells cs T)) wr.heap.size x) : LpSt Wc p nb d wr.heap.size x (wr.alloc (.cells cs T)) := by
  obtain ⟨hb, l', hF, hI⟩ := h
  have hln := hF.ln
  refine ⟨hb.alloc hb.size _, ⟨l', hF.below ((Below.refl _ _).alloc (Nat.le_refl _) _), hI, fun ht => ?_⟩, by omega, by simp, hx⟩
  have := TB.lt hF _ ht
  omega
theorem LpSt.copy (s : LpSt Wc p nb d q x wr) : CpSt Wc p nb d wr := ⟨s.b, by obtain ⟨l', h1, h2, _⟩ := s.ex; exact ⟨l', h1, h2⟩⟩
end

/-- What comes to the host in the other came to it here. -/
theorem LS.back {deep : Int} {l l' : List (Option Nd)} (h : LS l l') (hI : Inv deep l) (hI' : Inv deep l') (hd : deep ≤ 40) {r : Nat → Nat} (hr : Rank deep l' r) : ∀ (n j : Nat) (y : Nd), l'[j]? = some (some y) → r j ≤ n → rootF l' 41 (j : Int) = 0 → ∃ z, l[j]? = some (some z) ∧ rootF l 41 (j : Int) = 0
  | n, j, y, hj, hn, h0 => by
    rcases hI'.par j y hj with hu | ⟨i, x', hu, hi, hm⟩
    · rw [Inv.rootN hj hu] at h0
      obtain ⟨x0, hx0, a1, _⟩ := hI.host
      obtain rfl : j = 0 := by omega
      exact ⟨x0, hx0, Inv.rootN hx0 a1⟩
    · have hri := hr.up j y i hj hu
      cases n with
      | zero => omega
      | succ n =>
        obtain ⟨x, hx, hx0⟩ := h.back hI hI' hd hr n i x' hi (by omega) (by rw [← hI'.rootP hd hj hu]; exact h0)
        obtain ⟨x2, g1, _, _, _, g5, _⟩ := h i x hx hx0
        rw [hi] at g1
        obtain rfl := Option.some.inj (Option.some.inj g1)
        rw [g5] at hm
        obtain ⟨j2, z, e, hz, hzu⟩ := hI.kid i x _ hx hm
        obtain rfl : j = j2 := by omega
        exact ⟨z, hz, by rw [hI.rootP hd hz hzu]; exact hx0⟩
theorem LS.not {deep : Int} {l l' : List (Option Nd)} (h : LS l l') (hI : Inv deep l) (hI' : Inv deep l') (hd : deep ≤ 40) {id : Int} (h0 : id ≠ 0) (hn : rootF l 41 id ≠ 0) : rootF l' 41 id ≠ 0 := fun e => by
  cases hx : ndAt l' id with
  | none =>
    unfold rootF at e
    rw [(nd_none hx).2, if_pos rfl] at e
    exact h0 e
  | some y =>
    obtain ⟨j, rfl, hj⟩ := nd_id hx
    obtain ⟨r, hr⟩ := hI'.dep
    obtain ⟨_, _, h1⟩ := h.back hI hI' hd hr (r j) j y hj (Nat.le_refl _) e
    exact hn h1

/-- The tree, what its host says as it said it; the blocks of S aside, as they stood. -/
structure HsSt (B : Nat) (w0 Wb : World) (S : Nat → Prop) (p nb : Nat) (d : Int) (l l' : List (Option Nd)) (wr : World) : Prop where
  b : Below B w0 wr
  f : Full B wr p nb d l'
  i : Inv d l'
  ls : LS l l'
  sn : ∀ q, S q → q ≠ nb ∧ ¬ TB l' q
  same : ∀ q, S q → wr.heap[q]? = Wb.heap[q]?
section
variable {B : Nat} {w0 Wb wr : World} {S : Nat → Prop} {p nb : Nat} {d : Int} {l l' : List (Option Nd)}
theorem HsSt.below (s : HsSt B w0 Wb S p nb d l l' wr) (hS : ∀ q, S q → q < Wb.heap.size) {w' : World} (h : Below wr.heap.size wr w') : HsSt B w0 Wb S p nb d l l' w' :=
  ⟨s.b.trans (h.mono (by have := s.f.bn; have := s.f.ln; omega)), s.f.below h, s.i, s.ls, s.sn, fun q hq => (h.block q (lt_of_same (hS q hq) (s.same q hq))).trans (s.same q hq)⟩
/-- The tree, its node id aside from the host. -/
def HsN (B : Nat) (w0 Wb : World) (S : Nat → Prop) (p nb : Nat) (d : Int) (l : List (Option Nd)) (id : Int) (wr : World) : Prop := ∃ l', HsSt B w0 Wb S p nb d l l' wr ∧ rootF l' 41 id ≠ 0
theorem HsSt.off (s : HsSt B w0 Wb S p nb d l l' wr) (hS : ∀ q, S q → q < Wb.heap.size) (hI : Inv d l) (hd : d ≤ 40) {id : Int} (h0 : id ≠ 0) (hn : rootF l' 41 id ≠ 0) {e : Ending} {w' : World} (h : Off B wr p nb d l' (rootF l' 41 id ≠ 0) e w') : (∃ v, e = .returned v) ∧ Hid (HsN B w0 Wb S p nb d l id w') := by
  obtain ⟨h1, h2, l'', h3, h4, h5, h6, h7, h8⟩ := h
  have hls := h6 hn
  have ql : ∀ q, S q → q < wr.heap.size := fun q hq => lt_of_same (hS q hq) (s.same q hq)
  refine ⟨h1, Lib.hid ⟨l'', ⟨s.b.trans h2, h3, h4, s.ls.trans hI hd hls, fun q hq => ⟨(s.sn q hq).1, fun ht => (s.sn q hq).2 (h7 q (ql q hq) ht)⟩, fun q hq => (h8 q (ql q hq) (s.sn q hq).1 (s.sn q hq).2).trans (s.same q hq)⟩, ?_⟩⟩
  exact hls.not s.i h4 hd h0 hn
variable (hS : ∀ q, S q → q < Wb.heap.size) (hI : Inv d l) (hd : d ≤ 40) {id : Int} (h0 : id ≠ 0)
include hS hI hd h0
theorem hs_settext (s : HsN B w0 Wb S p nb d l id wr) (t : ByteArray) : Calls Tryd.prog 32 #[.pointer (some ⟨p, 0, none⟩), .int .i64 id, .string t] wr fun e w' => (∃ v, e = .returned v) ∧ Hid (HsN B w0 Wb S p nb d l id w') := by
  obtain ⟨l', s, hn⟩ := s
  exact (settext_off B wr p nb d l' s.f s.i id t).mono (fun _ _ h => s.off hS hI hd h0 hn h)
theorem hs_setattrs (s : HsN B w0 Wb S p nb d l id wr) (W : World) (hb : Below wr.heap.size wr W) (v : Value) (ats : Row) (hv : RowAt W v ats) (hl : ats.length ≤ 10000) (hs : SizedR ats) : Calls Tryd.prog 33 #[.pointer (some ⟨p, 0, none⟩), .int .i64 id, v] W fun e w' => (∃ v, e = .returned v) ∧ Hid (HsN B w0 Wb S p nb d l id w') := by
  obtain ⟨l', s, hn⟩ := s
  have s2 := s.below hS hb
  exact (setattrs_off B W p nb d l' s2.f s2.i id v ats hv hl hs).mono (fun _ _ h => s2.off hS hI hd h0 hn h)
theorem hs_settag (s : HsN B w0 Wb S p nb d l id wr) (hT : OwnT wr) (t : Int) : Calls Tryd.prog 35 #[.pointer (some ⟨p, 0, none⟩), .int .i64 id, .int .i64 t] wr fun e w' => (∃ v, e = .returned v) ∧ Hid (HsN B w0 Wb S p nb d l id w') := by
  obtain ⟨l', s, hn⟩ := s
  exact (settag_off B wr p nb d l' s.f s.i id t hT).mono (fun _ _ h => s.off hS hI hd h0 hn h)
theorem hs_remove (s : HsN B w0 Wb S p nb d l id wr) : Calls Tryd.prog 29 #[.pointer (some ⟨p, 0, none⟩), .int .i64 id] wr fun e w' => (∃ v, e = .returned v) ∧ Hid (HsN B w0 Wb S p nb d l id w') := by
  obtain ⟨l', s, hn⟩ := s
  exact (remove_off B wr p nb d l' s.f s.i hd id).mono (fun _ _ h => s.off hS hI hd h0 hn h)
end

theorem samenode_mk {tg1 tg2 : Int} {a1 a2 k1 k2 : Option Addr} {n1 n2 c1 c2 m1 m2 d1 d2 : Nat} {x1 x2 : ByteArray} {s1 s2 : Row} {l1 l2 : List Pn} (hpt : (Pn.mk tg1 a1 n1 c1 x1 k1 m1 d1 s1 l1).pt = (Pn.mk tg2 a2 n2 c2 x2 k2 m2 d2 s2 l2).pt) (w : World) (h1 : PrAt w (Pn.mk tg1 a1 n1 c1 x1 k1 m1 d1 s1 l1)) (h2 : PrAt w (Pn.mk tg2 a2 n2 c2 x2 k2 m2 d2 s2 l2)) :
    Calls Tryd.prog 24 #[.agg #[.int .i64 tg1, .slice a1 n1 c1, .string x1, .slice k1 m1 d1], .agg #[.int .i64 tg2, .slice a2 n2 c2, .string x2, .slice k2 m2 d2]] w fun e w' => e = .returned (.bool true) ∧ Below w.heap.size w w' :=
  samenode_true _ _ _ (Nat.le_refl _) hpt w h1 h2
theorem sized_turned : SizedR [((⟨#[116, 117, 114, 110, 101, 100]⟩ : ByteArray), (⟨#[]⟩ : ByteArray))] := fun a ha => by
  obtain rfl := List.mem_singleton.1 ha
  exact ⟨by decide, by decide⟩
theorem row_one (w : World) (s t : ByteArray) : RowAt (w.alloc (.cells #[.string s, .string t] 61)) (.slice (some ⟨w.heap.size, 0, none⟩) 1 1) [(s, t)] := by
  refine .inr ⟨w.heap.size, 0, 1, rfl, Nat.le_refl _, by unfold maxLen; omega, by simp, fun j hj => ?_⟩
  obtain rfl : j = 0 := by simpa using hj
  exact ⟨by simp [go_sem], by simp [go_sem]⟩

set_option maxRecDepth 20000 in
set_option maxHeartbeats 16000000 in
theorem domApart_any (w : World) (hT : OwnT w) (c d : Int) (v v2 : Value) (l m : List Cl) (hv : ClsAt w v l) (hm : ClsAt w v2 m) :
    Calls Tryd.prog 6 #[.int .i64 c, .int .i64 d, v, v2] w fun e w' => e = .returned (.bool true) ∧ Below w.heap.size w w' := by
  have cH := heavy_any w v l hv
  have cH2 := fun (W : World) (hb : Below w.heap.size w W) => heavy_any W v2 m (hm.below hb)
  have cA := fun (W : World) (hb : Below w.heap.size w W) => awake_any W (hT.below hb)
  cases hh : heavyP l with
  | true =>
    rw [hh] at cH
    obtain ⟨a0, c0, rfl⟩ := hv.len
    obtain ⟨a1, c1, rfl⟩ := hm.len
    clear hh hv hm hT
    go_enter Tryd.func6, Tryd.ntmps6
    go_wp2_with (first
      | (go_at_call 8; ((with_reducible refine (cH).mono ?_); rintro e w1 ⟨rfl, hb⟩))
      | (go_at_call 9; ((with_reducible refine (cA _ hb).mono ?_); rintro e w2 ⟨rfl, hb2⟩)))
    go_ret
    exact ⟨rfl, hb.trans (hb2.mono hb.size)⟩
  | false =>
    rw [hh] at cH
    cases hh2 : heavyP m with
    | true =>
      rw [hh2] at cH2
      obtain ⟨a0, c0, rfl⟩ := hv.len
      obtain ⟨a1, c1, rfl⟩ := hm.len
      clear hh hh2 hv hm hT
      go_enter Tryd.func6, Tryd.ntmps6
      go_wp2_with (first
        | (go_at_call 8; (first | ((with_reducible refine (cH).mono ?_); rintro e w1 ⟨rfl, hb⟩) | ((with_reducible refine (cH2 _ hb).mono ?_); rintro e w2 ⟨rfl, hb2⟩; have hb3 := hb.trans (hb2.mono hb.size))))
        | (go_at_call 9; ((with_reducible refine (cA _ hb3).mono ?_); rintro e w2 ⟨rfl, hb4⟩)))
      go_ret
      exact ⟨rfl, hb3.trans (hb4.mono hb3.size)⟩
    | false =>
      rw [hh2] at cH2
      have cP := fun (W : World) (hb : Below w.heap.size w W) => played_any W (hT.below hb) c d v l (hv.below hb) hh
      have HM := Lib.hid hm
      have HH2 := Lib.hid (heavy_no hh2)
      have HT := Lib.hid hT
      obtain ⟨a0, c0, rfl⟩ := hv.len
      obtain ⟨a1, c1, rfl⟩ := hm.len
      obtain ⟨n2, hn2⟩ : ∃ n, m.length = n := ⟨_, rfl⟩
      rw [hn2] at HM cH2 ⊢
      have HN2 := Lib.hid hn2
      have hn200 : n2 ≤ 200 := by rw [← hn2]; exact HH2.out.1
      clear hh hh2 hv hm hT hn2
      go_enter Tryd.func6, Tryd.ntmps6
      go_upto_region 6 with (first
        | (go_at_call 8; (first | ((with_reducible refine (cH).mono ?_); rintro e w1 ⟨rfl, hb⟩) | ((with_reducible refine (cH2 _ hb).mono ?_); rintro e w2 ⟨rfl, hb2⟩; have hbq := hb.trans (hb2.mono hb.size); clear hb hb2 cH cH2)))
        | (go_at_call 18; ((with_reducible refine (cP _ hbq).mono ?_); rintro e w3 (⟨rfl, hb3⟩ | ⟨p, rfl, hS⟩))))
      · go_wp2_with (go_at_call 9; ((with_reducible refine (cA _ (hbq.trans (hb3.mono hbq.size))).mono ?_); rintro e w4 ⟨rfl, hb4⟩))
        go_ret
        exact ⟨rfl, (hbq.trans (hb3.mono hbq.size)).trans (hb4.mono (hbq.trans (hb3.mono hbq.size)).size)⟩
      · obtain ⟨hd0, hd1, _, _, hbP, nb, l2, hF, hI, _⟩ := hS
        obtain ⟨B, hB⟩ : ∃ z, w2.heap.size = z := ⟨_, rfl⟩
        rw [hB] at hbP hF
        have hBw : w.heap.size ≤ B := by rw [← hB]; exact hbq.size
        have hB3 : B ≤ w3.heap.size := by have := hF.bn; have := hF.ln; omega
        have hbw3 : Below w.heap.size w w3 := by rw [← hB] at hbP; exact hbq.trans (hbP.mono hbq.size)
        have hT2 : OwnT w2 := HT.out.below hbq
        have cPl := fun (W' : World) (hb : Below w3.heap.size w3 W') => plain_any B p nb d l2 hI.ats 41 0 (hI.endsHa hd1 0) W' (hF.below hb)
        have cCt := fun (W' : World) (hb : Below w3.heap.size w3 W') => count_any W' p nb d l2 (hF.below hb).t
        have cCp := fun (W' : World) (hb : Below w3.heap.size w3 W') => copy_any B W' p nb d l2 (hF.below hb) (fun i x hi => by have := hI.ats i x hi; omega)
        obtain ⟨cn, hcn⟩ : ∃ z, countF l2 = z := ⟨_, rfl⟩
        rw [hcn] at cCt
        unfold PlainPost at cPl
        have HPL := Lib.hid cPl
        have HCT := Lib.hid cCt
        have HF := Lib.hid hF
        have HI := Lib.hid hI
        have HB := Lib.hid (And.intro hbw3 (And.intro hbP hT2))
        have HBQ := Lib.hid hbq
        clear cP hcn hF hI hbw3 hbP hT2 hbq
        go_upto_region 7 with (first
          | (go_at_call 21; ((with_reducible refine (cPl _ (Below.refl _ _)).mono ?_); rintro e w4 ⟨tg, aa3, n3, c3, x3, k3, m3, c4, ats3, kids3, rfl, hpt, hb4, hon⟩))
          | (go_at_call 22; ((with_reducible refine (cCt _ hb4).mono ?_); rintro e w5 ⟨rfl, rfl⟩)))
        obtain ⟨q, hq⟩ : ∃ z, w4.heap.size = z := ⟨_, rfl⟩
        obtain ⟨W6, hW6⟩ : ∃ z, w4.alloc (.cells #[.int .i64 tg, .slice aa3 n3 c3, .string x3, .slice k3 m3 c4] 34) = z := ⟨_, rfl⟩
        have hs6 : W6.heap.size = q + 1 := by rw [← hW6, ← hq]; simp
        have hb6 : Below w3.heap.size w3 W6 := by rw [← hW6]; exact hb4.alloc hb4.size _
        have hX : (W6.cell? ⟨q, 0, none⟩ = some (.int .i64 tg) ∧ W6.cell? ⟨q, 1, none⟩ = some (.slice aa3 n3 c3) ∧ W6.cell? ⟨q, 2, none⟩ = some (.string x3) ∧ W6.cell? ⟨q, 3, none⟩ = some (.slice k3 m3 c4)) := by rw [← hW6, ← hq]; exact ⟨by simp [go_sem], by simp [go_sem], by simp [go_sem], by simp [go_sem]⟩
        have hon6 : PlOn (fun b => w3.heap.size ≤ b ∧ b < W6.heap.size) W6 (Pn.mk tg aa3 n3 c3 x3 k3 m3 c4 ats3 kids3) := (hon.keep (w' := W6) (fun b hb => by rw [← hW6]; exact Below.heap_alloc w4 _ b hb.2)).more (fun b hb => ⟨hb.1, by omega⟩) (fun b hb => hb.2)
        have hq3 : w3.heap.size ≤ q := by rw [← hq]; exact hb4.size
        rw [hW6, hq]
        have HON := Lib.hid hon6
        have HX := Lib.hid hX
        have HPT := Lib.hid hpt
        have HB6 := Lib.hid hb6
        clear hon hon6 hX hpt hb4 hW6 hq hb6 cPl cCt
        go_upto_region 8 with (go_at_call 12; ((with_reducible refine (cCp _ HB6.out).mono ?_); rintro e w7 ⟨p2, rfl, hb7, nb2, l3, hF3, hLk⟩; have H7 := Lib.hid (show CpSt W6 p2 nb2 d w7 from ⟨hb7, l3, hF3, HI.out.like hLk⟩); clear hb7 hF3 hLk))
        clear cCp
        go_wp2
        have hsw : w.heap.size ≤ W6.heap.size := by omega
        have HW6 : Hid (Below w.heap.size w W6) := Lib.hid (HB.out.1.trans (HB6.out.mono (by omega)))
        go_loopw [13, 14] (fun i _ wr => ∃ k : Nat, k ≤ n2 ∧ i = .int .i64 k ∧ Hid (CpSt W6 p2 nb2 d wr)) (fun i _ _ => n2 - (RowKit.intOf i).toNat)
        case atStart => exact ⟨0, Nat.zero_le _, rfl, H7⟩
        case round =>
          obtain ⟨k, hk, rfl, HC⟩ := hrel
          by_cases hlt : k < n2
          · have hkl : k < m.length := by rw [HN2.out]; exact hlt
            have hkI : (k : Int) < (n2 : Int) := by omega
            obtain ⟨x, hget⟩ : ∃ x, m[k]? = some x := ⟨_, List.getElem?_eq_getElem hkl⟩
            obtain ⟨g1, g2, g3, g4⟩ := HH2.out.2 x (List.mem_of_getElem? hget)
            have hbr : Below w.heap.size w wr := HW6.out.trans (HC.out.1.mono hsw)
            rcases HM.out with ⟨_, _, e0, e⟩ | ⟨b, o, cc, ev, _, hc⟩
            · rw [e] at hkl; simp at hkl
            · have ev2 := Value.slice.inj ev
              obtain ⟨rfl, hnn, rfl⟩ := ev2
              clear hnn
              obtain ⟨hcl, hat⟩ := hc k x hget
              have hcl2 := hcl.below hbr
              have hatW := hat.below HW6.out
              have hlen : x.an = x.ats.length := by obtain ⟨a, c, e⟩ := hat.row.len; exact (Value.slice.inj e).2.1
              obtain ⟨q0, q1, q2, q3, q4, q5, q6, q7, q8, q9⟩ := hcl2
              have HAT := Lib.hid hatW
              have hl10 : x.ats.length ≤ 10000 := by omega
              clear hcl hat hatW hc ev hget hkl g1 g2 g3 g4 hbr hlen
              go_upto_region 12 with (fail)
              obtain ⟨bx, hbx⟩ : ∃ z, wr.heap.size = z := ⟨_, rfl⟩
              have S0 := HC.out.box (x := x) #[.int .i64 x.what, .int .i64 x.a, .int .i64 x.b, .int .i64 x.c, .string x.s, .slice x.aa x.an x.ac, .int .i64 x.n.tag, .slice x.n.aa x.n.an x.n.ac, .string x.n.tx, .slice x.n.ka x.n.kn x.n.kc] 36 ⟨by simp [go_sem], by simp [go_sem], by simp [go_sem], by simp [go_sem], by simp [go_sem]⟩
              rw [hbx] at S0
              obtain ⟨W8, hW8⟩ : ∃ z, wr.alloc (.cells #[.int .i64 x.what, .int .i64 x.a, .int .i64 x.b, .int .i64 x.c, .string x.s, .slice x.aa x.an x.ac, .int .i64 x.n.tag, .slice x.n.aa x.n.an x.n.ac, .string x.n.tx, .slice x.n.ka x.n.kn x.n.kc] 36) = z := ⟨_, rfl⟩
              rw [hW8] at S0
              rw [hW8, hbx]
              have cI := fun (wx : World) (h : LpSt W6 p2 nb2 d bx x wx) => lp_insert h hd1
              have cR := fun (wx : World) (h : LpSt W6 p2 nb2 d bx x wx) => lp_remove h hd1
              have cT := fun (wx : World) (h : LpSt W6 p2 nb2 d bx x wx) => lp_settext h
              have cS := fun (wx : World) (h : LpSt W6 p2 nb2 d bx x wx) => lp_setattrs h HAT.out hl10
              have cD := fun (wx : World) (h : LpSt W6 p2 nb2 d bx x wx) => lp_drop h hd1
              have HS := Lib.hid S0
              clear S0
              obtain ⟨_, _, _, _, ⟨b1, b2, b3, b4, b5⟩⟩ := HS.out
              clear hW8 hbx q0 q1 q2 q3 q4 q5 q6 q7 q8 q9 HC
              go_wp2_with (first
                | (go_at_call 15; ((with_reducible refine (cI _ HS.out).mono ?_); rintro e w5 ⟨⟨v5, rfl⟩, HS5⟩; clear b1 b2 b3 b4 b5 HS; obtain ⟨_, _, _, _, ⟨b1, b2, b3, b4, b5⟩⟩ := HS5.out; have HS := HS5; clear HS5))
                | (go_at_call 29; ((with_reducible refine (cR _ HS.out).mono ?_); rintro e w5 ⟨⟨v5, rfl⟩, HS5⟩; clear b1 b2 b3 b4 b5 HS; obtain ⟨_, _, _, _, ⟨b1, b2, b3, b4, b5⟩⟩ := HS5.out; have HS := HS5; clear HS5))
                | (go_at_call 32; ((with_reducible refine (cT _ HS.out).mono ?_); rintro e w5 ⟨⟨v5, rfl⟩, HS5⟩; clear b1 b2 b3 b4 b5 HS; obtain ⟨_, _, _, _, ⟨b1, b2, b3, b4, b5⟩⟩ := HS5.out; have HS := HS5; clear HS5))
                | (go_at_call 33; ((with_reducible refine (cS _ HS.out).mono ?_); rintro e w5 ⟨⟨v5, rfl⟩, HS5⟩; clear b1 b2 b3 b4 b5 HS; obtain ⟨_, _, _, _, ⟨b1, b2, b3, b4, b5⟩⟩ := HS5.out; have HS := HS5; clear HS5))
                | (go_at_call 30; ((with_reducible refine (cD _ HS.out).mono ?_); rintro e w5 ⟨⟨v5, rfl⟩, HS5⟩; clear b1 b2 b3 b4 b5 HS; obtain ⟨_, _, _, _, ⟨b1, b2, b3, b4, b5⟩⟩ := HS5.out; have HS := HS5; clear HS5)))
              go_roundw
              case rel => exact ⟨k + 1, hlt, by go_num, Lib.hid HS.out.copy⟩
              case measure => simp [RowKit.intOf]; omega
          · have hkn : k = n2 := by omega
            subst hkn
            have hbC : Below W6.heap.size W6 wr := HC.out.1
            have hw63 : w3.heap.size ≤ W6.heap.size := by omega
            have hb3r : Below w3.heap.size w3 wr := HB6.out.trans (hbC.mono hw63)
            have hwr : w3.heap.size ≤ wr.heap.size := hb3r.size
            have cPl := fun (W' : World) (hb : Below wr.heap.size wr W') => HPL.out W' (hb3r.trans (hb.mono hwr))
            have cCt := fun (W' : World) (hb : Below wr.heap.size wr W') => HCT.out W' (hb3r.trans (hb.mono hwr))
            have hBC := Lib.hid hbC
            have HPr : Hid (∀ W', Below wr.heap.size wr W' → PrAt W' (Pn.mk tg aa3 n3 c3 x3 k3 m3 c4 ats3 kids3)) := Lib.hid (fun W' h => HON.out.at_ W' (fun b hb => (h.block b (Nat.lt_of_lt_of_le hb.2 hbC.size)).trans (hbC.block b hb.2)))
            have hql : q < W6.heap.size := by omega
            have KX : Hid (∀ W', Below wr.heap.size wr W' → (W'.cell? ⟨q, 0, none⟩ = some (.int .i64 tg) ∧ W'.cell? ⟨q, 1, none⟩ = some (.slice aa3 n3 c3) ∧ W'.cell? ⟨q, 2, none⟩ = some (.string x3) ∧ W'.cell? ⟨q, 3, none⟩ = some (.slice k3 m3 c4))) := Lib.hid (fun W' h => by
              obtain ⟨x0, x1, x2, x3⟩ := HX.out
              have hs := (h.block q (Nat.lt_of_lt_of_le hql hbC.size)).trans (hbC.block q hql)
              exact ⟨(World.cell?_of_block (w := W6) hs).trans x0, (World.cell?_of_block (w := W6) hs).trans x1, (World.cell?_of_block (w := W6) hs).trans x2, (World.cell?_of_block (w := W6) hs).trans x3⟩)
            have hS : (wr.cell? ⟨q, 0, none⟩ = some (.int .i64 tg) ∧ wr.cell? ⟨q, 1, none⟩ = some (.slice aa3 n3 c3) ∧ wr.cell? ⟨q, 2, none⟩ = some (.string x3) ∧ wr.cell? ⟨q, 3, none⟩ = some (.slice k3 m3 c4)) := KX.out wr (Below.refl _ _)
            have hb : Hid (Below wr.heap.size wr wr) := Lib.hid (Below.refl _ _)
            clear hbC hb3r HC
            go_upto_region 17 with (fail)
            go_region_held3 (fun W' => (W'.cell? ⟨q, 0, none⟩ = some (.int .i64 tg) ∧ W'.cell? ⟨q, 1, none⟩ = some (.slice aa3 n3 c3) ∧ W'.cell? ⟨q, 2, none⟩ = some (.string x3) ∧ W'.cell? ⟨q, 3, none⟩ = some (.slice k3 m3 c4))) (first | (with_reducible exact hS) | (refine KX.out _ ?_; (repeat (first | (with_reducible exact hb.out) | (with_reducible exact Below.refl _ _) | (with_reducible refine Below.drew ?_) | (with_reducible refine Below.alloc ?_ ?_ _) | omega | (simp <;> omega))); done)) (first
              | (go_at_call 21; ((with_reducible refine (cPl _ (show Below wr.heap.size wr _ by (repeat (first | (with_reducible exact hb.out) | (with_reducible exact Below.refl _ _) | (with_reducible refine Below.drew ?_) | (with_reducible refine Below.alloc ?_ ?_ _) | omega | (simp <;> omega))))).mono ?_); rintro e w8 ⟨tg5, a5, n5, c5, x5, k5, m5, d5, s5, l5, rfl, hp5, hb8, hon8⟩; have hbq := Lib.hid (pre_of (a := wr) hb8 (by (repeat (first | (with_reducible exact hb.out) | (with_reducible exact Below.refl _ _) | (with_reducible refine Below.drew ?_) | (with_reducible refine Below.alloc ?_ ?_ _) | omega | (simp <;> omega))))); have hd2 := Lib.hid (hbq.out.trans (hb8.mono hbq.out.size)); have H8 := Lib.hid hon8.here; have HP5 := Lib.hid (hp5.trans HPT.out.symm); clear hb hb8 hbq hon8 hp5; have hb := hd2; have hb9 := hd2; clear hd2; replace hS := KX.out _ hb.out))
              | (go_at_call 24; ((with_reducible refine (samenode_mk HP5.out _ ?p1 ?p2).mono ?_); (case p1 => exact H8.out.stay (show Below w8.heap.size w8 _ by (repeat (first | (with_reducible exact Below.refl _ _) | (with_reducible refine Below.drew ?_) | (with_reducible refine Below.alloc ?_ ?_ _) | omega | (simp <;> omega))))); (case p2 => exact HPr.out _ (by (repeat (first | (with_reducible exact hb.out) | (with_reducible exact Below.refl _ _) | (with_reducible refine Below.drew ?_) | (with_reducible refine Below.alloc ?_ ?_ _) | omega | (simp <;> omega))))); rintro e w9 ⟨rfl, hb10⟩; have hbq := Lib.hid (pre_of (a := wr) hb10 (by (repeat (first | (with_reducible exact hb.out) | (with_reducible exact Below.refl _ _) | (with_reducible refine Below.drew ?_) | (with_reducible refine Below.alloc ?_ ?_ _) | omega | (simp <;> omega))))); have hd2 := Lib.hid (hbq.out.trans (hb10.mono hbq.out.size)); clear hb hb10 hbq; have hb := hd2; clear hd2; replace hS := KX.out _ hb.out))
              | (go_at_call 22; ((with_reducible refine (cCt _ (show Below wr.heap.size wr _ by (repeat (first | (with_reducible exact hb.out) | (with_reducible exact Below.refl _ _) | (with_reducible refine Below.drew ?_) | (with_reducible refine Below.alloc ?_ ?_ _) | omega | (simp <;> omega))))).mono ?_); rintro e w10 ⟨rfl, rfl⟩)))
            have h39 : Below w3.heap.size w3 w9 := HB6.out.trans ((hBC.out.trans (hb.out.mono hBC.out.size)).mono hw63)
            have H0s : Hid (∃ l', HsSt B w2 W6 (fun b => w3.heap.size ≤ b ∧ b < W6.heap.size) p nb d l2 l' w9) := Lib.hid ⟨l2, ⟨HB.out.2.1.trans (h39.mono hB3), HF.out.below h39, HI.out, LS.refl l2, fun b hb => ⟨fun e => by have h9 := HF.out.ln; have h8 := hb.1; omega, fun ht => by have h9 := TB.lt HF.out b ht; have h8 := hb.1; omega⟩, fun b hb2 => (hb.out.block b (Nat.lt_of_lt_of_le hb2.2 hBC.out.size)).trans (hBC.out.block b hb2.2)⟩⟩
            have hS6 : ∀ b, (fun b => w3.heap.size ≤ b ∧ b < W6.heap.size) b → b < W6.heap.size := fun b hb => hb.2
            have HS6 := Lib.hid hS6
            clear hS6 h39 hb hb9 hS KX HPr cPl cCt H8 HP5 hBC HPL HCT
            go_wp2
            go_loopw [15] (fun i wr => ∃ id : Nat, 1 ≤ id ∧ id ≤ 100 ∧ i = .int .i64 id ∧ Hid (∃ l', HsSt B w2 W6 (fun b => w3.heap.size ≤ b ∧ b < W6.heap.size) p nb d l2 l' wr)) (fun i _ => 100 - (RowKit.intOf i).toNat)
            case atStart => exact ⟨1, Nat.le_refl _, by omega, rfl, H0s⟩
            case round =>
              obtain ⟨id, h1, h2, rfl, HS⟩ := hrel
              clear H0s
              by_cases hlt : id < 100
              · have hkI : (id : Int) < 100 := by omega
                have hid0 : (id : Int) ≠ 0 := by omega
                obtain ⟨l', s⟩ := HS.out
                have cH := has_any wr p nb d id l' s.f.t
                have cL := live_any wr p nb d l' s.f.t id 41 (s.i.endsRa hd1 _)
                have HSS := Lib.hid s
                cases hh : hasT l' (id : Int) with
                | false =>
                  rw [hh] at cH
                  clear s hh cL HSS
                  go_wp2_with (go_at_call 31; ((with_reducible refine (cH).mono ?_); rintro e w5 ⟨rfl, rfl⟩))
                  go_roundw
                  case rel => exact ⟨id + 1, by omega, by omega, by go_num, HS⟩
                  case measure => simp [RowKit.intOf]; omega
                | true =>
                  rw [hh] at cH
                  cases hl : liveT l' 41 (id : Int) with
                  | true =>
                    rw [hl] at cL
                    clear s hh hl HSS
                    go_wp2_with (first
                      | (go_at_call 31; ((with_reducible refine (cH).mono ?_); rintro e w5 ⟨rfl, rfl⟩))
                      | (go_at_call 34; ((with_reducible refine (cL).mono ?_); rintro e w5 ⟨rfl, rfl⟩)))
                    go_roundw
                    case rel => exact ⟨id + 1, by omega, by omega, by go_num, HS⟩
                    case measure => simp [RowKit.intOf]; omega
                  | false =>
                    rw [hl] at cL
                    have HN : Hid (HsN B w2 W6 (fun b => w3.heap.size ≤ b ∧ b < W6.heap.size) p nb d l2 (id : Int) wr) := Lib.hid ⟨l', s, fun e => by
                      unfold liveT at hl
                      rw [hh, e] at hl
                      simp at hl⟩
                    have cT := fun (wx : World) (h : HsN B w2 W6 (fun b => w3.heap.size ≤ b ∧ b < W6.heap.size) p nb d l2 (id : Int) wx) (t : ByteArray) => hs_settext HS6.out HI.out hd1 hid0 h t
                    have cS := fun (wx : World) (h : HsN B w2 W6 (fun b => w3.heap.size ≤ b ∧ b < W6.heap.size) p nb d l2 (id : Int) wx) (W : World) (hb : Below wx.heap.size wx W) (v : Value) (ats : Row) (hv : RowAt W v ats) (hl : ats.length ≤ 10000) (hs : SizedR ats) => hs_setattrs HS6.out HI.out hd1 hid0 h W hb v ats hv hl hs
                    have cG := fun (wx : World) (h : HsN B w2 W6 (fun b => w3.heap.size ≤ b ∧ b < W6.heap.size) p nb d l2 (id : Int) wx) (t : Int) => hs_settag HS6.out HI.out hd1 hid0 h (HB.out.2.2.below (by obtain ⟨l9, s9, _⟩ := h; rw [hB]; exact s9.b)) t
                    have cR := fun (wx : World) (h : HsN B w2 W6 (fun b => w3.heap.size ≤ b ∧ b < W6.heap.size) p nb d l2 (id : Int) wx) => hs_remove HS6.out HI.out hd1 hid0 h
                    clear s hh hl HSS HS
                    go_wp2_with (first
                      | (go_at_call 31; ((with_reducible refine (cH).mono ?_); rintro e w5 ⟨rfl, rfl⟩))
                      | (go_at_call 34; ((with_reducible refine (cL).mono ?_); rintro e w5 ⟨rfl, rfl⟩))
                      | (go_at_call 32; ((with_reducible refine (cT _ HN.out _).mono ?_); rintro e w5 ⟨⟨v5, rfl⟩, HN5⟩; clear HN; have HN := HN5; clear HN5))
                      | (go_at_call 33; ((with_reducible refine (cS _ HN.out _ ((Below.refl _ _).alloc (Nat.le_refl _) _) _ _ (row_one _ _ _) (by simp) sized_turned).mono ?_); rintro e w5 ⟨⟨v5, rfl⟩, HN5⟩; clear HN; have HN := HN5; clear HN5))
                      | (go_at_call 35; ((with_reducible refine (cG _ HN.out _).mono ?_); rintro e w5 ⟨⟨v5, rfl⟩, HN5⟩; clear HN; have HN := HN5; clear HN5))
                      | (go_at_call 29; ((with_reducible refine (cR _ HN.out).mono ?_); rintro e w5 ⟨⟨v5, rfl⟩, HN5⟩; clear HN; have HN := HN5; clear HN5)))
                    go_roundw
                    case rel => exact ⟨id + 1, by omega, by omega, by go_num, Lib.hid (by obtain ⟨l9, s9, _⟩ := HN.out; exact ⟨l9, s9⟩)⟩
                    case measure => simp [RowKit.intOf]; omega
              · have hid : id = 100 := by omega
                subst hid
                obtain ⟨l', s⟩ := HS.out
                have cPl := fun (W' : World) (hb : Below wr.heap.size wr W') => plain_any B p nb d l' s.i.ats 41 0 (s.i.endsHa hd1 0) W' (s.f.below hb)
                rw [s.ls.host HI.out hd1 41] at cPl
                unfold PlainPost at cPl
                have hBF : Below w.heap.size w wr := HBQ.out.trans (s.b.mono hBw)
                have hwf := hBF.size
                have cA2 := fun (W' : World) (hb : Below wr.heap.size wr W') => cA W' (hBF.trans (hb.mono hwf))
                have hlt6 : ∀ b, b < W6.heap.size → w3.heap.size ≤ b → b < wr.heap.size := fun b hb hb2 => lt_of_same hb (s.same b ⟨hb2, hb⟩)
                have HPr : Hid (∀ W', Below wr.heap.size wr W' → PrAt W' (Pn.mk tg aa3 n3 c3 x3 k3 m3 c4 ats3 kids3)) := Lib.hid (fun W' h => HON.out.at_ W' (fun b hb => (h.block b (hlt6 b hb.2 hb.1)).trans (s.same b hb)))
                have KX : Hid (∀ W', Below wr.heap.size wr W' → (W'.cell? ⟨q, 0, none⟩ = some (.int .i64 tg) ∧ W'.cell? ⟨q, 1, none⟩ = some (.slice aa3 n3 c3) ∧ W'.cell? ⟨q, 2, none⟩ = some (.string x3) ∧ W'.cell? ⟨q, 3, none⟩ = some (.slice k3 m3 c4))) := Lib.hid (fun W' h => by
                  obtain ⟨x0, x1, x2, x3⟩ := HX.out
                  have hs := (h.block q (hlt6 q hql hq3)).trans (s.same q ⟨hq3, hql⟩)
                  exact ⟨(World.cell?_of_block (w := W6) hs).trans x0, (World.cell?_of_block (w := W6) hs).trans x1, (World.cell?_of_block (w := W6) hs).trans x2, (World.cell?_of_block (w := W6) hs).trans x3⟩)
                have hS : (wr.cell? ⟨q, 0, none⟩ = some (.int .i64 tg) ∧ wr.cell? ⟨q, 1, none⟩ = some (.slice aa3 n3 c3) ∧ wr.cell? ⟨q, 2, none⟩ = some (.string x3) ∧ wr.cell? ⟨q, 3, none⟩ = some (.slice k3 m3 c4)) := KX.out wr (Below.refl _ _)
                have hb : Hid (Below wr.heap.size wr wr) := Lib.hid (Below.refl _ _)
                have HBF := Lib.hid hBF
                clear hBF s HS hlt6
                go_upto_region 27 with (fail)
                go_region_held3 (fun W' => (W'.cell? ⟨q, 0, none⟩ = some (.int .i64 tg) ∧ W'.cell? ⟨q, 1, none⟩ = some (.slice aa3 n3 c3) ∧ W'.cell? ⟨q, 2, none⟩ = some (.string x3) ∧ W'.cell? ⟨q, 3, none⟩ = some (.slice k3 m3 c4))) (first | (with_reducible exact hS) | (refine KX.out _ ?_; (repeat (first | (with_reducible exact hb.out) | (with_reducible exact Below.refl _ _) | (with_reducible refine Below.drew ?_) | (with_reducible refine Below.alloc ?_ ?_ _) | omega | (simp <;> omega))); done)) (first
                  | (go_at_call 21; ((with_reducible refine (cPl _ (show Below wr.heap.size wr _ by (repeat (first | (with_reducible exact hb.out) | (with_reducible exact Below.refl _ _) | (with_reducible refine Below.drew ?_) | (with_reducible refine Below.alloc ?_ ?_ _) | omega | (simp <;> omega))))).mono ?_); rintro e w8 ⟨tg5, a5, n5, c5, x5, k5, m5, d5, s5, l5, rfl, hp5, hb8, hon8⟩; have hbq := Lib.hid (pre_of (a := wr) hb8 (by (repeat (first | (with_reducible exact hb.out) | (with_reducible exact Below.refl _ _) | (with_reducible refine Below.drew ?_) | (with_reducible refine Below.alloc ?_ ?_ _) | omega | (simp <;> omega))))); have hd2 := Lib.hid (hbq.out.trans (hb8.mono hbq.out.size)); have H8 := Lib.hid hon8.here; have HP5 := Lib.hid (hp5.trans HPT.out.symm); clear hb hb8 hbq hon8 hp5; have hb := hd2; clear hd2; replace hS := KX.out _ hb.out))
                  | (go_at_call 24; ((with_reducible refine (samenode_mk HP5.out _ ?p1 ?p2).mono ?_); (case p1 => exact H8.out.stay (show Below w8.heap.size w8 _ by (repeat (first | (with_reducible exact Below.refl _ _) | (with_reducible refine Below.drew ?_) | (with_reducible refine Below.alloc ?_ ?_ _) | omega | (simp <;> omega))))); (case p2 => exact HPr.out _ (by (repeat (first | (with_reducible exact hb.out) | (with_reducible exact Below.refl _ _) | (with_reducible refine Below.drew ?_) | (with_reducible refine Below.alloc ?_ ?_ _) | omega | (simp <;> omega))))); rintro e w9 ⟨rfl, hb10⟩; have hbq := Lib.hid (pre_of (a := wr) hb10 (by (repeat (first | (with_reducible exact hb.out) | (with_reducible exact Below.refl _ _) | (with_reducible refine Below.drew ?_) | (with_reducible refine Below.alloc ?_ ?_ _) | omega | (simp <;> omega))))); have hd2 := Lib.hid (hbq.out.trans (hb10.mono hbq.out.size)); clear hb hb10 hbq; have hb := hd2; clear hd2; replace hS := KX.out _ hb.out))
                  | (go_at_call 9; ((with_reducible refine (cA2 _ (show Below wr.heap.size wr _ by (repeat (first | (with_reducible exact hb.out) | (with_reducible exact Below.refl _ _) | (with_reducible refine Below.drew ?_) | (with_reducible refine Below.alloc ?_ ?_ _) | omega | (simp <;> omega))))).mono ?_); rintro e w10 ⟨rfl, hb10⟩; have hbq := Lib.hid (pre_of (a := wr) hb10 (by (repeat (first | (with_reducible exact hb.out) | (with_reducible exact Below.refl _ _) | (with_reducible refine Below.drew ?_) | (with_reducible refine Below.alloc ?_ ?_ _) | omega | (simp <;> omega))))); have hd2 := Lib.hid (hbq.out.trans (hb10.mono hbq.out.size)); clear hb hb10 hbq; have hb := hd2; clear hd2; replace hS := KX.out _ hb.out)))
                all_goals go_wp2
                all_goals go_ret
                all_goals exact ⟨rfl, HBF.out.trans (hb.out.mono hwf)⟩

end Go.Proofs.YtdegkcibadjogaaDoor
