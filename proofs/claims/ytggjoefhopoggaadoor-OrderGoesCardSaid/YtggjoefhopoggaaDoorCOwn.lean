/-
  Attributes of one's own: strings.Clone, own; slices.Clone of attributes.
-/
import Derived.Test.YtggjoefhopoggaaDoorCAtt
import Derived.Test.YtggjoefhopoggaaDoorShelf
import Derived.Deep.RegionLaw
import Derived.Deep.RegionHeld3

namespace Go.Proofs.YtggjoefhopoggaaDoor
open Go.RowKit Go.Lib

/-- append onto a row of one's own, as a step of a region that draws. -/
theorem step_append_own {P : Program} {w : World} {ops : Array Oper} {o : Oper} {a : Act} {K : Act → World → Prop} {Q : Exit → Act → World → Prop} {E : Prop} (hgd : o.guard = none) (s x : Operand) (t : TypeId)
    (ho : o.op = .call { callee := .builtin .append, args := #[s, x], argTypes := #[t, t] })
    (base : Nat) (e : TypeId) (i : TypeInfo) (z : Value) (size bytes : Nat) (ht : P.underlying t = some (.slice e)) (hi : P.info? e = some i) (hz : i.zero = some z)
    (hsize : i.size = size) (hby : i.bytes = bytes) (hzs : z.cells.size = size) (hsz : 0 < size)
    (v : Value) (n : Nat) (xs : List Value) (hs : a.eval s = v) (hown : w.ownsRow base e size v n xs)
    (ad : Addr) (m c : Nat) (news : List Value) (hx : a.eval x = .slice (some ad) m c) (hl : news.length = m * size) (hnews : ∀ j u, news[j]? = some u → w.cell? (ad.add j) = some u) (h1 : ∀ u ∈ news, u.oneCell' = true)
    (h63 : n + m ≤ maxLen) (hbytes : (n + m) * bytes ≤ 140737488355328) (hbase : base ≤ w.heap.size)
    (h : ∀ v' w', w'.ownsRow base e size v' (n + m) (xs ++ news) → w.grownBy w' v.ownBlock → K (a.put o.dst v') w') :
    if Region.wanted o (yielded ops a.tmps) = true then Oper.wp P o a w K Q else E := by
  have hw : Region.wanted o (yielded ops a.tmps) = true := by simp [Region.wanted, hgd]
  rw [if_pos hw]
  exact wp_append_own w s x t ho base e i z size bytes ht hi hz hsize hby hzs hsz v n xs hs hown ad m c news hx hl hnews h1 h63 hbytes hbase fun v' w' h2 h3 _ => h v' w' h2 h3


set_option maxRecDepth 20000 in
theorem clone_any (s : ByteArray) (w : World) (hs : s.size ≤ 140737488355328) :
    Calls Tryd.prog 86 #[.string s] w fun e w' => e = .returned (.string s) ∧ Below w.heap.size w w' := by
  have cC := fun w => Tryd.stringslite_Clone s w (by omega)
  go_enter Tryd.func86, Tryd.ntmps86
  go_wp2_with (go_at_call 91; ((with_reducible refine (cC _).mono ?_); rintro e w1 ⟨rfl, hb1⟩))
  go_ret
  exact ⟨rfl, hb1⟩

theorem below_grown {w wr w' : World} {B e size n : Nat} {v : Value} {xs : List Value} (hb : Below B w wr) (hB : B ≤ wr.heap.size) (hown : wr.ownsRow B e size v n xs) (hg : wr.grownBy w' v.ownBlock) : Below B w w' :=
  hb.grown hg hB (fun j hj => (hown.lt j hj).1)
def SizedR (l : Row) : Prop := ∀ a ∈ l, a.1.size ≤ 140737488355328 ∧ a.2.size ≤ 140737488355328
/-- A row of attributes of its own. -/
def OwnR (l : Row) (w : World) (e : Ending) (w' : World) : Prop := ∃ v, e = .returned v ∧ w'.ownsRow w.heap.size 116 2 v l.length (cellsR l) ∧ Below w.heap.size w w'
theorem take_snoc {l : Row} {k : Nat} (hk : k < l.length) : l.take (k + 1) = l.take k ++ [l[k]!] := by
  rw [List.getElem!_eq_getElem?_getD, List.getElem?_eq_getElem hk, List.take_add_one, List.getElem?_eq_getElem hk]; rfl

set_option maxRecDepth 20000 in
set_option maxHeartbeats 8000000 in
theorem own_any (w : World) (v : Value) (l : Row) (hv : RowAt w v l) (hl : l.length ≤ 10000) (hs : SizedR l) :
    Calls Tryd.prog 78 #[v] w (OwnR l w) := by
  obtain ⟨i0, hi, hz0, hz1, hz2⟩ := info_parts infoAttr
  obtain ⟨a0, c0, e0⟩ := hv.len
  subst e0
  have HV := Lib.hid hv
  have HS := Lib.hid hs
  obtain ⟨n, hn⟩ : ∃ n, l.length = n := ⟨_, rfl⟩
  unfold OwnR
  rw [hn] at hl ⊢
  have HN := Lib.hid hn
  clear hv hs hn
  go_enter Tryd.func78, Tryd.ntmps78
  go_wp2
  go_loopw [3, 8] (fun s3 i wr => ∃ k : Nat, k ≤ n ∧ i = .int .i64 k ∧ wr.ownsRow w.heap.size 116 2 s3 k (cellsR (l.take k)) ∧ Below w.heap.size w wr) (fun _ i _ => n - (RowKit.intOf i).toNat)
  case atStart => exact ⟨0, Nat.zero_le _, rfl, World.ownsRow_nil _ _ _ _, Below.refl _ _⟩
  case round =>
    obtain ⟨k, hk, rfl, hown, hb⟩ := hrel
    have hsz := hb.size
    by_cases hlt : k < n
    · have hkl : k < l.length := by rw [HN.out]; exact hlt
      have hkI : (k : Int) < (n : Int) := by omega
      have hsn := take_snoc hkl
      have hsd : (l[k]!).1.size ≤ 140737488355328 ∧ (l[k]!).2.size ≤ 140737488355328 := HS.out _ (by rw [List.getElem!_eq_getElem?_getD, List.getElem?_eq_getElem hkl]; exact List.getElem_mem hkl)
      rcases HV.out with ⟨_, _, e, _, e2⟩ | ⟨b, o, d, e, _, _, hbb, hc⟩
      · rw [e2] at hkl; simp at hkl
      · obtain ⟨rfl, _, rfl⟩ := Value.slice.inj e
        obtain ⟨x0, x1⟩ := hc k hkl
        replace x0 := (hb.cell (p := ⟨b, o + k * 2, none⟩) hbb).trans x0
        replace x1 := (hb.cell (p := ⟨b, o + k * 2 + 1, none⟩) hbb).trans x1
        obtain ⟨⟨s1, s2⟩, hss⟩ : ∃ q, l[k]! = q := ⟨_, rfl⟩
        rw [hss] at x0 x1 hsn hsd
        dsimp only at x0 x1 hsd
        have HSN := Lib.hid hsn
        have cC1 := fun w => clone_any s1 w hsd.1
        have cC2 := fun w => clone_any s2 w hsd.2
        clear e hc hkl hss hsn hsd hbb
        go_upto_region 5 with (fail)
        obtain ⟨W, hW⟩ : ∃ W, wr.alloc (.cells #[.string s1, .string s2] 116) = W := ⟨_, rfl⟩
        obtain ⟨g, hg⟩ : ∃ g, wr.heap.size = g := ⟨_, rfl⟩
        have hbW : Below wr.heap.size wr W := by rw [← hW]; exact (Below.refl _ _).alloc (Nat.le_refl _) _
        have g0 : W.cell? ⟨g, 0, none⟩ = some (.string s1) := by rw [← hW, ← hg]; simp [go_sem]
        have g1 : W.cell? ⟨g, 1, none⟩ = some (.string s2) := by rw [← hW, ← hg]; simp [go_sem]
        have HO : Hid (∀ W', Below W.heap.size W W' → W'.ownsRow w.heap.size 116 2 u3 k (cellsR (l.take k))) := Lib.hid (fun W' h => ownsRow_below (ownsRow_below hown hbW) h)
        have HB : Hid (Below w.heap.size w W) := Lib.hid (hb.trans (hbW.mono hsz))
        have hS : (W.cell? ⟨g, 0, none⟩ = some (.string s1) ∧ W.cell? ⟨g, 1, none⟩ = some (.string s2)) := ⟨g0, g1⟩
        have KS : Hid (∀ W', Below W.heap.size W W' → (W'.cell? ⟨g, 0, none⟩ = some (.string s1) ∧ W'.cell? ⟨g, 1, none⟩ = some (.string s2))) := Lib.hid (fun W' h => ⟨(h.cell (lt_of_cell' g0)).trans g0, (h.cell (lt_of_cell' g1)).trans g1⟩)
        have hb2 : Hid (Below W.heap.size W W) := Lib.hid (Below.refl _ _)
        have hsW : w.heap.size ≤ W.heap.size := HB.out.size
        have KG : Hid (∀ W1 W2, Below W.heap.size W W1 → W1.grownBy W2 u3.ownBlock → (W2.cell? ⟨g, 0, none⟩ = some (.string s1) ∧ W2.cell? ⟨g, 1, none⟩ = some (.string s2))) := Lib.hid (fun W1 W2 h1 h2 => by
          obtain ⟨c1, c2⟩ := KS.out W1 h1
          have hne : u3.ownBlock ≠ some g := fun e => by have := (hown.lt g e).2; omega
          have hh := h2.block g (lt_of_cell' c1) (by first | exact hne | exact fun e => hne e.symm)
          exact ⟨(World.cell?_of_block (w := W1) hh).trans c1, (World.cell?_of_block (w := W1) hh).trans c2⟩)
        have hzz : W.heap.size ≤ W.heap.size := Nat.le_refl _
        rw [hW, hg]
        clear hW hg hbW g0 g1 hown hb x0 x1 hsz wr
        go_region_held3 (fun W' => (W'.cell? ⟨g, 0, none⟩ = some (.string s1) ∧ W'.cell? ⟨g, 1, none⟩ = some (.string s2))) (first | (with_reducible exact hS) | (refine KS.out _ ?_; (repeat (first | (with_reducible exact hb2.out) | (with_reducible exact Below.refl _ _) | (with_reducible refine Below.drew ?_) | (with_reducible refine Below.alloc ?_ ?_ _) | omega | (simp <;> omega))); done) | (refine KG.out _ _ ?_ hg3; (repeat (first | (with_reducible exact hb2.out) | (with_reducible exact Below.refl _ _) | (with_reducible refine Below.drew ?_) | (with_reducible refine Below.alloc ?_ ?_ _) | omega | (simp <;> omega))); done)) (first
          | (go_at_call 86; (first | (with_reducible refine (cC1 _).mono ?_) | (with_reducible refine (cC2 _).mono ?_)); rintro e w4 ⟨rfl, hb4⟩; have hd2 := Lib.hid ((show Below W.heap.size W _ by (repeat (first | (with_reducible exact hb2.out) | (with_reducible exact Below.refl _ _) | (with_reducible refine Below.drew ?_) | (with_reducible refine Below.alloc ?_ ?_ _) | omega | (simp <;> omega)))).trans (hb4.mono (by (first | omega | (simp; done) | exact hb2.out.size | (simp; exact hb2.out.size) | (simp; omega))))); clear hb2 hb4; have hb2 := hd2; clear hd2; replace hzz := hb2.out.size; replace hS := KS.out _ hb2.out)
          | (refine step_append_own rfl _ _ 64 rfl w.heap.size 116 i0 _ 2 32 Tryd.underlying64 hi hz0 hz1 hz2 rfl (by decide) u3 k (cellsR (l.take k)) rfl (HO.out _ (by (repeat (first | (with_reducible exact hb2.out) | (with_reducible exact Below.refl _ _) | (with_reducible refine Below.drew ?_) | (with_reducible refine Below.alloc ?_ ?_ _) | omega | (simp <;> omega))))) ⟨_, 0, none⟩ 1 1 [.string s1, .string s2] rfl rfl (by
              intro j u hu
              match j, hu with
              | 0, hu => cases hu; simp [go_sem]
              | 1, hu => cases hu; simp [go_sem]
              | j + 2, hu => simp at hu) (by
              intro u hu
              simp only [List.mem_cons, List.not_mem_nil, or_false] at hu
              rcases hu with rfl | rfl <;> rfl) (by unfold maxLen; omega) (by omega) (by have := hb2.out.size; simp; omega) ?_; intro v3 w3 hown3 hg3))
        all_goals go_wp2
        all_goals go_roundw
        case rel =>
          refine ⟨k + 1, hlt, by go_num, ?_, ?_⟩
          · rw [HSN.out, cellsR_append]; exact hown3
          · exact below_grown (HB.out.trans ((show Below W.heap.size W _ from (hb2.out.alloc hzz _)).mono hsW)) (by simp; omega) ((HO.out _ hb2.out).alloc _) hg3
        case measure => simp [RowKit.intOf]; omega
    · have hkn : k = n := by omega
      subst hkn
      have ht : l.take k = l := List.take_of_length_le (by rw [HN.out]; exact Nat.le_refl _)
      rw [ht] at hown
      go_wp2
      go_ret
      exact ⟨_, rfl, hown, hb⟩

end Go.Proofs.YtggjoefhopoggaaDoor
