/-
  The contract of the document's Drop.
-/
import Derived.Test.YtcccaaleekednaaDoorWalksP
import Derived.Deep.RegionLaw
import Derived.Deep.AppendLies
namespace Go.Proofs.YtcccaaleekednaaDoor
open Go.RowKit Go.Lib

/-- append onto a row of one's own, as a step of a region that draws. -/
theorem step_append_own {P : Program} {w : World} {ops : Array Oper} {o : Oper} {a : Act} {K : Act → World → Prop} {Q : Exit → Act → World → Prop} {E : Prop} (hgd : o.guard = none) (s x : Operand) (t : TypeId)
    (ho : o.op = .call { callee := .builtin .append, args := #[s, x], argTypes := #[t, t] })
    (base : Nat) (e : TypeId) (i : TypeInfo) (z : Value) (size bytes : Nat) (ht : P.underlying t = some (.slice e)) (hi : P.info? e = some i) (hz : i.zero = some z)
    (hsize : i.size = size) (hby : i.bytes = bytes) (hzs : z.cells.size = size) (hsz : 0 < size)
    (v : Value) (n : Nat) (xs : List Value) (hs : a.eval s = v) (hown : w.ownsRow base e size v n xs)
    (ad : Addr) (m c : Nat) (news : List Value) (hx : a.eval x = .slice (some ad) m c) (hl : news.length = m * size) (hnews : ∀ j u, news[j]? = some u → w.cell? (ad.add j) = some u) (h1 : ∀ u ∈ news, u.oneCell' = true)
    (h63 : n + m ≤ maxLen) (hbytes : (n + m) * bytes ≤ 140737488355328) (hbase : base ≤ w.heap.size)
    (h : ∀ v' w', w'.ownsRow base e size v' (n + m) (xs ++ news) → w.grownBy w' v.ownBlock → K (a.put o.dst v') w') :
    if Region.wanted o (yielded ops a.tmps) = true then Oper.wp P o a w K Q else E := by
  have hw : Region.wanted o (yielded ops a.tmps) = true := by simp [Region.wanted, hgd]
  rw [if_pos hw]
  exact wp_append_own w s x t ho base e i z size bytes ht hi hz hsize hby hzs hsz v n xs hs hown ad m c news hx hl hnews h1 h63 hbytes hbase fun v' w' h2 h3 _ => h v' w' h2 h3

set_option maxHeartbeats 1000000 in
theorem rdrop_no (v : Value) (l : Row) (n : ByteArray) (w : World) (hv : RowAt w v l) (hl : l.length ≤ 10000) (h : hasR l n = false) :
    Calls Tryd.prog 24 #[v, .string n] w fun e w' => e = .returned noneV ∧ w = w' := by
  unfold noneV
  have cF := rfind_any v l n w hv (by omega)
  unfold findZ at cF
  rw [hasR_iff] at h
  have hk : ¬ findR l n < l.length := by simpa using h
  rw [if_neg hk] at cF
  clear h hk
  go_enter Tryd.func24, Tryd.ntmps24
  go_wp2_with (go_at_call 17; ((with_reducible refine cF.mono ?_); rintro e w1 ⟨rfl, rfl⟩))
  go_ret2
  exact ⟨rfl, rfl⟩

set_option maxHeartbeats 4000000 in
theorem rdrop_yes (v : Value) (l : Row) (n : ByteArray) (w : World) (hv : RowAt w v l) (hl : l.length ≤ 10000) (h : hasR l n = true) :
    Calls Tryd.prog 24 #[v, .string n] w (PutLen (dropR l n) w) := by
  obtain ⟨i0, hi, hz0, hz1, hz2⟩ := info_parts infoAttr
  have cF := rfind_any v l n w hv (by omega)
  unfold findZ at cF
  rw [hasR_iff] at h
  have hk : findR l n < l.length := by simpa using h
  rw [if_pos hk] at cF
  have hP := dropR_at l n hk
  clear h
  obtain ⟨k, hK⟩ : ∃ k, findR l n = k := ⟨_, rfl⟩
  rw [hK] at cF hk hP
  clear hK
  have HP := Lib.hid hP
  clear hP
  have h0 : ¬ (k : Int) < 0 := by omega
  rcases hv with ⟨_, _, rfl, _, rfl⟩ | ⟨b, o, c, rfl, hlc, hcm, hbb, hcs⟩
  · simp at hk
  · obtain ⟨N, hN⟩ : ∃ N, l.length = N := ⟨_, rfl⟩
    rw [hN] at cF hk hlc hl ⊢
    have cO : ∀ wx, Below w.heap.size w wx → Calls Tryd.prog 16 #[.slice (some ⟨b, o, none⟩) k c] wx (OwnPost (l.take k) wx) := fun wx hx =>
      rown_any _ (l.take k) wx (rowAt_take (hcs.below hbb hx) hN (by omega) (by omega) hcm (Nat.lt_of_lt_of_le hbb hx.size)) (by rw [List.length_take]; omega)
    unfold OwnPost at cO
    have etk : (l.take k).length = k := by rw [List.length_take]; omega
    have edr : (l.drop (k + 1)).length = N - (k + 1) := by rw [List.length_drop]; omega
    rw [etk] at cO
    have hnews : ∀ wx, Below w.heap.size w wx → ∀ (j : Nat) (u : Value), (cellsR (l.drop (k + 1)))[j]? = some u → wx.cell? ((⟨b, o + (k + 1) * 2, none⟩ : Addr).add j) = some u := fun wx hx j u hu => by
      rcases rowAt_drop (k := k + 1) (hcs.below hbb hx) hN hlc hcm (Nat.lt_of_lt_of_le hbb hx.size) with ⟨_, _, _, _, e⟩ | ⟨b', o', c', e, _, _, _, hc'⟩
      · rw [e] at hu; have h0 : (cellsR ([] : Row))[j]? = none := (by show ([] : List Value)[j]? = none; simp); rw [h0] at hu; cases hu
      · have e2 := (Value.slice.inj e).1
        simp only [Option.some.injEq, Addr.mk.injEq, and_true] at e2
        obtain ⟨rfl, rfl⟩ := e2
        exact hc'.addF j u hu
    have hnone : c = k + 1 → ∀ (j : Nat) (u : Value), (cellsR (l.drop (k + 1)))[j]? = some u → False := fun hce j u hu => by
      have e : l.drop (k + 1) = [] := List.drop_eq_nil_of_le (by omega)
      rw [e] at hu; have h0 : (cellsR ([] : Row))[j]? = none := (by show ([] : List Value)[j]? = none; simp); rw [h0] at hu; cases hu
    have hcl : (cellsR (l.drop (k + 1))).length = (N - (k + 1)) * 2 := by rw [cellsR_length, edr]
    have HCL := Lib.hid hcl
    clear hcl
    have HN := Lib.hid hN
    have HTK := Lib.hid etk
    have HDR := Lib.hid edr
    clear hN etk edr
    unfold maxLen at hcm
    have hk2 : (k : Int) < (N : Int) := by omega
    have hk3 : (k : Int) + 1 ≤ (N : Int) := by omega
    have hk4 : (N : Int) ≤ (c : Int) := by omega
    have hk5 : (k : Int) ≤ (c : Int) := by omega
    have hk6 : k ≤ c := by omega
    have hk7 : k + 1 ≤ N := hk
    by_cases hce : c = k + 1
    · have HCE := Lib.hid hce
      clear hce
      go_enter Tryd.func24, Tryd.ntmps24
      go_wp2_with (go_at_call 17; ((with_reducible refine cF.mono ?_); rintro e w1 ⟨rfl, rfl⟩))
      have hw1 : IntKind.i64.wrap ((k : Int) + 1) = (k : Int) + 1 := IntWalk.i64_in _ (by omega)
      have hw2 : (0 : Int) ≤ (k : Int) + 1 := by omega
      have hw3 : ((k : Int) + 1).toNat = k + 1 := by omega
      go_region_law (first
        | (refine step_append_own rfl _ _ 25 rfl w.heap.size 32 i0 _ 2 32 Tryd.underlying25 hi hz0 hz1 hz2 rfl (by decide) _ _ _ rfl hown ⟨b, o, none⟩ (N - (k + 1)) (c - (k + 1)) (cellsR (l.drop (k + 1))) (by show Value.slice (if c = k + 1 then some _ else some _) _ _ = _; rw [if_pos HCE.out]) HCL.out (fun j u hu => (hnone HCE.out j u hu).elim) (cellsR_one _) (by unfold maxLen; omega) (by omega) hsz2 ?_; intro v3 w3 hown3 hg3)
        | (go_simp; go_at_call 16; refine (cO _ ((Below.refl _ _).drew)).mono ?_; rintro e w2 ⟨v2, rfl, hown, hb2⟩; have hsz2 : w.heap.size ≤ w2.heap.size := hb2.size; have hbw : Below w.heap.size w w2 := ((Below.refl _ w).drew).trans hb2))
      go_wp2
      go_ret2
      have h5 := own_app hown3 HTK.out HDR.out
      rw [← HP.out] at h5
      exact own_len h5 (hbw.grown hg3 hsz2 (fun j hj => (hown.lt j hj).1))
    · have HCE := Lib.hid hce
      clear hnone hce
      go_enter Tryd.func24, Tryd.ntmps24
      go_wp2_with (go_at_call 17; ((with_reducible refine cF.mono ?_); rintro e w1 ⟨rfl, rfl⟩))
      have hw1 : IntKind.i64.wrap ((k : Int) + 1) = (k : Int) + 1 := IntWalk.i64_in _ (by omega)
      have hw2 : (0 : Int) ≤ (k : Int) + 1 := by omega
      have hw3 : ((k : Int) + 1).toNat = k + 1 := by omega
      go_region_law (first
        | (refine step_append_own rfl _ _ 25 rfl w.heap.size 32 i0 _ 2 32 Tryd.underlying25 hi hz0 hz1 hz2 rfl (by decide) _ _ _ rfl hown ⟨b, o + (k + 1) * 2, none⟩ (N - (k + 1)) (c - (k + 1)) (cellsR (l.drop (k + 1))) (by show Value.slice (if c = k + 1 then some _ else some _) _ _ = _; rw [if_neg HCE.out]) HCL.out (hnews _ hbw) (cellsR_one _) (by unfold maxLen; omega) (by omega) hsz2 ?_; intro v3 w3 hown3 hg3)
        | (go_simp; go_at_call 16; refine (cO _ ((Below.refl _ _).drew)).mono ?_; rintro e w2 ⟨v2, rfl, hown, hb2⟩; have hsz2 : w.heap.size ≤ w2.heap.size := hb2.size; have hbw : Below w.heap.size w w2 := ((Below.refl _ w).drew).trans hb2))
      go_wp2
      go_ret2
      have h5 := own_app hown3 HTK.out HDR.out
      rw [← HP.out] at h5
      exact own_len h5 (hbw.grown hg3 hsz2 (fun j hj => (hown.lt j hj).1))

end Go.Proofs.YtcccaaleekednaaDoor
