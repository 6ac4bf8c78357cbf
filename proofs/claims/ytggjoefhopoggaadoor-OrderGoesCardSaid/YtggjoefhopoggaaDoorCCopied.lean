/-
  slices.Clone of attributes; a node is copied.
-/
import Derived.Test.YtggjoefhopoggaaDoorCDrop
import Derived.Test.YtggjoefhopoggaaDoorCRead
import Derived.Deep.RegionWith

namespace Go.Proofs.YtggjoefhopoggaaDoor
open Go.RowKit Go.Lib

set_option maxRecDepth 20000 in
set_option maxHeartbeats 4000000 in
theorem cloneR_any (B : Nat) (w : World) (aa : Option Addr) (an ac : Nat) (ats : Row) (ho : w.ownsRow B 116 2 (.slice aa an ac) ats.length (cellsR ats)) (hl : ats.length ≤ 100000) :
    Calls Tryd.prog 88 #[.slice aa an ac] w (OwnR ats w) := by
  obtain ⟨i0, hi, hz0, hz1, hz2⟩ := info_parts infoAttr
  have q22 : ∀ (w : World) (a : Option Addr) (n c n' c' : Nat), (binOp .eql 64 (.slice a n c) (.slice none n' c')).run Tryd.prog w = .ok (.bool a.isNone) w := fun w a n c n' c' => Lib.run_eql_slice_nil w _ _ a n c n' c' Tryd.underlying64
  rcases ho.2 with ⟨e, h0⟩ | ⟨g, cap, cur, e, hB, hg, hnc, hcm, _⟩
  · obtain ⟨rfl, rfl, rfl⟩ := Value.slice.inj e
    have e2 : ats = [] := List.eq_nil_of_length_eq_zero h0
    subst e2
    clear ho
    go_enter Tryd.func88, Tryd.ntmps88
    go_wp2
    go_ret
    exact ⟨_, rfl, World.ownsRow_nil _ _ _ _, Below.refl _ _⟩
  · obtain ⟨rfl, rfl, rfl⟩ := Value.slice.inj e
    have hb0 : Below w.heap.size w (w.alloc (.cells #[] 116)) := (Below.refl _ w).alloc (Nat.le_refl _) _
    have ho2 := ownsRow_below ho hb0
    have hc : ∀ j u, (cellsR ats)[j]? = some u → (w.alloc (.cells #[] 116)).cell? ((⟨g, 0, none⟩ : Addr).add j) = some u := fun j u hu => ho2.cells rfl j u hu
    have HC := Lib.hid hc
    have HO := Lib.hid (cellsR_one ats)
    have hcl := cellsR_length ats
    obtain ⟨Z, hZ⟩ : ∃ Z, cellsR ats = Z := ⟨_, rfl⟩
    rw [hZ] at HC HO hcl
    unfold OwnR
    rw [hZ]
    obtain ⟨n, hn⟩ : ∃ n, ats.length = n := ⟨_, rfl⟩
    rw [hn] at hl hcl ⊢
    have HCL := Lib.hid hcl
    clear ho ho2 hc hZ hn e hg hcl
    go_enter Tryd.func88, Tryd.ntmps88
    go_wp2_with (at_builtin; refine wpList_append_own _ rfl _ _ 64 rfl w.heap.size 116 i0 _ 2 32 Tryd.underlying64 hi hz0 hz1 hz2 rfl (by decide) _ _ _ rfl (World.ownsRow_made w #[] 0 (Nat.le_refl _) (Nat.zero_le _) (by simp)) ⟨g, 0, none⟩ n ac Z rfl HCL.out HC.out HO.out (by unfold maxLen; omega) (by omega) (by simp) ?_; intro v' w1 hown' hgrow _)
    go_ret
    rw [Nat.zero_add, List.nil_append] at hown'
    exact ⟨_, rfl, hown', ((Below.refl _ w).alloc (Nat.le_refl _) _).grown hgrow (by simp) (fun j hj => by cases hj; exact Nat.le_refl _)⟩

/-- What copied answers: a node in a block of its own, its rows in blocks of their own. -/
structure CopiedAt (w w' : World) (x x' : Nd) : Prop where
  same : x'.tag = x.tag ∧ x'.tx = x.tx ∧ x'.up = x.up ∧ x'.kids = x.kids ∧ x'.ats = x.ats
  nd : NodeAt w' x'
  ab : w.heap.size ≤ x'.ab
  own : w'.ownsRow w.heap.size 3 1 x'.ks x'.kids.length (cellsZ x'.kids)
  ra : w'.ownsRow w.heap.size 116 2 x'.as x'.ats.length (cellsR x'.ats)
  ka : ∀ b, x'.ks.ownBlock = some b → b ≠ x'.ab
  ba : ∀ b, x'.as.ownBlock = some b → b ≠ x'.ab ∧ x'.ks.ownBlock ≠ some b
  bel : Below w.heap.size w w'

theorem copied_end {w W w3 : World} {q S3 n : Nat} {x : Nd} {tag up : Int} {tx : ByteArray} {u1 u5 : Value} {a2 a3 : Option Addr} {c2 c3 : Nat} {kids : List Int} {ats : List (ByteArray × ByteArray)} (hq : w.heap.size = q) (HBW : Below w.heap.size w W) (hsW : W.heap.size = q + 1) (hb : Below W.heap.size W w3)
    (kc : w3.cell? ⟨q, 0, none⟩ = some (.int .i64 tag) ∧ w3.cell? ⟨q, 1, none⟩ = some u1 ∧ w3.cell? ⟨q, 2, none⟩ = some (.string tx) ∧ w3.cell? ⟨q, 3, none⟩ = some (.slice none 0 0) ∧ w3.cell? ⟨q, 4, none⟩ = some (.int .i64 up) ∧ w3.cell? ⟨q, 5, none⟩ = some u5 ∧ ∀ j, w3.frozen? ⟨q, j, none⟩ = false)
    (o2 : w3.ownsRow (q + 1) 116 2 (.slice a2 ats.length c2) ats.length (cellsR ats)) (o3 : w3.ownsRow S3 3 1 (.slice a3 n c3) n (cellsZ kids)) (hk3 : KidsAt w3 a3 kids) (hlt : ∀ b, (Value.slice a2 ats.length c2).ownBlock = some b → b < S3) (hS3 : q + 1 ≤ S3) (hn : kids.length = n) (hkl : n ≤ 2000) (hx : tag = x.tag ∧ tx = x.tx ∧ up = x.up ∧ kids = x.kids ∧ ats = x.ats) :
    ∃ x', Ending.returned (Value.pointer (some ⟨q, 0, none⟩)) = Ending.returned (.pointer (some ⟨x'.ab, 0, none⟩)) ∧ CopiedAt w ((w3.setCell ⟨q, 1, none⟩ (.slice a2 ats.length c2)).setCell ⟨q, 5, none⟩ (.slice a3 n c3)) x x' := by
  subst hn
  obtain ⟨k0, k1, k2, k3, k4, k5, kf⟩ := kc
  have hb2 : ∀ b, b ≠ q → ((w3.setCell ⟨q, 1, none⟩ (.slice a2 ats.length c2)).setCell ⟨q, 5, none⟩ (.slice a3 kids.length c3)).heap[b]? = w3.heap[b]? := fun b hne => (Below.heap_setCell _ ⟨q, 5, none⟩ _ b hne).trans (Below.heap_setCell _ ⟨q, 1, none⟩ _ b hne)
  have hc : ∀ j, j ≠ 1 → j ≠ 5 → ((w3.setCell ⟨q, 1, none⟩ (.slice a2 ats.length c2)).setCell ⟨q, 5, none⟩ (.slice a3 kids.length c3)).cell? ⟨q, j, none⟩ = w3.cell? ⟨q, j, none⟩ := fun j h1 h5 => (World.cell?_setCell_other _ _ _ _ (fun e => h5 (congrArg Addr.off e).symm)).trans (World.cell?_setCell_other _ _ _ _ (fun e => h1 (congrArg Addr.off e).symm))
  have hown : ∀ {B' size m : Nat} {t : TypeId} {v : Value} {xs : List Value}, w3.ownsRow B' t size v m xs → q + 1 ≤ B' → ((w3.setCell ⟨q, 1, none⟩ (.slice a2 ats.length c2)).setCell ⟨q, 5, none⟩ (.slice a3 kids.length c3)).ownsRow w.heap.size t size v m xs := fun {B' size m t v xs} ho hB => by
    refine ⟨ho.1, ?_⟩
    rcases ho.2 with h2 | ⟨g, cap, cur, h0, hBg, hg, h3⟩
    · exact .inl h2
    · exact .inr ⟨g, cap, cur, h0, by omega, (hb2 g (by omega)).trans hg, h3⟩
  refine ⟨⟨q, tag, a2, ats.length, c2, tx, up, a3, c3, kids, ats⟩, rfl, ⟨hx, ⟨(hc 0 (by decide) (by decide)).trans k0, ?_, (hc 2 (by decide) (by decide)).trans k2, (hc 3 (by decide) (by decide)).trans k3, (hc 4 (by decide) (by decide)).trans k4, ?_, fun j => by rw [World.frozen?_setCell, World.frozen?_setCell]; exact kf j, ?_, hkl⟩, Nat.le_of_eq hq, hown o3 hS3, hown o2 (Nat.le_refl _), fun b e => ?_, fun b e => ⟨?_, fun e2 => ?_⟩, ?_⟩⟩
  · exact (World.cell?_setCell_other _ _ _ _ (fun e => by have := congrArg Addr.off e; simp at this)).trans (World.cell?_setCell_same _ _ _ k1)
  · exact World.cell?_setCell_same _ _ _ ((World.cell?_setCell_other _ _ _ _ (fun e => by have := congrArg Addr.off e; simp at this)).trans k5)
  · rcases hk3 with h0 | ⟨b, o, e, h0⟩
    · exact .inl h0
    · by_cases hne : kids = []
      · exact .inl hne
      · have hbq : b ≠ q := fun e2 => by
          have e3 : (Value.slice a3 kids.length c3).ownBlock = some b := by rw [e]; rfl
          have := (o3.lt b e3).1
          omega
        exact .inr ⟨b, o, e, fun j hj => (World.cell?_of_block (w := w3) (hb2 b hbq)).trans (h0 j hj)⟩
  · have := (o3.lt b e).1
    show b ≠ q
    omega
  · have := (o2.lt b e).1
    show b ≠ q
    omega
  · have h1 := hlt b e
    have h2 := (o3.lt b e2).1
    omega
  · have h1 : Below w.heap.size w w3 := HBW.trans (hb.mono HBW.size)
    exact (h1.setCell (p := ⟨q, 1, none⟩) (Nat.le_of_eq hq) _).setCell (p := ⟨q, 5, none⟩) (Nat.le_of_eq hq) _

set_option maxRecDepth 20000 in
set_option maxHeartbeats 8000000 in
theorem copied_any (B : Nat) (w : World) (x : Nd) (hk : KidsAt w x.ka x.kids) (hkl : x.kids.length ≤ 2000) (hkn : x.ka = none → x.kids = []) (ho : w.ownsRow B 116 2 x.as x.ats.length (cellsR x.ats)) (hl : x.ats.length ≤ 100000) :
    Calls Tryd.prog 81 #[.agg #[.int .i64 x.tag, .slice x.aa x.an x.ac, .string x.tx, .slice none 0 0, .int .i64 x.up, .slice x.ka x.kids.length x.kc]] w fun e w' => ∃ x', e = .returned (.pointer (some ⟨x'.ab, 0, none⟩)) ∧ CopiedAt w w' x x' := by
  obtain ⟨ab, tag, aa, an, ac, tx, up, ka, kc, kids, ats⟩ := x
  unfold Nd.as at ho
  dsimp only at hk hkl hkn ho hl ⊢
  have cR := fun (w1 : World) (hb : Below w.heap.size w w1) => cloneR_any B w1 aa an ac ats (ownsRow_below ho hb) hl
  have cZ := fun (w1 : World) (hb : Below w.heap.size w w1) => cloneZ_any w1 ka kids kc (hk.below hb) hkl hkn
  unfold OwnR at cR
  unfold OwnZ at cZ
  obtain ⟨n, hn⟩ : ∃ n, kids.length = n := ⟨_, rfl⟩
  rw [hn] at cZ ⊢
  rw [hn] at hkl
  have HN := Lib.hid hn
  have HL := Lib.hid hkl
  clear hk hkl hkn ho hl hn
  go_enter Tryd.func81, Tryd.ntmps81
  go_upto_region 1 with (fail)
  obtain ⟨q, hq⟩ : ∃ q, w.heap.size = q := ⟨_, rfl⟩
  obtain ⟨W, hW⟩ : ∃ W, w.alloc (.cells #[.int .i64 tag, .slice aa an ac, .string tx, .slice none 0 0, .int .i64 up, .slice ka n kc] 69) = W := ⟨_, rfl⟩
  have hbW : Below w.heap.size w W := by rw [← hW]; exact (Below.refl _ _).alloc (Nat.le_refl _) _
  have hsW : W.heap.size = q + 1 := by rw [← hW, ← hq]; simp
  have k0 : W.cell? ⟨q, 0, none⟩ = some (.int .i64 tag) := by rw [← hW, ← hq]; simp [go_sem]
  have k1 : W.cell? ⟨q, 1, none⟩ = some (.slice aa an ac) := by rw [← hW, ← hq]; simp [go_sem]
  have k2 : W.cell? ⟨q, 2, none⟩ = some (.string tx) := by rw [← hW, ← hq]; simp [go_sem]
  have k3 : W.cell? ⟨q, 3, none⟩ = some (.slice none 0 0) := by rw [← hW, ← hq]; simp [go_sem]
  have k4 : W.cell? ⟨q, 4, none⟩ = some (.int .i64 up) := by rw [← hW, ← hq]; simp [go_sem]
  have k5 : W.cell? ⟨q, 5, none⟩ = some (.slice ka n kc) := by rw [← hW, ← hq]; simp [go_sem]
  have kf : ∀ j, W.frozen? ⟨q, j, none⟩ = false := fun j => by rw [← hW, ← hq]; simp [go_sem]
  have hqW : q < W.heap.size := by omega
  have KC : Hid (∀ w', Below W.heap.size W w' → w'.cell? ⟨q, 0, none⟩ = some (.int .i64 tag) ∧ w'.cell? ⟨q, 1, none⟩ = some (.slice aa an ac) ∧ w'.cell? ⟨q, 2, none⟩ = some (.string tx) ∧ w'.cell? ⟨q, 3, none⟩ = some (.slice none 0 0) ∧ w'.cell? ⟨q, 4, none⟩ = some (.int .i64 up) ∧ w'.cell? ⟨q, 5, none⟩ = some (.slice ka n kc) ∧ ∀ j, w'.frozen? ⟨q, j, none⟩ = false) := Lib.hid (fun w' h => ⟨(h.cell hqW).trans k0, (h.cell hqW).trans k1, (h.cell hqW).trans k2, (h.cell hqW).trans k3, (h.cell hqW).trans k4, (h.cell hqW).trans k5, fun j => (h.frozen hqW).trans (kf j)⟩)
  have HBW := Lib.hid hbW
  have hb : Hid (Below W.heap.size W W) := Lib.hid (Below.refl _ _)
  rw [hW, hq]
  clear hW hbW k0 k2 k3 k4
  have f1 := kf 1
  have f5 := kf 5
  clear kf
  go_region_with (first
    | (go_at_call 88; ((with_reducible refine (cR _ (HBW.out.trans ((show Below W.heap.size W _ by (repeat (first | (with_reducible exact hb.out) | (with_reducible exact Below.refl _ _) | (with_reducible refine Below.drew ?_) | (with_reducible refine Below.alloc ?_ ?_ _) | omega | (simp <;> omega)))).mono HBW.out.size))).mono ?_); rintro e w2 ⟨v2, rfl, o2, hb2⟩; obtain ⟨a2, c2, rfl⟩ := (rowAt_of_own o2).len; have O2 := Lib.hid o2; clear o2; have hd2 := Lib.hid ((show Below W.heap.size W _ by (repeat (first | (with_reducible exact hb.out) | (with_reducible exact Below.refl _ _) | (with_reducible refine Below.drew ?_) | (with_reducible refine Below.alloc ?_ ?_ _) | omega | (simp <;> omega)))).trans (hb2.mono (by first | exact hb.out.size | (simp; exact hb.out.size) | (simp; omega)))); clear hb; have hb := hd2; clear hd2; have HZ2 := Lib.hid hb.out.size; obtain ⟨k0, k1, k2, k3, k4, k5, kf⟩ := KC.out _ hb.out; have f1 := kf 1; have f5 := kf 5; clear k0 k2 k3 k4 kf))
    | (go_at_call 49; ((with_reducible refine (cZ _ (HBW.out.trans ((show Below W.heap.size W _ by (repeat (first | (with_reducible exact hb.out) | (with_reducible exact Below.refl _ _) | (with_reducible refine Below.drew ?_) | (with_reducible refine Below.alloc ?_ ?_ _) | omega | (simp <;> omega)))).mono HBW.out.size))).mono ?_); rintro e w3 ⟨v3, rfl, o3, hb3⟩; obtain ⟨a3, c3, e3, hk3⟩ := own_kids (K := kids) (by rw [HN.out]; exact o3); rw [HN.out] at e3; subst e3; have O3 := Lib.hid (And.intro o3 hk3); clear o3 hk3; have HB3 := Lib.hid hb3; have hd3 := Lib.hid ((show Below W.heap.size W _ by (repeat (first | (with_reducible exact hb.out) | (with_reducible exact Below.refl _ _) | (with_reducible refine Below.drew ?_) | (with_reducible refine Below.alloc ?_ ?_ _) | omega | (simp <;> omega)))).trans (hb3.mono (by first | exact hb.out.size | (simp; exact hb.out.size) | (simp; omega)))); clear hb; have hb := hd3; clear hd3; obtain ⟨k0, k1, k2, k3, k4, k5, kf⟩ := KC.out _ hb.out; have f1 := kf 1; have f5 := kf 5; clear k0 k2 k3 k4 kf)))
  all_goals go_wp2
  all_goals go_ret
  all_goals exact copied_end hq HBW.out hsW hb.out (KC.out _ hb.out) (ownsRow_below (own_mono2 O2.out (by simp [hsW])) HB3.out) O3.out.1 O3.out.2 (fun b e => (O2.out.lt b e).2) (by have h7 := HB3.out.size; have h8 := HZ2.out; simp at h7 ⊢; omega) HN.out HL.out ⟨rfl, rfl, rfl, rfl, rfl⟩

end Go.Proofs.YtggjoefhopoggaaDoor
