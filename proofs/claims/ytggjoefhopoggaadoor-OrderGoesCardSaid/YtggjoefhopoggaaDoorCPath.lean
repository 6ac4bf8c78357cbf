/-
  Path: the way up, turned round.
  What goes down: Next, All.
-/
import Derived.Test.YtggjoefhopoggaaDoorCUps
import Derived.Test.YtggjoefhopoggaaDoorCDelZ
import Derived.Test.YtggjoefhopoggaaDoorCOwn
import Derived.Deep.Onto
import Derived.Test.YtggjoefhopoggaaDoorCDown

namespace Go.Proofs.YtggjoefhopoggaaDoor
open Go.RowKit Go.Lib Go.Shelf

/-- slices.Reverse of a row of ints of one's own. -/
theorem revZ_any (B : Nat) (w : World) (g cap : Nat) (K : List Int) (hown : w.ownsRow B 3 1 (.slice (some ⟨g, 0, none⟩) K.length cap) K.length (cellsZ K)) :
    Calls Tryd.prog 40 #[.slice (some ⟨g, 0, none⟩) K.length cap] w fun e w' => e = .returned (.tuple #[]) ∧ w'.ownsRow B 3 1 (.slice (some ⟨g, 0, none⟩) K.length cap) K.length (cellsZ K.reverse) ∧ w.grownBy w' (some g) := by
  have hcl := cellsZ_length K
  obtain ⟨hnc, hcm, hcell, hfz⟩ : K.length ≤ cap ∧ cap ≤ maxLen ∧ (∀ j, j < K.length → w.cell? ⟨g, 0 + j, none⟩ = some (.int .i64 (K.getD j 0))) ∧ ∀ j, j < K.length → w.frozen? ⟨g, 0 + j, none⟩ = false := by
    rcases hown.2 with ⟨h', _⟩ | ⟨g', cap', cur, h', hb, hg, hnc, hcm, hcs, ht⟩
    · simp at h'
    · simp only [Value.slice.injEq, Option.some.injEq, Addr.mk.injEq, and_true, true_and] at h'
      obtain ⟨rfl, rfl⟩ := h'
      refine ⟨hnc, hcm, fun j hj => ?_, fun j hj => by simp [World.frozen?, hg]⟩
      have h2 := cellsZ_at hj
      rw [← ht, List.getElem?_take, if_pos (by omega), Array.getElem?_toList] at h2
      have e : K[j]! = K.getD j 0 := by rw [List.getElem!_eq_getElem?_getD, List.getD_eq_getElem?_getD]; rfl
      rw [← e, Nat.zero_add]
      simp only [World.cell?, hg]
      simpa using h2
  refine (Tryd.slices_Reverse_int_cells g 0 K.length cap K w (Nat.le_refl _) (by unfold maxLen at hcm; omega) hcell hfz).mono ?_
  rintro e w' ⟨rfl, q, rfl⟩
  rw [List.take_of_length_le (Nat.le_refl K.length)]
  have hV : (K.reverse.map (Value.int .i64)).length = (cellsZ K).length := by rw [hcl]; simp
  have own1 : (w.drewN q).ownsRow B 3 1 (.slice (some ⟨g, 0, none⟩) K.length cap) K.length (cellsZ K) := by
    have e := heap_drewN w q
    unfold World.ownsRow
    rw [e]
    exact hown
  obtain ⟨own2, gr⟩ := own_setCells _ 0 _ _ own1
  rw [setMany_all _ _ hV] at own2
  have gr0 : w.grownBy (w.drewN q) (some g) := ⟨(bdraws w q).os, (bdraws w q).tape, (bdraws w q).output, (bdraws w q).size, fun k hk _ => (bdraws w q).block k hk⟩
  exact ⟨rfl, own2, gr0.trans gr⟩

theorem wpListIn_append_lies {F : Fence} {nF : Nat} {P : Program} (w : World) {ops : Array Oper} {rest : List Oper} {o : Oper} {a : Act} {Q : Exit → Act → World → Prop} (hgd : o.guard = none) (s x : Operand) (t : TypeId)
    (ho : o.op = .call { callee := .builtin .append, args := #[s, x], argTypes := #[t, t] })
    (base : Nat) (e : TypeId) (i : TypeInfo) (z : Value) (size bytes : Nat) (ht : P.underlying t = some (.slice e)) (hi : P.info? e = some i) (hz : i.zero = some z)
    (hsize : i.size = size) (hby : i.bytes = bytes) (hzs : z.cells.size = size) (hsz : 0 < size)
    (v : Value) (n : Nat) (xs : List Value) (hs : a.eval s = v) (hown : w.ownsRow base e size v n xs)
    (ad : Addr) (m c : Nat) (news : List Value) (hx : a.eval x = .slice (some ad) m c) (hl : news.length = m * size) (hnews : ∀ j u, news[j]? = some u → w.cell? (ad.add j) = some u) (h1 : ∀ u ∈ news, u.oneCell' = true)
    (hm : 0 < m) (h63 : n + m ≤ maxLen) (hbytes : (n + m) * bytes ≤ 140737488355328) (hbase : base ≤ w.heap.size) (H : Nat) (hH : w.heap.size = H)
    (h : ∀ g cap w', w'.ownsRow base e size (.slice (some ⟨g, 0, none⟩) (n + m) cap) (n + m) (xs ++ news) → w.grownBy w' v.ownBlock → (v.ownBlock = some g ∨ g = H) → g < w'.heap.size → wpListIn F nF P ops Q rest (a.put o.dst (.slice (some ⟨g, 0, none⟩) (n + m) cap)) w') :
    wpListIn F nF P ops Q (o :: rest) a w := by
  refine wpListIn_plain hgd fun K hK => ?_
  obtain ⟨g, cap, w', hr, h2, h3, h4, h5⟩ := run_append_lies (P := P) (w := w) t o.type base e i z size bytes ht hi hz hsize hby hzs hsz v n xs hown ad m c news hl hnews h1 hm h63 hbytes hbase H hH
  unfold Oper.wpIn
  refine ⟨by simp [Oper.about, ho, resolve, Target.leads, Sem.run_pure], ?_⟩
  rw [Oper.semAt_plain F _ _ (by rw [ho]; intro c hc'; cases hc')]
  simp [execOp, ho, resolve, invoke, builtin, hs, hx, hr, Result.andThen]
  exact hK _ _ (h g cap w' h2 h3 h4 h5)


theorem own_other {w w' : World} {B e size : Nat} {v : Value} {n : Nat} {xs : List Value} (h : w.ownsRow B e size v n xs) (hs : ∀ k, B ≤ k → k < w.heap.size → w'.heap[k]? = w.heap[k]?) : w'.ownsRow B e size v n xs := by
  refine ⟨h.1, ?_⟩
  rcases h.2 with h2 | ⟨g, cap, cur, hv, hg, hc, hrest⟩
  · exact .inl h2
  · exact .inr ⟨g, cap, cur, hv, hg, (hs g hg (Array.getElem?_eq_some_iff.1 hc).1).trans hc, hrest⟩
theorem int_new (w : World) (x : Int) (t : TypeId) : ∀ j u, [Value.int .i64 x][j]? = some u → (w.alloc (.cells #[.int .i64 x] t)).cell? ((⟨w.heap.size, 0, none⟩ : Addr).add j) = some u := by
  intro j u h
  match j with
  | 0 =>
    obtain rfl : Value.int .i64 x = u := by simpa using h
    rw [Addr.add_lit]
    exact (new_cell w _ t).1
  | j + 1 => simp at h
theorem cellsZ_snoc (l : List Int) (x : Int) : cellsZ (l ++ [x]) = cellsZ l ++ [.int .i64 x] := by unfold cellsZ; simp
theorem own_lt {W : World} {base : Nat} {e : TypeId} {size n : Nat} {v : Value} {xs : List Value} (h : W.ownsRow base e size v n xs) : ∀ r, v.ownBlock = some r → base ≤ r ∧ r < W.heap.size := by
  intro r e
  rcases h.2 with ⟨rfl, _⟩ | ⟨g, cap, cur, rfl, hb, hg, _⟩
  · cases e
  · obtain rfl : g = r := by simpa [Value.ownBlock] using e
    exact ⟨hb, (Array.getElem?_eq_some_iff.1 hg).1⟩
/-- The box in block b holds a row of ints of one's own. -/
structure GotZ (w : World) (b base : Nat) (l : List Int) (row : Option Nat) (V : World) (v : Value) : Prop where
  box : BoxAt w b v V
  own : V.ownsRow base 3 1 v l.length (cellsZ l)
  row : v.ownBlock = row
theorem GotZ.grown {w V V' : World} {b base : Nat} {l : List Int} {row : Option Nat} {v : Value} (h : GotZ w b base l row V v) {rr : Option Nat} {B : Nat} (hg : V.grownBy V' rr) (hr : ∀ r, rr = some r → B ≤ r ∧ row ≠ some r) (hB : w.heap.size ≤ B) (hbB : b < B) : GotZ w b base l row V' v :=
  ⟨h.box.grown hg (fun r e => (hr r e).1) hB hbB, h.own.kept hg (by
    rw [h.row]
    cases rr with
    | none => cases row with
      | none => exact .inl rfl
      | some r => exact .inr (by simp)
    | some r => exact .inr (fun e => (hr r rfl).2 e)), h.row⟩
theorem GotZ.later {w V V' : World} {b base : Nat} {l : List Int} {row : Option Nat} {v : Value} (h : GotZ w b base l row V v) (hb : Below V.heap.size V V') : GotZ w b base l row V' v :=
  ⟨h.box.later hb, ownsRow_below h.own hb, h.row⟩

def atsS (L : Sk) (l : List Int) : List Int := l.filterMap (fun m => if 0 ≤ indexS L m then some (indexS L m) else none)
def pathS (L : Sk) (n : Nat) (id : Int) : List Int := (atsS L (upsS L n id)).reverse
theorem atsS_snoc (L : Sk) (l : List Int) (x : Int) : atsS L (l ++ [x]) = atsS L l ++ (if 0 ≤ indexS L x then [indexS L x] else []) := by
  unfold atsS
  rw [List.filterMap_append]
  congr 1
  by_cases h : 0 ≤ indexS L x <;> simp [h]
theorem atsS_len (L : Sk) (l : List Int) : (atsS L l).length ≤ l.length := List.length_filterMap_le _ _
theorem upsS_len (L : Sk) : ∀ (n : Nat) (id : Int), (upsS L n id).length ≤ n
  | 0, _ => Nat.le_refl _
  | n + 1, id => by
    unfold upsS
    split
    · have := upsS_len L n (upS L id); simp; omega
    · simp

attribute [local go_sem] Oper.semAt_some
set_option maxRecDepth 20000 in
set_option maxHeartbeats 4000000 in
theorem path_v {w : World} {a : Option Addr} {L : Sk} (h : Tv w (.pointer a) L) (id : Int) (n : Nat) (hn : n ≤ 1000) (he : endsU L n id = true) :
    Calls Tryd.prog 20 #[.pointer a, .int .i64 id] w (OwnZ (pathS L n id) w) := by
  obtain ⟨i0, hi, ze, zs, zb⟩ := info_parts infoIntD
  refine (callsIn_wide (n := 9)).1 ?_
  refine callsIn_of_wp_marks Tryd.func20 rfl trivial ?_ rfl
  simp only [Tryd.ntmps20, List.size_toArray, List.length_cons, List.length_nil, Nat.reduceAdd, Nat.reduceSub, Array.replicate_succ, Array.replicate_zero, List.push_toArray, List.append_toArray, List.nil_append, List.cons_append]
  have H := Lib.hid h
  have HE := Lib.hid he
  clear h he
  gi_wp2_with (refine ⟨trivial, ?_⟩; gi_at_call 36; refine (callsIn_wide.2 (up_any a id _)).mono ?_; rintro e w1 ⟨rfl, hz1, hb1, c1, d1⟩)
  obtain ⟨hb0, k1, f1, k2, f2⟩ := two_boxes hb1
  rw [World.size_alloc, World.size_alloc] at hz1 c1 d1
  have b1 : BoxAt w w.heap.size _ w1 := ⟨hb0, k1, f1⟩
  have b2 : BoxAt w (w.heap.size + 1) _ w1 := ⟨hb0, k2, f2⟩
  clear k1 k2 f1 f2 hb1
  refine range_goes (gf := 52) rfl (enters_of Tryd.func52 (by kernel_rfl) rfl)
    (up_goes (w.heap.size + 1 + 1) a id L n HE.out False (fun W => Below w.heap.size w W) (fun W hb => H.out.below hb) w1 hz1 c1 d1) (by omega) (Below.refl _ _) (fun _ => rfl)
    (fun pre row V => BoxAt w w.heap.size (.pointer a) V ∧ ∃ v, GotZ w (w.heap.size + 1) (w.heap.size + 4) (atsS L pre) row V v)
    (fun _ _ _ _ => False)
    (fun s row A A' rr h hg hr => ⟨h.1.grown hg (fun r e => (hr r e).1) (by omega) (by omega), by obtain ⟨v, h2⟩ := h.2; exact ⟨v, h2.grown hg hr (by omega) (by omega)⟩⟩)
    (fun _ _ _ _ _ _ h _ _ => h) (fun _ _ _ h r e => by obtain ⟨v, h2⟩ := h.2; rw [← h2.row] at e; exact (own_lt h2.own r e).2) (fun _ _ _ _ h => h) (fun _ _ _ h => h.1.bl)
    none (fun r e => by cases e) ⟨b1, .slice none 0 0, b2, World.ownsRow_nil _ _ _ _, rfl⟩
    (fun x => { tmps := #[.pointer a, .int .i64 id, .pointer (some ⟨w.heap.size, 0, none⟩), undef, .slice none 0 0, .pointer (some ⟨w.heap.size + 1, 0, none⟩), .int .i64 x, undef, .pointer a, .int .i64 id, .func (.func 52) #[] #[.pointer (some ⟨w.heap.size + 1 + 1 + 1, 0, none⟩), .pointer (some ⟨w.heap.size + 1 + 1, 0, none⟩)], .int .i64 x, undef, undef, undef, undef, undef, undef, undef, undef, undef, undef, undef, undef], defers := [] }) ?assign ?body ?done ?stop
  case assign =>
    intro l x V K hK
    gi_wp2
    exact hK
  case body =>
    rintro l₂ pre x row V hsz ⟨hb1, v, hg⟩ hT
    have hVT := H.out.below hb1.bl
    have cI := index_v hVT x
    have hlen : (atsS L pre).length ≤ 1000 := by
      have h1 := atsS_len L pre
      have h2 := hT.length_le
      have h3 := upsS_len L n id
      rw [List.length_append] at h2
      omega
    have hsn := atsS_snoc L pre x
    obtain ⟨i, hi2⟩ : ∃ i, indexS L x = i := ⟨_, rfl⟩
    rw [hi2] at cI hsn
    have c1 := hb1.c
    have HB1 := Lib.hid hb1
    have HG := Lib.hid hg
    obtain ⟨m, hm⟩ : ∃ m, (atsS L pre).length = m := ⟨_, rfl⟩
    have HM := Lib.hid hm
    rw [hm] at hlen
    obtain ⟨l', hl'⟩ : ∃ l', atsS L pre = l' := ⟨_, rfl⟩
    rw [hl'] at hsn
    have HL := Lib.hid hl'
    by_cases hpos : 0 ≤ i
    · rw [if_pos hpos] at hsn
      have HS := Lib.hid hsn
      have c2 := hg.box.c
      have f2 := hg.box.f
      have own := hg.own
      have hsz4 : w.heap.size + 4 ≤ V.heap.size := by omega
      rw [HL.out] at own
      rw [HL.out] at hm
      rw [hm] at own
      have hAA : w.heap.size + 1 < (V.alloc (.cells #[.int .i64 i] 3)).heap.size := by rw [World.size_alloc]; omega
      have hfar : some (w.heap.size + 1) ≠ v.ownBlock := fun e => by have := own_lt own _ e.symm; omega
      have HOW := Lib.hid own
      have HSZ := Lib.hid hsz
      have HF := Lib.hid hfar
      have bA := HB1.out.later ((Below.refl _ V).alloc (Nat.le_refl _) (.cells #[.int .i64 i] 3))
      have bB := HG.out.box.later ((Below.refl _ V).alloc (Nat.le_refl _) (.cells #[.int .i64 i] 3))
      have HBA := Lib.hid bA
      have HBB := Lib.hid bB
      clear hb1 hg hT hsn hi2 hm hl' hVT own hfar bA bB hsz hsz4
      gi_wp2_with (first
        | (refine ⟨trivial, ?_⟩; gi_at_call 34; ((with_reducible refine (CallsIn.inRound l₂ (callsIn_wide.2 cI)).mono ?_); rintro e w5 ⟨rfl, rfl⟩))
        | (gi_at_builtin; refine wpListIn_append_lies _ rfl _ _ 24 rfl (w.heap.size + 4) 3 i0 _ 1 8 Tryd.underlying24 hi ze zs zb rfl (by decide) v _ _ rfl (HOW.out.alloc _) ⟨V.heap.size, 0, none⟩ 1 1 [.int .i64 i] rfl rfl (int_new V _ _) (by simp [Value.oneCell']) (by decide) (by unfold maxLen; omega) (by omega) (by have := HSZ.out; simp; omega) (V.heap.size + 1) (by simp) ?_; intro g cap w2 hown hgrow hat hlt; have k1 := (hgrow.cell_far ⟨w.heap.size + 1, 0, none⟩ hAA HF.out).trans HBB.out.c; have k2 := (hgrow.frozen_far ⟨w.heap.size + 1, 0, none⟩ hAA HF.out).trans HBB.out.f))
      have hrow : v.ownBlock = row := HG.out.row
      have hVS : w.heap.size + 4 ≤ V.heap.size := by have := HSZ.out; omega
      have hb2 : BoxAt w w.heap.size (.pointer a) w2 := ⟨HBA.out.bl.grown hgrow HBA.out.bl.size (fun r e => by have := own_lt HOW.out r e; omega), (hgrow.cell_far ⟨w.heap.size, 0, none⟩ (Nat.lt_trans (Nat.lt_succ_self _) hAA) (show some w.heap.size ≠ v.ownBlock from fun e => by have := own_lt HOW.out _ e.symm; omega)).trans HBA.out.c, (hgrow.frozen_far ⟨w.heap.size, 0, none⟩ (Nat.lt_trans (Nat.lt_succ_self _) hAA) (show some w.heap.size ≠ v.ownBlock from fun e => by have := own_lt HOW.out _ e.symm; omega)).trans HBA.out.f⟩
      have hb3 : BoxAt w (w.heap.size + 1) v w2 := ⟨hb2.bl, k1, k2⟩
      refine ⟨some g, ?_, ?_, hb2.other (by omega) (by omega) _, .slice (some ⟨g, 0, none⟩) (m + 1) cap, hb3.set (by omega) _, ?_, rfl⟩
      · rcases hat with h | h
        · exact .inl (by rw [← hrow, h])
        · exact .inr ⟨g, rfl, by omega⟩
      · refine ((KeptI.below ((Below.refl _ V).alloc (Nat.le_refl _) _)).trans (.inl rfl) (KeptI.grown hgrow (fun r e _ => hrow ▸ e))).trans (.inl rfl) (keptSet _ _ _ (show ¬ w.heap.size + 1 + 1 ≤ w.heap.size + 1 by omega))
      · rw [HS.out, List.length_append, List.length_singleton, ← HL.out, HM.out, HL.out, cellsZ_snoc]
        exact own_other hown (fun k hk _ => Below.heap_setCell _ _ _ _ (show k ≠ w.heap.size + 1 by omega))
    · rw [if_neg hpos, List.append_nil] at hsn
      have HS := Lib.hid hsn
      clear hb1 hg hT hsn hi2 hm hl' hVT
      gi_wp2_with (refine ⟨trivial, ?_⟩; gi_at_call 34; ((with_reducible refine (CallsIn.inRound l₂ (callsIn_wide.2 cI)).mono ?_); rintro e w5 ⟨rfl, rfl⟩))
      exact ⟨row, .inl rfl, KeptI.refl _ _ _, HB1.out, v, by rw [HS.out, ← HL.out]; exact HG.out⟩
  case done =>
    rintro D xs row V hD rfl ⟨hb1, v, hg⟩ hrD hK'
    obtain ⟨K, hK⟩ : ∃ K, atsS L (upsS L n id) = K := ⟨_, rfl⟩
    have HP : Hid (pathS L n id = K.reverse) := Lib.hid (by unfold pathS; rw [hK])
    rw [hK] at hg
    have own := hg.own
    have hrow := hg.row
    have c2 := hg.box.c
    have HB := Lib.hid hg.box
    rcases own.2 with ⟨rfl, h0⟩ | ⟨g, cap, cur, rfl, hbg, hgg, _⟩
    · have HK := Lib.hid hK'
      have hK0 : K = [] := List.length_eq_zero_iff.1 h0
      have HK0 := Lib.hid hK0
      have cR := fun W => Tryd.slices_Reverse_int_empty none 0 W
      clear hK' own hg hb1 hK hrow h0 hK0
      gi_wp2_with (refine ⟨trivial, ?_⟩; gi_at_call 40; ((with_reducible refine (callsIn_wide.2 (cR _)).mono ?_); rintro e w5 ⟨rfl, rfl⟩))
      refine ⟨by simp, .inl ⟨_, _, rfl, run_takeDeferred HK.out, ?_⟩⟩
      refine ⟨_, results_tmp rfl _ _ _, .slice none 0 0, rfl, ?_, put_below HB.out.bl (by omega)⟩
      rw [HP.out, HK0.out]
      exact World.ownsRow_nil _ _ _ _
    · have hgD : g ≠ D := fun e => hrD (by rw [← hrow, e]; rfl)
      have cR := revZ_any (w.heap.size + 4) V g cap K own
      have HK := Lib.hid hK'
      have HG := Lib.hid hgD
      have HBG := Lib.hid hbg
      clear hK' own hg hb1 hK hrow hgD hgg hbg
      gi_wp2_with (refine ⟨trivial, ?_⟩; gi_at_call 40; ((with_reducible refine (callsIn_wide.2 cR).mono ?_); rintro e w5 ⟨rfl, hown5, hgr5⟩; have hbx5 := HB.out.grown (B := w.heap.size + 4) hgr5 (fun r e => by cases e; exact HBG.out) (by omega) (by omega); have c5 := hbx5.c; have HO5 := Lib.hid hown5; have HG5 := Lib.hid hgr5; have HX5 := Lib.hid hbx5; clear hown5 hgr5 hbx5))
      have hKD : w5.heap[D]? = some (.deferred (some [])) := (HG5.out.block D (Array.getElem?_eq_some_iff.1 HK.out).1 (fun e => HG.out (Option.some.inj e).symm)).trans HK.out
      refine ⟨by simp, .inl ⟨_, _, rfl, run_takeDeferred hKD, ?_⟩⟩
      refine ⟨_, results_tmp rfl _ _ _, .slice (some ⟨g, 0, none⟩) K.length cap, rfl, ?_, put_below HX5.out.bl (by omega)⟩
      rw [HP.out, List.length_reverse]
      exact (HO5.out.kept (grownBy_putObj' w5 D (.deferred none)) (.inr (fun e => HG.out (Option.some.inj e)))).mono (by omega)
  case stop =>
    rintro D c pre row V _ _ h _ _
    exact h.elim

end Go.Proofs.YtggjoefhopoggaaDoor

namespace Go.Proofs.YtggjoefhopoggaaDoor
open Go.RowKit Go.Lib Go.Shelf
attribute [local go_sem] Oper.semAt_some

def nextS (L : Sk) (n m : Nat) (id : Int) : Int := ((downS L n id).find? (fun x => decide (x ≠ id))).getD (behindS L m id)
set_option maxRecDepth 20000 in
set_option maxHeartbeats 4000000 in
theorem next_v {w : World} {a : Option Addr} {L : Sk} (h : Tv w (.pointer a) L) (id : Int) (n : Nat) (he : endsK L n id) (m : Nat) (hu : endsU L m id = true) :
    Calls Tryd.prog 12 #[.pointer a, .int .i64 id] w fun e w' => e = .returned (.int .i64 (nextS L n m id)) ∧ Below w.heap.size w w' := by
  refine (callsIn_wide (n := 9)).1 ?_
  refine callsIn_of_wp_marks Tryd.func12 rfl trivial ?_ rfl
  simp only [Tryd.ntmps12, List.size_toArray, List.length_cons, List.length_nil, Nat.reduceAdd, Nat.reduceSub, Array.replicate_succ, Array.replicate_zero, List.push_toArray, List.append_toArray, List.nil_append, List.cons_append]
  have H := Lib.hid h
  have HE := Lib.hid he
  clear h he
  gi_wp2_with (refine ⟨trivial, ?_⟩; gi_at_call 33; refine (callsIn_wide.2 (down_any a id _)).mono ?_; rintro e w1 ⟨rfl, hz1, hb1, c1, d1⟩)
  obtain ⟨hb0, k1, f1, k2, f2⟩ := two_boxes hb1
  rw [World.size_alloc, World.size_alloc] at hz1 c1 d1
  have b1 : BoxAt w w.heap.size _ w1 := ⟨hb0, k1, f1⟩
  have b2 : BoxAt w (w.heap.size + 1) _ w1 := ⟨hb0, k2, f2⟩
  clear k1 k2 f1 f2 hb1
  have cB := fun W (hb : Below w.heap.size w W) => behind_v (H.out.below hb) id m hu
  have CB := Lib.hid cB
  clear hu cB
  refine range_goes (gf := 50) rfl (enters_of Tryd.func50 (by kernel_rfl) rfl)
    (down_goes a L True (fun W => Below w.heap.size w W) (fun W hb => H.out.below hb) n id HE.out (w.heap.size + 1 + 1) w1 hz1 c1 d1) (by omega) (Below.refl _ _) (fun _ => rfl)
    (fun pre row V => row = none ∧ BoxAt w w.heap.size (.int .i64 id) V ∧ BoxAt w (w.heap.size + 1) (.int .i64 0) V ∧ ∀ y ∈ pre, y = id)
    (fun c pre row V => c = .ret ∧ row = none ∧ ∃ k, BoxAt w (w.heap.size + 1) (.int .i64 k) V ∧ pre.find? (fun x => decide (x ≠ id)) = some k)
    (fun s row A A' rr h hg hr => ⟨h.1, h.2.1.grown hg (fun r e => (hr r e).1) (by omega) (by omega), h.2.2.1.grown hg (fun r e => (hr r e).1) (by omega) (by omega), h.2.2.2⟩)
    (fun c s row A A' rr h hg hr => ⟨h.1, h.2.1, by obtain ⟨k, h1, h2⟩ := h.2.2; exact ⟨k, h1.grown hg (fun r e => (hr r e).1) (by omega) (by omega), h2⟩⟩) (fun _ _ _ h r e => by rw [h.1] at e; cases e) (fun _ _ _ _ _ => trivial) (fun _ _ _ h => h.2.1.bl)
    none (fun r e => by cases e) ⟨rfl, b1, b2, by simp⟩
    (fun x => { tmps := #[.pointer a, .int .i64 id, undef, .pointer (some ⟨w.heap.size, 0, none⟩), .pointer (some ⟨w.heap.size + 1, 0, none⟩), .int .i64 x, .pointer a, .int .i64 id, .func (.func 50) #[] #[.pointer (some ⟨w.heap.size + 1 + 1, 0, none⟩), .pointer (some ⟨w.heap.size + 1 + 1 + 1, 0, none⟩)], .int .i64 x, undef, undef, undef, undef, undef, undef, undef], defers := [] }) ?assign ?body ?done ?stop
  case assign =>
    intro l x V K hK
    gi_wp2
    exact hK
  case body =>
    rintro l₂ pre x row V hsz ⟨rfl, hb1, hb2, hno⟩ hT
    have c1 := hb1.c
    have c2 := hb2.c
    have f2 := hb2.f
    have HB1 := Lib.hid hb1
    have HB2 := Lib.hid hb2
    have HN := Lib.hid hno
    clear hb1 hb2 hT hno
    by_cases hx : x = id
    · subst hx
      gi_wp2
      exact ⟨none, .inl rfl, KeptI.refl _ _ _, rfl, HB1.out, HB2.out, fun y hy => by
        rcases List.mem_append.1 hy with hy | hy
        · exact HN.out y hy
        · exact List.mem_singleton.1 hy⟩
    · have hxb : (x == id) = false := by simpa using hx
      have HX := Lib.hid hx
      clear hx
      gi_wp2
      refine ⟨none, .inl rfl, keptSet V _ _ (show ¬ w.heap.size + 1 + 1 ≤ w.heap.size + 1 by omega), rfl, rfl, x, HB2.out.set (by omega) _, ?_⟩
      have e0 : pre.find? (fun x => decide (x ≠ id)) = none := List.find?_eq_none.2 (fun y hy => by simp [HN.out y hy])
      rw [List.find?_append, e0, List.find?_cons, decide_eq_true HX.out]
      rfl
  case done =>
    rintro D xs row V hD rfl ⟨rfl, hb1, hb2, hno⟩ hrD hK'
    have cBV := CB.out V hb1.bl
    have c1 := hb1.c
    have HB2 := Lib.hid hb2
    have HB1 := Lib.hid hb1
    have HK := Lib.hid hK'
    have HN : Hid (nextS L n m id = behindS L m id) := Lib.hid (by
      unfold nextS
      rw [List.find?_eq_none.2 (fun y hy => by simp [hno y hy])]
      rfl)
    obtain ⟨z, hz⟩ : ∃ z, behindS L m id = z := ⟨_, rfl⟩
    rw [hz] at cBV
    have HZ := Lib.hid hz
    clear hb1 hb2 hK' hno hz
    gi_wp2_with (refine ⟨trivial, ?_⟩; gi_at_call 14; ((with_reducible refine (callsIn_wide.2 cBV).mono ?_); rintro e w5 ⟨rfl, hb5⟩; have c2 := (HB2.out.later hb5).c; have f2 := (HB2.out.later hb5).f))
    have HX := (HB2.out.later hb5).set (by omega) (.int .i64 z)
    have hK5 : w5.heap[D]? = some (.deferred (some [])) := (hb5.block D (Array.getElem?_eq_some_iff.1 HK.out).1).trans HK.out
    have hKD := (KeepsOthers.setCell w5 ⟨w.heap.size + 1, 0, none⟩ (.int .i64 z)).same D _ hK5 rfl
    refine ⟨by simp, .inl ⟨_, _, rfl, run_takeDeferred hKD, ?_⟩⟩
    exact ⟨_, results_one rfl rfl (run_isAgg_plain Tryd.underlying3 rfl) (cell_put HX.c (show w.heap.size + 1 ≠ D by omega)), by rw [HN.out, HZ.out], put_below HX.bl (by omega)⟩
  case stop =>
    rintro D c pre row V hD hSp ⟨rfl, rfl, k, hb2, hk⟩ hrD hK'
    have HB2 := Lib.hid hb2
    have HK := Lib.hid hK'
    have HN : Hid (nextS L n m id = k) := Lib.hid (by
      obtain ⟨r, hr⟩ := hSp
      unfold nextS
      rw [← hr, List.find?_append, hk]
      rfl)
    clear hb2 hK' hk hSp
    gi_wp2
    refine ⟨by simp, .inl ⟨_, _, rfl, run_takeDeferred HK.out, ?_⟩⟩
    exact ⟨_, results_one rfl rfl (run_isAgg_plain Tryd.underlying3 rfl) (cell_put HB2.out.c (show w.heap.size + 1 ≠ D by omega)), by rw [HN.out], put_below HB2.out.bl (by omega)⟩

set_option maxRecDepth 20000 in
set_option maxHeartbeats 4000000 in
theorem all_v {w : World} {a : Option Addr} {L : Sk} (h : Tv w (.pointer a) L) (id : Int) (n : Nat) (he : endsK L n id) (hlen : (downS L n id).length ≤ 100000) :
    Calls Tryd.prog 15 #[.pointer a, .int .i64 id] w (OwnZ (downS L n id) w) := by
  obtain ⟨i0, hi, ze, zs, zb⟩ := info_parts infoIntD
  refine (callsIn_wide (n := 9)).1 ?_
  refine callsIn_of_wp_marks Tryd.func15 rfl trivial ?_ rfl
  simp only [Tryd.ntmps15, List.size_toArray, List.length_cons, List.length_nil, Nat.reduceAdd, Nat.reduceSub, Array.replicate_succ, Array.replicate_zero, List.push_toArray, List.append_toArray, List.nil_append, List.cons_append]
  have H := Lib.hid h
  have HE := Lib.hid he
  clear h he
  gi_wp2_with (refine ⟨trivial, ?_⟩; gi_at_call 33; refine (callsIn_wide.2 (down_any a id _)).mono ?_; rintro e w1 ⟨rfl, hz1, hb1, c1, d1⟩)
  rw [World.size_alloc] at hz1 hb1 c1 d1
  have ba := (Below.refl w.heap.size w).alloc (Nat.le_refl _) (.cells #[.slice none 0 0] 24)
  obtain ⟨t1, t2⟩ := new_cell w (.slice none 0 0) 24
  have bx : BoxAt w w.heap.size (.slice none 0 0) w1 := ⟨ba.trans (hb1.mono (by omega)), (hb1.cell (p := ⟨w.heap.size, 0, none⟩) (show w.heap.size < w.heap.size + 1 by omega)).trans t1, (hb1.frozen (p := ⟨w.heap.size, 0, none⟩) (show w.heap.size < w.heap.size + 1 by omega)).trans t2⟩
  clear t1 t2 ba hb1
  have HLEN := Lib.hid hlen
  clear hlen
  refine range_goes (gf := 50) rfl (enters_of Tryd.func50 (by kernel_rfl) rfl)
    (down_goes a L False (fun W => Below w.heap.size w W) (fun W hb => H.out.below hb) n id HE.out (w.heap.size + 1) w1 hz1 c1 d1) (by omega) (Below.refl _ _) (fun _ => rfl)
    (fun pre row V => ∃ v, GotZ w w.heap.size (w.heap.size + 3) pre row V v)
    (fun _ _ _ _ => False)
    (fun s row A A' rr h hg hr => by obtain ⟨v, h2⟩ := h; exact ⟨v, h2.grown hg hr (by omega) (by omega)⟩)
    (fun _ _ _ _ _ _ h _ _ => h) (fun _ _ _ h r e => by obtain ⟨v, h2⟩ := h; rw [← h2.row] at e; exact (own_lt h2.own r e).2) (fun _ _ _ _ h => h) (fun _ _ _ h => by obtain ⟨v, h2⟩ := h; exact h2.box.bl)
    none (fun r e => by cases e) ⟨.slice none 0 0, bx, World.ownsRow_nil _ _ _ _, rfl⟩
    (fun x => { tmps := #[.pointer a, .int .i64 id, undef, undef, .slice none 0 0, .pointer (some ⟨w.heap.size, 0, none⟩), .int .i64 x, .pointer a, .int .i64 id, .func (.func 50) #[] #[.pointer (some ⟨w.heap.size + 1, 0, none⟩), .pointer (some ⟨w.heap.size + 1 + 1, 0, none⟩)], .int .i64 x, undef, undef, undef, undef, undef], defers := [] }) ?assign ?body ?done ?stop
  case assign =>
    intro l x V K hK
    gi_wp2
    exact hK
  case body =>
    rintro l₂ pre x row V hsz ⟨v, hg⟩ hT
    have hlen : pre.length ≤ 100000 := by
      have h2 := hT.length_le
      have := HLEN.out
      rw [List.length_append] at h2
      omega
    have HG := Lib.hid hg
    obtain ⟨m, hm⟩ : ∃ m, pre.length = m := ⟨_, rfl⟩
    have HM := Lib.hid hm
    rw [hm] at hlen
    have c2 := hg.box.c
    have f2 := hg.box.f
    have own := hg.own
    rw [hm] at own
    have hAA : w.heap.size < (V.alloc (.cells #[.int .i64 x] 3)).heap.size := by rw [World.size_alloc]; omega
    have hfar : some w.heap.size ≠ v.ownBlock := fun e => by have := own_lt own _ e.symm; omega
    have HOW := Lib.hid own
    have HSZ := Lib.hid hsz
    have HF := Lib.hid hfar
    have bB := HG.out.box.later ((Below.refl _ V).alloc (Nat.le_refl _) (.cells #[.int .i64 x] 3))
    have HBB := Lib.hid bB
    clear hg hT hm own hfar bB hsz
    gi_wp2_with (gi_at_builtin; refine wpListIn_append_lies _ rfl _ _ 24 rfl (w.heap.size + 3) 3 i0 _ 1 8 Tryd.underlying24 hi ze zs zb rfl (by decide) v _ _ rfl (HOW.out.alloc _) ⟨V.heap.size, 0, none⟩ 1 1 [.int .i64 x] rfl rfl (int_new V _ _) (by simp [Value.oneCell']) (by decide) (by unfold maxLen; omega) (by omega) (by have := HSZ.out; simp; omega) (V.heap.size + 1) (by simp) ?_; intro g cap w2 hown hgrow hat hlt; have k1 := (hgrow.cell_far ⟨w.heap.size, 0, none⟩ hAA HF.out).trans HBB.out.c; have k2 := (hgrow.frozen_far ⟨w.heap.size, 0, none⟩ hAA HF.out).trans HBB.out.f)
    have hrow : v.ownBlock = row := HG.out.row
    have hVS : w.heap.size + 3 ≤ V.heap.size := by have := HSZ.out; omega
    have hb3 : BoxAt w w.heap.size v w2 := ⟨HBB.out.bl.grown hgrow HBB.out.bl.size (fun r e => by have := own_lt HOW.out r e; omega), k1, k2⟩
    refine ⟨some g, ?_, ?_, .slice (some ⟨g, 0, none⟩) (m + 1) cap, hb3.set (by omega) _, ?_, rfl⟩
    · rcases hat with h | h
      · exact .inl (by rw [← hrow, h])
      · exact .inr ⟨g, rfl, by omega⟩
    · refine ((KeptI.below ((Below.refl _ V).alloc (Nat.le_refl _) _)).trans (.inl rfl) (KeptI.grown hgrow (fun r e _ => hrow ▸ e))).trans (.inl rfl) (keptSet _ _ _ (show ¬ w.heap.size + 1 ≤ w.heap.size by omega))
    · rw [List.length_append, List.length_singleton, HM.out, cellsZ_snoc]
      exact own_other hown (fun k hk _ => Below.heap_setCell _ _ _ _ (show k ≠ w.heap.size by omega))
  case done =>
    rintro D xs row V hD rfl ⟨v, hg⟩ hrD hK'
    have own := hg.own
    have hrow := hg.row
    have c2 := hg.box.c
    have HB := Lib.hid hg.box
    have HK := Lib.hid hK'
    have HO := Lib.hid own
    have HR : Hid (v.ownBlock ≠ some D) := Lib.hid (by rw [hrow]; exact hrD)
    clear hK' own hg hrow
    gi_wp2
    refine ⟨by simp, .inl ⟨_, _, rfl, run_takeDeferred HK.out, ?_⟩⟩
    exact ⟨_, results_tmp rfl _ _ _, v, rfl, (HO.out.kept (grownBy_putObj' V D (.deferred none)) (.inr HR.out)).mono (by omega), put_below HB.out.bl (by omega)⟩
  case stop =>
    rintro D c pre row V _ _ h _ _
    exact h.elim

end Go.Proofs.YtggjoefhopoggaaDoor
