/-
  order's iterators: down, which goes over itself.
-/
import Derived.Test.YtggjoefhopoggaaDoorCIter

namespace Go.Proofs.YtggjoefhopoggaaDoor
open Go.RowKit Go.Lib Go.Shelf
attribute [local go_sem] Oper.semAt_some

theorem down_any (a : Option Addr) (id : Int) (w : World) :
    Calls Tryd.prog 33 #[.pointer a, .int .i64 id] w fun e w' => e = .returned (.func (.func 50) #[] #[.pointer (some ⟨w.heap.size, 0, none⟩), .pointer (some ⟨w.heap.size + 1, 0, none⟩)]) ∧ w'.heap.size = w.heap.size + 2 ∧ Below w.heap.size w w' ∧ w'.cell? ⟨w.heap.size, 0, none⟩ = some (.pointer a) ∧ w'.cell? ⟨w.heap.size + 1, 0, none⟩ = some (.int .i64 id) := by
  go_enter Tryd.func33, Tryd.ntmps33
  go_wp2
  go_ret
  exact ⟨rfl, by simp, ((Below.refl _ w).alloc (Nat.le_refl _) _).alloc (by simp) _, by simp [go_sem], by simp [go_sem]⟩

/-- Marks of loops that have ended. -/
def Marks (lo : Nat) : List Deferred → World → Prop
  | [], _ => True
  | d :: ds, W => (∃ r, d = { target := .collected r, args := #[] } ∧ lo ≤ r ∧ W.heap[r]? = some (.deferred (some [])) ∧ ∀ d' ∈ ds, ∀ r', d'.target = .collected r' → r' < r) ∧ Marks lo ds W
theorem Marks.lt {lo : Nat} : ∀ {ds : List Deferred} {W : World}, Marks lo ds W → ∀ d ∈ ds, ∀ r, d.target = .collected r → r < W.heap.size
  | d :: ds, W, h, d', hd, r, hr => by
    obtain ⟨⟨r0, rfl, h1, h2, h3⟩, h4⟩ := h
    rcases List.mem_cons.1 hd with rfl | hd
    · cases hr
      exact (Array.getElem?_eq_some_iff.1 h2).1
    · exact Marks.lt h4 d' hd r hr
theorem Marks.kept {lo : Nat} {own : Nat → Prop} {row : Option Nat} (ho : ∀ k, lo ≤ k → own k) : ∀ {ds : List Deferred} {W W' : World}, Marks lo ds W → (∀ d ∈ ds, ∀ r, d.target = .collected r → row ≠ some r) → KeptI own row W W' → Marks lo ds W'
  | [], _, _, _, _, _ => trivial
  | d :: ds, W, W', h, hn, hs => by
    obtain ⟨⟨r0, rfl, h1, h2, h3⟩, h4⟩ := h
    exact ⟨⟨r0, rfl, h1, (hs.same r0 (ho r0 h1) (Array.getElem?_eq_some_iff.1 h2).1 (hn _ (List.mem_cons_self ..) r0 rfl)).trans h2, h3⟩, Marks.kept ho h4 (fun d hd => hn d (List.mem_cons_of_mem _ hd)) hs⟩
theorem Marks.put {lo : Nat} : ∀ {ds : List Deferred} {W : World} (r : Nat) (o : Obj), Marks lo ds W → (∀ d' ∈ ds, ∀ r', d'.target = .collected r' → r' < r) → Marks lo ds (W.putObj r o)
  | [], _, _, _, _, _ => trivial
  | d :: ds, W, r, o, h, hl => by
    obtain ⟨⟨r0, rfl, h1, h2, h3⟩, h4⟩ := h
    have := hl _ (List.mem_cons_self ..) r0 rfl
    exact ⟨⟨r0, rfl, h1, (World.putObj_heap_other (by omega)).trans h2, h3⟩, Marks.put r o h4 (fun d' hd => hl d' (List.mem_cons_of_mem _ hd))⟩
/-- The row is none of them. -/
def OffMarks (ds : List Deferred) (row : Option Nat) : Prop := ∀ d ∈ ds, ∀ r, d.target = .collected r → row ≠ some r
theorem Marks.more {lo D : Nat} {ds : List Deferred} {row row' : Option Nat} {Vc V : World} (h : Marks lo ds Vc) (hn : OffMarks ds row) {own : Nat → Prop} (ho : ∀ k, lo ≤ k → own k) (hs : KeptI own row Vc V) (hnx : NextRow row row' Vc) (hrD : row' ≠ some D) (hD : Vc.heap.size ≤ D) (hlo : lo ≤ D) (hk : V.heap[D]? = some (.deferred (some []))) :
    Marks lo ({ target := .collected D, args := #[] } :: ds) V ∧ OffMarks ({ target := .collected D, args := #[] } :: ds) row' :=
  ⟨⟨⟨D, rfl, hlo, hk, fun d' hd r' hr => by have := h.lt d' hd r' hr; omega⟩, h.kept ho hn hs⟩, fun d hd r hr => by
    rcases List.mem_cons.1 hd with rfl | hd
    · cases hr; exact hrD
    · exact hnx.ne (h.lt d hd r hr) (hn d hd r hr)⟩
/-- A function leaves with nothing but such marks. -/
theorem leaves_marks {F : Fence} {n : Nat} {P : Program} {fn : Func} {tmps : Array Value} {R : Ending → World → Prop} {lo : Nat} {row : Option Nat} (J : World → Prop) (hJ : ∀ W r, lo ≤ r → row ≠ some r → J W → J (W.putObj r (.deferred none))) (hE : ∀ W, J W → LeavesIn F n P fn tmps R [] .returning W) :
    ∀ (ds : List Deferred) (W : World), Marks lo ds W → OffMarks ds row → J W → LeavesInM F n P fn tmps R ds .returning W
  | [], W, _, _, hj => hE W hj
  | d :: ds, W, h, ho, hj => by
    obtain ⟨⟨r0, rfl, h1, h2, h3⟩, h4⟩ := h
    exact ⟨by simp, .inl ⟨r0, _, rfl, run_takeDeferred h2, leaves_marks J hJ hE ds _ (h4.put r0 _ h3) (fun d hd => ho d (List.mem_cons_of_mem _ hd)) (hJ W r0 h1 (ho _ (List.mem_cons_self ..) r0 rfl) hj)⟩⟩

theorem downs_none {L : Sk} {k : Int} (h : hasS L k = false) (g : Nat) : downS L g k = [] := by cases g <;> simp [downS, h]
theorem flat_take (L : Sk) (n : Nat) (kids : List Int) {k : Nat} (hk : k < kids.length) : (kids.take (k + 1)).flatMap (downS L n) = (kids.take k).flatMap (downS L n) ++ downS L n (kids[k]!) := by
  rw [List.take_add_one, List.getElem?_eq_getElem hk, List.getElem!_eq_getElem?_getD, List.getElem?_eq_getElem hk, List.flatMap_append]
  simp
theorem flat_pre (L : Sk) (n : Nat) (kids : List Int) {k : Nat} (hk : k < kids.length) {p : List Int} (hp : p <+: downS L n (kids[k]!)) : (kids.take k).flatMap (downS L n) ++ p <+: kids.flatMap (downS L n) := by
  obtain ⟨r, hr⟩ := hp
  have h1 : kids = kids.take (k + 1) ++ kids.drop (k + 1) := (List.take_append_drop _ _).symm
  conv => rhs; rw [h1, List.flatMap_append, flat_take L n kids hk, ← hr]
  exact ⟨r ++ (kids.drop (k + 1)).flatMap (downS L n), by simp⟩

set_option maxRecDepth 20000 in
set_option maxHeartbeats 8000000 in
theorem down_goes (a : Option Addr) (L : Sk) (Lv : Prop) (Kg : World → Prop) (hKg : ∀ W, Kg W → Tv W (.pointer a) L) : ∀ (n : Nat) (id : Int) (_ : endsK L n id) (B : Nat) (w : World) (_ : w.heap.size = B + 2)
    (_ : w.cell? ⟨B, 0, none⟩ = some (.pointer a)) (_ : w.cell? ⟨B + 1, 0, none⟩ = some (.int .i64 id)),
    Goes Tryd.prog 50 #[.pointer (some ⟨B, 0, none⟩), .pointer (some ⟨B + 1, 0, none⟩)] (fun x : Int => #[.int .i64 x]) Lv (fun xs => xs = downS L n id) (fun pre => pre <+: downS L n id) (fun pre x => pre ++ [x] <+: downS L n id) Kg B w := by
  intro n
  induction n with
  | zero =>
  intro id he B w hB h1 h2 l J Jx row0 W hW hJ hJx hK hJl hr0 hY h0
  replace h1 := (hW.cell (p := ⟨B, 0, none⟩) (by simp; omega)).trans h1
  replace h2 := (hW.cell (p := ⟨B + 1, 0, none⟩) (by simp; omega)).trans h2
  have hWs := hW.size
  rw [hB] at hWs hJ hJx hY hr0
  have hrB : row0 ≠ some B := fun e => hr0 B e ⟨Nat.le_refl _, by omega⟩
  have hrB1 : row0 ≠ some (B + 1) := fun e => hr0 _ e ⟨by omega, by omega⟩
  have hrW : row0 ≠ some W.heap.size := fun e => by have := hJl _ _ _ h0 _ e; omega
  refine callsIn_of_wp_marks Tryd.func50 rfl trivial ?_ rfl
  simp only [Tryd.ntmps50, List.size_toArray, List.length_cons, List.length_nil, Nat.reduceAdd, Nat.reduceSub, Array.replicate_succ, Array.replicate_zero, List.push_toArray, List.append_toArray, List.nil_append, List.cons_append]
  have hb1 : Below W.heap.size W (W.alloc (.cells #[.func (.yield l) #[] #[]] 45)) := (Below.refl _ W).alloc (Nat.le_refl _) _
  have h1' := (hb1.cell (p := ⟨B, 0, none⟩) (lt_of_cell' h1)).trans h1
  have h2' := (hb1.cell (p := ⟨B + 1, 0, none⟩) (lt_of_cell' h2)).trans h2
  have hj1 := hJ.below hb1 h0
  obtain ⟨W1, hW1⟩ : ∃ W1, W.alloc (.cells #[.func (.yield l) #[] #[]] 45) = W1 := ⟨_, rfl⟩
  have cH := has_v (hKg _ (hK _ _ _ hj1)) id
  unfold endsK at he
  rw [hW1] at h1' h2' hj1 cH
  rw [he] at cH
  clear he hb1
  gi_wp2_with (refine ⟨trivial, ?_⟩; gi_at_call 22; refine (callsIn_wide.2 cH).mono ?_; rintro e w' ⟨rfl, rfl⟩)
  refine ⟨(fun f h => by cases h), ?_⟩
  gi_wp2
  exact ⟨_, results_none rfl _ _ _, ⟨_, rfl⟩, .inl ⟨_, row0, rfl, hj1⟩⟩
  | succ n ih =>
  intro id he B w hB h1 h2 l J Jx row0 W hW hJ hJx hK hJl hr0 hY h0
  replace h1 := (hW.cell (p := ⟨B, 0, none⟩) (by simp; omega)).trans h1
  replace h2 := (hW.cell (p := ⟨B + 1, 0, none⟩) (by simp; omega)).trans h2
  have hWs := hW.size
  rw [hB] at hWs hJ hJx hY hr0
  have hrB : row0 ≠ some B := fun e => hr0 B e ⟨Nat.le_refl _, by omega⟩
  have hrB1 : row0 ≠ some (B + 1) := fun e => hr0 _ e ⟨by omega, by omega⟩
  have hrW : row0 ≠ some W.heap.size := fun e => by have := hJl _ _ _ h0 _ e; omega
  have hCn : w.heap.size = B + 2 := hB
  have mine : ∀ k, W.heap.size ≤ k → Mine B (B + 2) W.heap.size k := fun k h => .inr h
  have own0 : ∀ k, B ≤ k → k < B + 2 → Mine B (B + 2) W.heap.size k := fun k ha hb => .inl ⟨ha, hb⟩
  refine callsIn_of_wp_marks Tryd.func50 rfl trivial ?_ rfl
  simp only [Tryd.ntmps50, List.size_toArray, List.length_cons, List.length_nil, Nat.reduceAdd, Nat.reduceSub, Array.replicate_succ, Array.replicate_zero, List.push_toArray, List.append_toArray, List.nil_append, List.cons_append]
  have hE1 : hasS L id = true → downS L (n + 1) id = id :: (kidsS L id).flatMap (downS L n) := fun hh => by rw [downS, if_pos hh]
  have hE0 : hasS L id = false → downS L (n + 1) id = [] := fun hh => downs_none hh _
  unfold endsK at he
  obtain ⟨ks, hks⟩ : ∃ ks, kidsS L id = ks := ⟨_, rfl⟩
  obtain ⟨D0, hD0⟩ : ∃ D0, downS L (n + 1) id = D0 := ⟨_, rfl⟩
  rw [hks] at he hE1
  rw [hD0] at hE0 hE1 hY ⊢
  obtain ⟨y1, _⟩ := new_cell W (.func (.yield l) #[] #[]) 45
  have hb1 : Below W.heap.size W (W.alloc (.cells #[.func (.yield l) #[] #[]] 45)) := (Below.refl _ W).alloc (Nat.le_refl _) _
  have h1' := (hb1.cell (p := ⟨B, 0, none⟩) (lt_of_cell' h1)).trans h1
  have h2' := (hb1.cell (p := ⟨B + 1, 0, none⟩) (lt_of_cell' h2)).trans h2
  have hsz1 : (W.alloc (.cells #[.func (.yield l) #[] #[]] 45)).heap.size = W.heap.size + 1 := by simp
  have hj1 := hJ.below hb1 h0
  have hST1 : Hid (W.heap.size < (W.alloc (.cells #[.func (.yield l) #[] #[]] 45)).heap.size) := Lib.hid (by rw [hsz1]; omega)
  obtain ⟨W1, hW1⟩ : ∃ W1, W.alloc (.cells #[.func (.yield l) #[] #[]] 45) = W1 := ⟨_, rfl⟩
  have cH := has_v (hKg _ (hK _ _ _ hj1)) id
  rw [hW1] at y1 h1' h2' hj1 cH hST1
  cases hh : hasS L id with
  | false =>
    rw [hh] at cH
    have E0 := Lib.hid (hE0 hh)
    clear hh he hE0 hE1 hD0 hks
    gi_wp2_with (refine ⟨trivial, ?_⟩; gi_at_call 22; refine (callsIn_wide.2 cH).mono ?_; rintro e w' ⟨rfl, rfl⟩)
    refine ⟨(fun f h => by cases h), ?_⟩
    gi_wp2
    exact ⟨_, results_none rfl _ _ _, ⟨_, rfl⟩, .inl ⟨_, row0, rfl, by rw [E0.out]; exact hj1⟩⟩
  | true =>
    rw [hh] at cH
    have e1 := hE1 hh
    have hends := he hh
    have E1 := Lib.hid e1
    have HEnds := Lib.hid hends
    obtain ⟨fn, tmps, assign, body, hy, hR⟩ := yield_any (m' := 8) (hY [] id row0 W1 (Nat.le_of_lt hST1.out) hj1 (by rw [e1]; exact ⟨_, rfl⟩))
    have HKS := Lib.hid hks
    clear hh e1 he hends h1 h2 hsz1 hb1 hE1 hE0 hks hD0
    gi_wp2_with (first | (refine ⟨trivial, ?_⟩; gi_at_call 22; refine (callsIn_wide.2 cH).mono ?_; rintro e w' ⟨rfl, rfl⟩))
    refine hR.mono ?_
    rintro e W3 ⟨row3, hn3, hk3, (⟨rfl, hJ3⟩ | ⟨hlv, rfl, hJ3⟩)⟩
    · have hW3 : W.heap.size < W3.heap.size := Nat.lt_of_lt_of_le hST1.out hk3.size
      have y3 := hk3.cell (mine _ (Nat.le_refl _)) hrW y1
      have c3 := hk3.cell (own0 B (Nat.le_refl _) (by omega)) hrB h1'
      have d3 := hk3.cell (own0 (B + 1) (by omega) (by omega)) hrB1 h2'
      have hrB3 := hn3.ne (show B < W1.heap.size by have := hST1.out; omega) hrB
      have hrW3 := hn3.ne hST1.out hrW
      have hl3 := hJl _ _ _ hJ3
      have cK := kids_v (hKg _ (hK _ _ _ hJ3)) id
      have HJ3 := Lib.hid hJ3
      have hends := HEnds.out
      have hSub : ∀ (k : Nat) (p : List Int), k < ks.length → p <+: downS L n (ks[k]!) → (id :: (ks.take k).flatMap (downS L n)) ++ p <+: D0 := fun k p hk hp => by
        rw [E1.out, List.cons_append, List.prefix_cons_inj]
        exact flat_pre L n ks hk hp
      have HSub := Lib.hid hSub
      rw [HKS.out] at cK
      have hkl : ks.length ≤ 2000 := by rw [← HKS.out]; exact (hKg _ (hK _ _ _ hJ3)).len.2 id
      obtain ⟨m, hm⟩ : ∃ m, ks.length = m := ⟨_, rfl⟩
      have HEnds2 := Lib.hid hends
      have HM := Lib.hid hm
      have HY := Lib.hid hY
      clear hJ3 hk3 y1 h1' h2' hj1 cH hy hR hW1 hST1 h0 hSub hends HEnds hY hm
      rw [HM.out] at hkl
      gi_wp2_with (refine ⟨trivial, ?_⟩; gi_at_call 32; refine (callsIn_wide.2 cK).mono ?_; rintro e W4 hO; obtain ⟨ka, kc, rfl, hka, hkb, hb4⟩ := hO.open; rw [HM.out])
      have hW4 : W.heap.size < W4.heap.size := Nat.lt_of_lt_of_le hW3 hb4.size
      have y4 := (hb4.cell (p := ⟨W.heap.size, 0, none⟩) (lt_of_cell' y3)).trans y3
      have c4 := (hb4.cell (p := ⟨B, 0, none⟩) (lt_of_cell' c3)).trans c3
      have HJ4 := Lib.hid (hJ.below hb4 HJ3.out)
      have hr34 : ∀ b o, ka = some ⟨b, o, none⟩ → row3 ≠ some b := fun b o e e2 => by have := (hkb _ _ _ e).1; have := hl3 _ e2; omega
      have HKA : Hid (∀ k, k < m → ∃ b o, ka = some ⟨b, o, none⟩ ∧ ∀ V, KeptI (Mine B (B + 2) W.heap.size) row3 W4 V → V.cell? ⟨b, o + k, none⟩ = some (.int .i64 (ks[k]!))) := Lib.hid (fun k hk => by
        rcases hka with h0 | ⟨b, o, e, hka⟩
        · have hm := HM.out; rw [h0] at hm; simp at hm; omega
        · have hc := hka k (by rw [HM.out]; exact hk)
          exact ⟨b, o, e, fun V hs => hs.cell (mine b (by have := (hkb _ _ _ e).1; omega)) (hr34 b o e) hc⟩)
      clear hkb hr34 hl3
      clear hO hka hb4 y3 c3 HJ3 cK
      refine wpIn_loop (fun a' V => ∃ (k : Nat) (u5 u22 u23 u24 u25 u26 u27 u33 : Value) (ds : List Deferred) (row : Option Nat), a' = { tmps := #[.func (.yield l) #[] #[], .pointer (some ⟨B, 0, none⟩), .pointer (some ⟨B + 1, 0, none⟩), .pointer (some ⟨W.heap.size, 0, none⟩), undef, u5, undef, .pointer a, .int .i64 id, .bool true, .bool false, .bool false, .func (.yield l) #[] #[], .int .i64 id, .bool true, .bool false, .bool false, .pointer a, .int .i64 id, .slice ka m kc, .int .i64 m, .int .i64 k, u22, u23, u24, u25, u26, u27, undef, undef, undef, undef, undef, u33], defers := ds } ∧
          k ≤ m ∧ Hid (J (id :: (ks.take k).flatMap (downS L n)) row V) ∧ KeptI (Mine B (B + 2) W.heap.size) row3 W4 V ∧ NextRow row3 row W4 ∧ Hid (Marks W.heap.size ds V) ∧ Hid (OffMarks ds row)) (fun a' _ => m - (RowKit.intOf (a'.tmps.getD 21 undef)).toNat) ⟨0, _, _, _, _, _, _, _, _, [], row3, rfl, Nat.zero_le _, HJ4, KeptI.refl _ _ _, .inl rfl, Lib.hid trivial, Lib.hid (fun d hd => by cases hd)⟩ ?_
      rintro _ V ⟨k, u5, u22, u23, u24, u25, u26, u27, u33, ds, row, rfl, hk, hj, hst, hnx, hmk, hof⟩
      have hV4 : W.heap.size < V.heap.size := Nat.lt_of_lt_of_le hW4 hst.size
      by_cases hlt : k < m
      · have hkI : (k : Int) < (m : Int) := by omega
        obtain ⟨b, o, eka, hcell⟩ := HKA.out k hlt
        have hc := hcell V hst
        obtain ⟨z, hz⟩ : ∃ z, ks[k]! = z := ⟨_, rfl⟩
        rw [hz] at hc
        have HZ := Lib.hid hz
        have yV := hst.cell (mine _ (Nat.le_refl _)) hrW3 y4
        have hrWV := hnx.ne hW4 hrW3
        have cV := hst.cell (own0 B (Nat.le_refl _) (by omega)) hrB3 c4
        have cD := down_any a z V
        clear hz hcell
        gi_wp2_with (refine ⟨trivial, ?_⟩; gi_at_call 33; refine (callsIn_wide.2 cD).mono ?_; rintro e W5 ⟨rfl, hz5, hb5, c5, d5⟩)
        have hzm : z ∈ ks := by
          rw [← HZ.out, List.getElem!_eq_getElem?_getD, List.getElem?_eq_getElem (by rw [HM.out]; exact hlt)]
          exact List.getElem_mem _
        have hrl := hJl _ _ _ hj.out
        have hI0 : J ((id :: (ks.take k).flatMap (downS L n)) ++ []) row W5 := by rw [List.append_nil]; exact hJ.below hb5 hj.out
        have hbV : B + 2 ≤ V.heap.size := by omega
        refine range_goes (gf := 50) rfl (enters_of Tryd.func50 (by kernel_rfl) rfl)
          (ih z (HEnds2.out z hzm) V.heap.size W5 hz5 c5 d5) (by omega) (Below.refl _ _) (fun _ => rfl)
          (fun pre rw V' => J ((id :: (ks.take k).flatMap (downS L n)) ++ pre) rw V' ∧ KeptI (Mine B (B + 2) W.heap.size) row V V' ∧ NextRow row rw V)
          (fun c pre rw V' => c = .ret ∧ Lv ∧ (id :: (ks.take k).flatMap (downS L n)) ++ pre <+: D0 ∧ Jx ((id :: (ks.take k).flatMap (downS L n)) ++ pre) rw V' ∧ KeptI (Mine B (B + 2) W.heap.size) row V V' ∧ NextRow row rw V)
          (fun s rw A A' rr h hg hr => ⟨hJ _ _ _ _ _ h.1 hg (fun r e => ⟨mine r (by have := (hr r e).1; omega), (hr r e).2⟩), h.2.1.more hg (fun r e => (hr r e).1), h.2.2⟩)
          (fun c s rw A A' rr h hg hr => ⟨h.1, h.2.1, h.2.2.1, hJx _ _ _ _ _ h.2.2.2.1 hg (fun r e => ⟨mine r (by have := (hr r e).1; omega), (hr r e).2⟩), h.2.2.2.2.1.more hg (fun r e => (hr r e).1), h.2.2.2.2.2⟩)
          (fun _ _ _ h => hJl _ _ _ h.1)
          (fun _ _ _ _ h => h.2.1) (fun _ _ _ h => hK _ _ _ h.1)
          row (fun r e => by have := hrl r e; omega) ⟨hI0, KeptI.below hb5, .inl rfl⟩
          (fun x => { tmps := #[.func (.yield l) #[] #[], .pointer (some ⟨B, 0, none⟩), .pointer (some ⟨B + 1, 0, none⟩), .pointer (some ⟨W.heap.size, 0, none⟩), undef, .int .i64 z, .int .i64 x, .pointer a, .int .i64 id, .bool true, .bool false, .bool false, .func (.yield l) #[] #[], .int .i64 id, .bool true, .bool false, .bool false, .pointer a, .int .i64 id, .slice (some ⟨b, o, none⟩) m kc, .int .i64 m, .int .i64 k, .bool true, .pointer (some ⟨b, o + k, none⟩), .int .i64 z, .pointer a, .int .i64 z, .func (.func 50) #[] #[.pointer (some ⟨V.heap.size, 0, none⟩), .pointer (some ⟨V.heap.size + 1, 0, none⟩)], .int .i64 x, undef, undef, undef, undef, u33], defers := [] }) ?assign ?body ?done ?stop
        case assign =>
          intro l x V K hK
          gi_wp2
          exact hK
        case body =>
          rintro l₂ pre x rw V' hsz ⟨hjp, hsp, hnw⟩ hT
          have yV2 := hsp.cell (mine _ (Nat.le_refl _)) hrWV yV
          have hpre : ((id :: (ks.take k).flatMap (downS L n)) ++ pre) ++ [x] <+: D0 := by rw [List.append_assoc]; exact HSub.out k (pre ++ [x]) (by rw [HM.out]; exact hlt) (by rw [HZ.out]; exact hT)
          have hVV : W.heap.size ≤ V'.heap.size := by have := hsp.size; omega
          have HPre := Lib.hid hpre
          obtain ⟨fn, tmps, assign, body, hy, hR⟩ := yield_in (l₂ := l₂) (m' := 8) (HY.out ((id :: (ks.take k).flatMap (downS L n)) ++ pre) x rw V' hVV hjp hpre)
          have hless : ∀ q, V.heap.size ≤ q → (Mine B (B + 2) W.heap.size) q := fun q h => mine q (by omega)
          clear hpre
          gi_wp2
          refine hR.mono ?_
          rintro e W3 ⟨rw3, hn3, hk3, (⟨rfl, hJ3⟩ | ⟨hlv, rfl, hJ3⟩)⟩
          · gi_wp2
            exact ⟨rw3, hn3, hk3.less hless, by rw [← List.append_assoc]; exact hJ3, hsp.trans hnw hk3, hnw.trans hsp.size hn3⟩
          · gi_wp2
            exact ⟨rw3, hn3, hk3.less hless, rfl, hlv, by rw [← List.append_assoc]; exact HPre.out, by rw [← List.append_assoc]; exact hJ3, hsp.trans hnw hk3, hnw.trans hsp.size hn3⟩
        case done =>
          rintro D xs rw V' hD rfl ⟨hjp, hsp, hnw⟩ hrD hK'
          obtain ⟨hm2, ho2⟩ := hmk.out.more hof.out mine hsp hnw hrD (by omega) (by omega) hK'
          have HO2 := Lib.hid ho2
          have hj2 : J (id :: (ks.take (k + 1)).flatMap (downS L n)) rw V' := by
            rw [flat_take L n ks (by rw [HM.out]; exact hlt), HZ.out]
            exact hjp
          have HM2 := Lib.hid hm2
          have HJ2 := Lib.hid hj2
          gi_wp2
          subst eka
          exact ⟨⟨k + 1, _, _, _, _, _, _, _, _, _, rw, rfl, hlt, HJ2, hst.trans hnx (hsp.trans (.inl rfl) (KeptI.refl _ _ _)), hnx.trans hst.size hnw, HM2, HO2⟩, by simp [RowKit.intOf]; omega⟩
        case stop =>
          rintro D c pre rw V' hD hSp ⟨rfl, hlv, hpre, hjx, hsp, hnw⟩ hrD hK'
          obtain ⟨hm2, ho2⟩ := hmk.out.more hof.out mine hsp hnw hrD (by omega) (by omega) hK'
          have HO2 := Lib.hid ho2
          have HM2 := Lib.hid hm2
          gi_wp2
          refine leaves_marks (lo := W.heap.size) (row := rw) (Jx ((id :: (ks.take k).flatMap (downS L n)) ++ pre) rw) (fun W' r hr hr2 h => hJx _ _ _ _ _ h (grownBy_putObj' W' r _) (fun r' e => by cases e; exact ⟨mine r hr, hr2⟩)) (fun W' h => ?_) _ _ HM2.out HO2.out hjx
          exact ⟨_, results_none rfl _ _ _, ⟨_, rfl⟩, .inr ⟨hlv, _, rw, hpre, h⟩⟩
      · have hkm : k = m := by omega
        subst hkm
        have hj2 : J D0 row V := by
          have := hj.out
          rw [← HM.out, List.take_length, ← E1.out] at this
          exact this
        have HJ2 := Lib.hid hj2
        gi_wp2
        refine leaves_marks (lo := W.heap.size) (row := row) (J D0 row) (fun W' r hr hr2 h => hJ _ _ _ _ _ h (grownBy_putObj' W' r _) (fun r' e => by cases e; exact ⟨mine r hr, hr2⟩)) (fun W' h => ?_) _ _ hmk.out hof.out HJ2.out
        exact ⟨_, results_none rfl _ _ _, ⟨_, rfl⟩, .inl ⟨_, row, rfl, h⟩⟩
    · have hpre : [] ++ [id] <+: D0 := by rw [E1.out]; exact ⟨_, rfl⟩
      have HPre := Lib.hid hpre
      clear hpre
      gi_wp2
      exact ⟨_, results_none rfl _ _ _, ⟨_, rfl⟩, .inr ⟨hlv, _, row3, HPre.out, hJ3⟩⟩

end Go.Proofs.YtggjoefhopoggaaDoor
