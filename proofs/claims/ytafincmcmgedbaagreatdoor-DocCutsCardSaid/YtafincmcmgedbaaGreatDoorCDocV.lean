/-
  The document's Places: a slice of places, one's own.
  The document's Offset, At, Step, May.
-/
import Derived.Test.YtafincmcmgedbaaGreatDoorCAppG
import Derived.Test.YtafincmcmgedbaaGreatDoorCDocU
import Derived.Test.YtafincmcmgedbaaGreatDoorCLMay
import Derived.Test.YtafincmcmgedbaaGreatDoorCDocO
import Derived.Test.YtafincmcmgedbaaGreatDoorCDocD

namespace Go.Proofs.YtafincmcmgedbaaGreatDoor
open Go.RowKit Go.Lib

def cellsP (l : List Ps) : List Value := l.flatMap fun p => [.int .i64 p.1, .int .i64 p.2]
theorem cellsP_length : ∀ l : List Ps, (cellsP l).length = l.length * 2
  | [] => rfl
  | a :: l => by
    have := cellsP_length l
    show ([Value.int .i64 a.1, Value.int .i64 a.2] ++ cellsP l).length = _
    rw [List.length_append, this]
    simp; omega
theorem cellsP_append (l m : List Ps) : cellsP (l ++ m) = cellsP l ++ cellsP m := by unfold cellsP; rw [List.flatMap_append]
theorem cellsP_at : ∀ (l : List Ps) (j : Nat), j < l.length → (cellsP l)[j * 2]? = some (.int .i64 (l[j]!).1) ∧ (cellsP l)[j * 2 + 1]? = some (.int .i64 (l[j]!).2)
  | [], j, h => by simp at h
  | a :: l, 0, _ => ⟨rfl, rfl⟩
  | a :: l, j + 1, h => by
    have ih := cellsP_at l j (by simpa using h)
    have e : cellsP (a :: l) = .int .i64 a.1 :: .int .i64 a.2 :: cellsP l := rfl
    have e1 : (j + 1) * 2 = j * 2 + 1 + 1 := by omega
    rw [e, e1]
    simpa using ih
theorem cellsP_one (l : List Ps) : ∀ u ∈ cellsP l, u.oneCell' = true := by
  intro u hu
  unfold cellsP at hu
  rw [List.mem_flatMap] at hu
  obtain ⟨a, _, ha⟩ := hu
  simp only [List.mem_cons, List.not_mem_nil, or_false] at ha
  rcases ha with rfl | rfl <;> rfl
theorem infoPos : (Tryz.prog.info? 24).map (fun i => (i.zero, i.size, i.bytes)) = some (some (.agg #[.int .i64 0, .int .i64 0]), 2, 16) := by kernel_rfl

theorem own_appP {w : World} {B : Nat} {v : Value} {l m : List Ps} {n k : Nat} (h : w.ownsRow B 24 2 v (n + k) (cellsP l ++ cellsP m)) (hn : l.length = n) (hk : m.length = k) : w.ownsRow B 24 2 v (l ++ m).length (cellsP (l ++ m)) := by
  subst hn hk
  rw [List.length_append, cellsP_append]
  exact h

theorem wpList_append_pos {ops : Array Oper} {rest : List Oper} {o : Oper} {a : Act} {Q : Exit → Act → World → Prop} {w : World} (hgd : o.guard = none) (s x : Operand)
    (ho : o.op = .call { callee := .builtin .append, args := #[s, x], argTypes := #[73, 73] })
    (base : Nat) (v : Value) (l : List Ps) (hs : a.eval s = v) (hown : w.ownsRow base 24 2 v l.length (cellsP l)) (g0 : Nat) (p q : Int) (hx : a.eval x = .slice (some ⟨g0, 0, none⟩) 1 1)
    (c0 : w.cell? ⟨g0, 0, none⟩ = some (.int .i64 p)) (c1 : w.cell? ⟨g0, 1, none⟩ = some (.int .i64 q))
    (hb : l.length ≤ 3000000) (hbase : base ≤ w.heap.size)
    (h : ∀ v' w', w'.ownsRow base 24 2 v' (l ++ [(p, q)]).length (cellsP (l ++ [(p, q)])) → w.grownBy w' v.ownBlock → wpList Tryz.prog ops Q rest (a.put o.dst v') w') : wpList Tryz.prog ops Q (o :: rest) a w := by
  obtain ⟨i0, hi, hz0, hz1, hz2⟩ := info_parts infoPos
  refine wpList_append_own _ hgd s x 73 ho base 24 i0 _ 2 16 Tryz.underlying73 hi hz0 hz1 hz2 rfl (by decide) v _ _ hs hown ⟨g0, 0, none⟩ 1 1 (cellsP [(p, q)]) hx rfl ?_ (cellsP_one [(p, q)]) (by unfold maxLen; omega) (by omega) hbase (fun v' w' h1 h2 _ => h v' w' (own_appP h1 rfl rfl) h2)
  intro j u hu
  rw [Addr.add_lit, Nat.zero_add]
  match j with
  | 0 => simp [cellsP] at hu; rw [← hu]; exact c0
  | 1 => simp [cellsP] at hu; rw [← hu]; exact c1
  | j + 2 => simp [cellsP] at hu

/-- The places ahead of one. -/
def preP (d : Doc) (r k : Nat) : List Ps := placesL (d.take r) 0 ++ (List.range k).map (fun j : Nat => ((r : Int), (j : Int)))
theorem preP_succ (d : Doc) (r k : Nat) : preP d r (k + 1) = preP d r k ++ [((r : Int), (k : Int))] := by
  unfold preP
  rw [List.range_succ, List.map_append, List.append_assoc]
  rfl
theorem placesL_append : ∀ (d e : Doc) (i : Nat), placesL (d ++ e) i = placesL d i ++ placesL e (i + d.length)
  | [], e, i => by simp [placesL]
  | x :: d, e, i => by
    have ih := placesL_append d e (i + 1)
    rw [List.cons_append]
    unfold placesL
    rw [ih, List.append_assoc, List.length_cons, show i + 1 + d.length = i + (d.length + 1) by omega]
    cases e <;> rfl
theorem preP_line {d : Doc} {r : Nat} (h : r < d.length) : preP d (r + 1) 0 = preP d r (cnt d r + 1) := by
  unfold preP
  have e : d.take (r + 1) = d.take r ++ [d[r]!] := by
    rw [List.take_succ_eq_append_getElem h]; congr 2; rw [List.getElem!_eq_getElem?_getD, List.getElem?_eq_getElem h]; rfl
  rw [e, placesL_append, List.length_take, Nat.min_eq_left (by omega), Nat.zero_add]
  simp [placesL, cnt]
theorem preP_all (d : Doc) : preP d d.length 0 = places d := by
  unfold preP places
  rw [List.take_length]
  simp
theorem preP_length (d : Doc) (r k : Nat) (h : r ≤ d.length) : (preP d r k).length ≤ sizeD d + r + k := by
  unfold preP
  rw [List.length_append, placesL_length, List.length_map, List.length_range, List.length_take, Nat.min_eq_left h]
  have := sizeD_take_le d r
  omega

set_option maxRecDepth 20000 in
set_option maxHeartbeats 8000000 in
theorem places_any (v : Value) (l : List Lw) (w : World) (h : SliceAt w v l) (hf : Fine (pl l)) :
    Calls Tryz.prog 66 #[v] w fun e w' => ∃ s, e = .returned s ∧ w'.ownsRow w.heap.size 24 2 s (places (pl l)).length (cellsP (places (pl l))) ∧ Below w.heap.size w w' := by
  obtain ⟨a, c, rfl⟩ := h.len
  have hl := hf.len
  have V := Lib.hid h
  have F := Lib.hid hf
  obtain ⟨n, hn⟩ : ∃ n, l.length = n := ⟨_, rfl⟩
  rw [hn] at hl V ⊢
  have N := Lib.hid hn
  clear h hf hn
  go_enter Tryz.func66, Tryz.ntmps66
  go_wp2
  go_loopw [3, 4, 5] (fun s i _ wr => ∃ (r : Nat) (m : List Ps), r ≤ n ∧ i = .int .i64 r ∧ Hid (m = preP (pl l) r 0) ∧ Hid (wr.ownsRow w.heap.size 24 2 s m.length (cellsP m)) ∧ Below w.heap.size w wr) (fun _ i _ _ => n - (RowKit.intOf i).toNat)
  case atStart => exact ⟨0, [], Nat.zero_le _, rfl, Lib.hid rfl, Lib.hid (World.ownsRow_nil _ _ _ _), Below.refl _ _⟩
  case round =>
    obtain ⟨r, m0, hr, rfl, HM0, HO0, hb0⟩ := hrel
    by_cases hlt : r < n
    · have hkl : r < l.length := by rw [N.out]; exact hlt
      obtain ⟨b, o, rfl, e9, hlc, hcm, hbl, q, za, n1, zc, kk, ra, rc, u0, u1, u2, u3⟩ := slice_lies_cnt V.out hkl
      unfold maxLen at hcm
      have hck := F.out.cnt r hkl
      have HL : Hid (∀ j, j ≤ cnt (pl l) r + 1 → (preP (pl l) r j).length ≤ 3000000) := Lib.hid (fun j hj => by
        have h1 := preP_length (pl l) r j (by rw [pl_length]; omega)
        have h2 := F.out.s
        omega)
      have HNX : Hid (preP (pl l) (r + 1) 0 = preP (pl l) r (cnt (pl l) r + 1)) := Lib.hid (preP_line (by rw [pl_length]; exact hkl))
      obtain ⟨C, hC⟩ : ∃ C, cnt (pl l) r = C := ⟨_, rfl⟩
      rw [hC] at hck HL HNX u3
      have U0 := Lib.hid u0
      have U1 := Lib.hid u1
      have U2 := Lib.hid u2
      have U3 := Lib.hid u3
      have hrI : (r : Int) < (n : Int) := by omega
      clear hC hkl u0 u1 u2 u3 e9
      go_wp2
      go_loopw [3, 5] (fun s i wr => ∃ (j : Nat) (m : List Ps), j ≤ C + 1 ∧ i = .int .i64 j ∧ Hid (m = preP (pl l) r j) ∧ Hid (wr.ownsRow w.heap.size 24 2 s m.length (cellsP m)) ∧ Below w.heap.size w wr) (fun _ i _ => C + 1 - (RowKit.intOf i).toNat)
      case atStart => exact ⟨0, m0, Nat.zero_le _, rfl, HM0, HO0, hb0⟩
      case round =>
        obtain ⟨j, m, hj, rfl, HM, HO, hb⟩ := hrel
        obtain ⟨u, cap, rfl⟩ := own_len HO.out
        have x3 := (hb.cell (p := ⟨b, o + r * 4 + 3, none⟩) hbl).trans U3.out
        have hbw : b < wr.heap.size := Nat.lt_of_lt_of_le hbl hb.size
        have hws := hb.size
        clear hb0 HM0 HO0
        by_cases hjl : j ≤ C
        · have hjI : (j : Int) ≤ (C : Int) := by omega
          have hml : m.length ≤ 3000000 := by rw [HM.out]; exact HL.out j (by omega)
          obtain ⟨ml, hmle⟩ : ∃ ml, m.length = ml := ⟨_, rfl⟩
          rw [hmle] at HO hml ⊢
          have ML := Lib.hid hmle
          clear hmle
          go_wp2_with (at_builtin; refine wpList_append_pos rfl _ _ rfl w.heap.size (.slice u ml cap) m rfl (by rw [ML.out]; exact ownsRow_below HO.out (below_alloc1 wr _)) wr.heap.size (r : Int) (j : Int) rfl (by simp [go_sem]) (by simp [go_sem]) (by rw [ML.out]; exact hml) (by simp; omega) ?_; intro s' w4 hown hgrow)
          go_roundw
          case rel => exact ⟨j + 1, m ++ [((r : Int), (j : Int))], by omega, by go_num, Lib.hid (by rw [preP_succ, HM.out]), Lib.hid hown, (hb.alloc hws _).grown hgrow (by simp; omega) (fun g e => (HO.out.lt g e).1)⟩
          case measure => simp [RowKit.intOf]; omega
        · have hje : j = C + 1 := by omega
          subst hje
          have hjI : ¬ ((C + 1 : Nat) : Int) ≤ (C : Int) := by omega
          have hjJ : (C : Int) < ((C + 1 : Nat) : Int) := by omega
          have HZ : Hid (m = preP (pl l) (r + 1) 0) := Lib.hid (by rw [HNX.out, HM.out])
          clear HM
          go_wp2
          go_roundw
          case rel => exact ⟨r + 1, m, hlt, by go_num, HZ, HO, hb⟩
          case measure => simp [RowKit.intOf]; omega
    · have hkn : r = n := by omega
      subst hkn
      have HP : Hid (m0 = places (pl l)) := Lib.hid (by rw [HM0.out, ← preP_all, pl_length, N.out])
      clear HM0
      go_wp2
      go_ret
      exact ⟨_, rfl, by rw [← HP.out]; exact HO0.out, hb0⟩

end Go.Proofs.YtafincmcmgedbaaGreatDoor

namespace Go.Proofs.YtafincmcmgedbaaGreatDoor
open Go.RowKit Go.Lib

/-- Where places of one's own lie. -/
theorem ownP_at {w : World} {B : Nat} {v : Value} {l : List Ps} (h : w.ownsRow B 24 2 v l.length (cellsP l)) (hl : 0 < l.length) :
    ∃ g cap, v = .slice (some ⟨g, 0, none⟩) l.length cap ∧ l.length ≤ cap ∧ cap ≤ maxLen ∧ g < w.heap.size ∧ ∀ j, j < l.length → w.cell? ⟨g, j * 2, none⟩ = some (.int .i64 (l[j]!).1) ∧ w.cell? ⟨g, j * 2 + 1, none⟩ = some (.int .i64 (l[j]!).2) := by
  have h0 := h
  obtain ⟨_, ⟨rfl, hn⟩ | ⟨g, cap, cur, rfl, _, hg, hnc, hcm, _, _⟩⟩ := h
  · omega
  · have hfl : ∀ j u, (cellsP l)[j]? = some u → w.cell? ⟨g, j, none⟩ = some u := fun j u hu => by
      have := h0.cells rfl j u hu
      rwa [Addr.add_lit, Nat.zero_add] at this
    exact ⟨g, cap, rfl, hnc, hcm, (Array.getElem?_eq_some_iff.1 hg).1, fun j hj => ⟨hfl _ _ (cellsP_at l j hj).1, hfl _ _ (cellsP_at l j hj).2⟩⟩
theorem places_bound {l : List Lw} (hf : Fine (pl l)) : (places (pl l)).length ≤ 1001000 := by
  rw [places_length, pl_length]
  have := hf.s
  have := hf.len
  omega
theorem findP_next (l : List Ps) (p : Ps) (n k : Nat) (h : k < n) : findP l p (n - k) k = if l[k]! = p then ((k : Int), 0) else findP l p (n - (k + 1)) (k + 1) := by
  obtain ⟨q, hq⟩ : ∃ q, n - k = q + 1 := ⟨n - k - 1, by omega⟩
  rw [hq, show n - (k + 1) = q by omega]
  rfl

set_option maxRecDepth 20000 in
set_option maxHeartbeats 8000000 in
theorem rdoffset_any (v : Value) (l : List Lw) (p1 p2 : Int) (w : World) (h : SliceAt w v l) (hf : Fine (pl l)) :
    Calls Tryz.prog 26 #[v, psV (p1, p2)] w fun e w' => e = .returned (.tuple #[.int .i64 (offsetD (pl l) (p1, p2)).1, .int .i64 (offsetD (pl l) (p1, p2)).2]) ∧ Below w.heap.size w w' := by
  obtain ⟨a, c, rfl⟩ := h.len
  have cP := places_any _ l (w.alloc (.cells #[.int .i64 p1, .int .i64 p2] 24)) (h.below (below_alloc1 _ _)) hf
  have hp : Tryz.prog.stoodInHeld 24 = false := by kernel_rfl
  have hS : Tryz.prog.underlying 24 = some (.struct (Tryz.prog.fieldsOf 24)) := by kernel_rfl
  have hq : ∀ (a b c d : Int) (W : World), (binOp .eql 24 (.agg #[.int .i64 a, .int .i64 b]) (.agg #[.int .i64 c, .int .i64 d])).run Tryz.prog W = .ok (.bool (decide (a = c) && decide (b = d))) W := fun a b c d W => by
    rw [run_eql_struct, show (10000 : Nat) = 9999 + 1 from rfl, run_equalIn_agg W 9999 24 _ _ hS hp]
    simp only [Program.fieldsOf, Tryz.underlying24]
    go_simp
    by_cases k1 : a = c <;> by_cases k2 : b = d <;> simp_all
  have hm : Tryz.prog.eqGuardType Tryz.prog.depth 24 = false := by kernel_rfl
  clear hp hS
  have hb0 := places_bound hf
  have hR := findP_is (pl l) (p1, p2)
  obtain ⟨L, hL⟩ : ∃ L, places (pl l) = L := ⟨_, rfl⟩
  rw [hL] at cP hR hb0
  obtain ⟨⟨R1, R2⟩, hRe⟩ : ∃ R, offsetD (pl l) (p1, p2) = R := ⟨_, rfl⟩
  rw [hRe] at hR ⊢
  obtain ⟨n0, hn0⟩ : ∃ n, l.length = n := ⟨_, rfl⟩
  rw [hn0] at cP ⊢
  obtain ⟨n, hn⟩ : ∃ n, L.length = n := ⟨_, rfl⟩
  have HR : Hid (findP L (p1, p2) (n - 0) 0 = (R1, R2)) := Lib.hid (by rw [Nat.sub_zero, ← hn]; exact hR)
  have N := Lib.hid hn
  rw [hn] at hb0
  unfold psV
  dsimp only
  have P0 := Lib.hid (ps_new w p1 p2)
  clear h hf hR hRe hL hn0 hn
  go_enter Tryz.func26, Tryz.ntmps26
  go_wp2_with (go_at_call 66; ((with_reducible refine cP.mono ?_); rintro e w2 ⟨s, rfl, hown, hb2⟩; have HP := Lib.hid (P0.out.below hb2); have hb := Lib.hid ((below_alloc1 w _).trans (hb2.mono (by simp))); have HO := Lib.hid hown; obtain ⟨u, cap, rfl⟩ := own_len hown; rw [N.out]; clear hown hb2))
  go_loopw [7] (fun i wr => ∃ k : Nat, k ≤ n ∧ i = .int .i64 k ∧ Hid (findP L (p1, p2) (n - k) k = (R1, R2)) ∧ ∃ z, wr = w2.drewN z) (fun i _ => n - (RowKit.intOf i).toNat)
  case atStart => exact ⟨0, Nat.zero_le _, rfl, HR, 0, rfl⟩
  case round =>
    obtain ⟨k, hk, rfl, HK, z, rfl⟩ := hrel
    by_cases hlt : k < n
    · have hkI : (k : Int) < (n : Int) := by omega
      obtain ⟨g, cap', e, hlc, hcm, hgl, hc⟩ := ownP_at HO.out (by rw [N.out]; omega)
      obtain ⟨rfl, _, rfl⟩ := Value.slice.inj e
      unfold maxLen at hcm
      rw [N.out] at hlc
      obtain ⟨x0, x1⟩ := hc k (by rw [N.out]; exact hlt)
      obtain ⟨_, y0, y1, _, _⟩ := HP.out
      have hst := findP_next L (p1, p2) n k hlt
      rw [HK.out] at hst
      obtain ⟨⟨X1, X2⟩, hX⟩ : ∃ X, L[k]! = X := ⟨_, rfl⟩
      rw [hX] at x0 x1 hst
      dsimp only at x0 x1
      clear hX hc e HK
      by_cases hq0 : X1 = p1 ∧ X2 = p2
      · obtain ⟨rfl, rfl⟩ := hq0
        rw [if_pos rfl] at hst
        simp only [Prod.mk.injEq] at hst
        obtain ⟨rfl, rfl⟩ := hst
        go_wp2
        go_quiet (fail)
        go_wp2
        go_ret2
        exact ⟨rfl, by (try rw [World.drewN_drewN]); exact hb.out.trans ((below_draws _ _).mono hb.out.size)⟩
      · rw [if_neg (fun e => hq0 (by simpa using e))] at hst
        have HS := Lib.hid hst.symm
        have hq1 : (decide (X1 = p1) && decide (X2 = p2)) = false := by
          cases h1 : decide (X1 = p1) <;> cases h2 : decide (X2 = p2) <;> simp_all
        clear hst hq0
        go_wp2
        go_quiet (fail)
        go_wp2
        go_roundw
        case rel => exact ⟨k + 1, hlt, by go_num, HS, _, rfl⟩
        case measure => simp [RowKit.intOf]; omega
    · have hkn : k = n := by omega
      subst hkn
      have hst := HK.out
      rw [Nat.sub_self] at hst
      unfold findP at hst
      simp only [Prod.mk.injEq] at hst
      obtain ⟨rfl, rfl⟩ := hst
      clear HK
      go_wp2
      go_ret2
      exact ⟨rfl, by (try rw [World.drewN_drewN]); exact hb.out.trans ((below_draws _ _).mono hb.out.size)⟩

set_option maxRecDepth 20000 in
set_option maxHeartbeats 8000000 in
theorem rdat_any (v : Value) (l : List Lw) (z : Int) (w : World) (h : SliceAt w v l) (hf : Fine (pl l)) :
    Calls Tryz.prog 28 #[v, .int .i64 z] w fun e w' => e = .returned (errZ (atD (pl l) z)) ∧ Below w.heap.size w w' := by
  obtain ⟨a, c, rfl⟩ := h.len
  have cP := places_any _ l (w.alloc (.cells #[.int .i64 0, .int .i64 0] 24)) (h.below (below_alloc1 _ _)) hf
  have hb0 := places_bound hf
  rw [← atP_is]
  unfold atP
  obtain ⟨L, hL⟩ : ∃ L, places (pl l) = L := ⟨_, rfl⟩
  rw [hL] at cP hb0 ⊢
  obtain ⟨n0, hn0⟩ : ∃ n, l.length = n := ⟨_, rfl⟩
  rw [hn0] at cP ⊢
  obtain ⟨n, hn⟩ : ∃ n, L.length = n := ⟨_, rfl⟩
  rw [hn] at hb0 ⊢
  have N := Lib.hid hn
  have P0 := Lib.hid (ps_new w 0 0)
  clear h hf hL hn0 hn
  have hC : z < 0 ∨ (¬ z < 0 ∧ (n : Int) ≤ z) ∨ ∃ k : Nat, z = (k : Int) ∧ k < n := by
    by_cases h1 : z < 0
    · exact .inl h1
    · by_cases h2 : (n : Int) ≤ z
      · exact .inr (.inl ⟨h1, h2⟩)
      · exact .inr (.inr ⟨z.toNat, by omega, by omega⟩)
  rcases hC with h1 | ⟨h1, h2⟩ | ⟨k, rfl, hk⟩
  · rw [if_pos (.inl h1)]
    go_enter Tryz.func28, Tryz.ntmps28
    go_wp2_with (go_at_call 66; ((with_reducible refine cP.mono ?_); rintro e w2 ⟨s, rfl, hown, hb2⟩; obtain ⟨_, y0, y1, g0, g1⟩ := P0.out.below hb2; have hb := Lib.hid ((below_alloc1 w _).trans (hb2.mono (by simp))); obtain ⟨u, cap, rfl⟩ := own_len hown; rw [N.out]; clear hown hb2))
    exact bodyPost_ret (v := errZ ((0, 0), 1)) (by simp [results, Tryz.results28, go_sem, errZ, *]) rfl ⟨rfl, by repeat (first | (with_reducible exact hb) | (with_reducible exact hb.out) | (with_reducible refine Below.drew ?_) | (with_reducible refine Below.setCell ?_ ?_ _) | (with_reducible refine Below.alloc ?_ ?_ _) | exact Nat.le_refl _ | exact Nat.le_succ _ | omega | (simp; done) | (simp; omega))⟩
  · rw [if_pos (.inr h2)]
    go_enter Tryz.func28, Tryz.ntmps28
    go_wp2_with (go_at_call 66; ((with_reducible refine cP.mono ?_); rintro e w2 ⟨s, rfl, hown, hb2⟩; obtain ⟨_, y0, y1, g0, g1⟩ := P0.out.below hb2; have hb := Lib.hid ((below_alloc1 w _).trans (hb2.mono (by simp))); obtain ⟨u, cap, rfl⟩ := own_len hown; rw [N.out]; clear hown hb2))
    exact bodyPost_ret (v := errZ ((0, 0), 1)) (by simp [results, Tryz.results28, go_sem, errZ, *]) rfl ⟨rfl, by repeat (first | (with_reducible exact hb) | (with_reducible exact hb.out) | (with_reducible refine Below.drew ?_) | (with_reducible refine Below.setCell ?_ ?_ _) | (with_reducible refine Below.alloc ?_ ?_ _) | exact Nat.le_refl _ | exact Nat.le_succ _ | omega | (simp; done) | (simp; omega))⟩
  · rw [if_neg (by omega), Int.toNat_natCast]
    have hkI : (k : Int) < (n : Int) := by omega
    have hkJ : ¬ (n : Int) ≤ (k : Int) := by omega
    obtain ⟨⟨X1, X2⟩, hX⟩ : ∃ X, L[k]! = X := ⟨_, rfl⟩
    rw [hX]
    have HX := Lib.hid hX
    clear hX
    go_enter Tryz.func28, Tryz.ntmps28
    go_wp2_with (go_at_call 66; ((with_reducible refine cP.mono ?_); rintro e w2 ⟨s, rfl, hown, hb2⟩; obtain ⟨_, y0, y1, g0, g1⟩ := P0.out.below hb2; have hb := Lib.hid ((below_alloc1 w _).trans (hb2.mono (by simp))); obtain ⟨g, cap, rfl, hlc, hcm, hgl, hc⟩ := ownP_at hown (by rw [N.out]; omega); obtain ⟨x0, x1⟩ := hc k (by rw [N.out]; exact hk); rw [HX.out] at x0 x1; dsimp only at x0 x1; rw [N.out] at hlc; unfold maxLen at hcm; rw [N.out]; clear hown hb2 hc))
    exact bodyPost_ret (v := errZ ((X1, X2), 0)) (by simp [results, Tryz.results28, go_sem, errZ, *]) rfl ⟨rfl, by repeat (first | (with_reducible exact hb) | (with_reducible exact hb.out) | (with_reducible refine Below.drew ?_) | (with_reducible refine Below.setCell ?_ ?_ _) | (with_reducible refine Below.alloc ?_ ?_ _) | exact Nat.le_refl _ | exact Nat.le_succ _ | omega | (simp; done) | (simp; omega))⟩

set_option maxRecDepth 20000 in
set_option maxHeartbeats 8000000 in
theorem rdstep_any (v : Value) (l : List Lw) (p1 p2 z : Int) (w : World) (h : SliceAt w v l) (hf : Fine (pl l)) :
    Calls Tryz.prog 30 #[v, psV (p1, p2), .int .i64 z] w fun e w' => e = .returned (.tuple #[psV (stepD (pl l) (p1, p2) z).1, .bool (stepD (pl l) (p1, p2) z).2]) ∧ Below w.heap.size w w' := by
  obtain ⟨a, c, rfl⟩ := h.len
  rw [← stepP_is]
  unfold stepP
  have hl := hf.len
  obtain ⟨⟨C1, C2⟩, hC⟩ : ∃ C, clampD (pl l) (p1, p2) = C := ⟨_, rfl⟩
  have hF := offsetD_bound (pl l) (C1, C2)
  have hbd := places_bound hf
  have cP : ∀ w1, Below w.heap.size w w1 → _ := fun w1 h1 => places_any _ l w1 (h.below h1) hf
  have cC : ∀ w1, Below w.heap.size w w1 → _ := fun w1 h1 => rdclamp_any _ l p1 p2 w1 (h.below h1) hl hf.cnt
  have cO : ∀ w1, Below w.heap.size w w1 → _ := fun w1 h1 => rdoffset_any _ l C1 C2 w1 (h.below h1) hf
  rw [hC] at cC ⊢
  have hPl := places_length (pl l)
  obtain ⟨⟨F1, F2⟩, hF1⟩ : ∃ F, offsetD (pl l) (C1, C2) = F := ⟨_, rfl⟩
  rw [hF1] at cO hF ⊢
  dsimp only at hF cO ⊢
  have hFb : 0 ≤ F1 ∧ F1 ≤ 1001000 := by omega
  have hin : 0 < (places (pl l)).length → F1 < (places (pl l)).length := fun h0 => by
    rw [places_length] at h0 ⊢
    have hp : 0 < (pl l).length := by
      cases hd : (pl l).length with
      | zero => rw [List.eq_nil_of_length_eq_zero hd] at h0; simp [sizeD] at h0
      | succ n => omega
    obtain ⟨i, k, e1, e2, e3⟩ := isD_nat (clampD_is hp (p1, p2))
    rw [hC] at e1
    rw [e1, offsetD_mk e2 e3] at hF1
    have := offN_lt e2 e3
    simp only [Prod.mk.injEq] at hF1
    omega
  obtain ⟨L, hL⟩ : ∃ L, places (pl l) = L := ⟨_, rfl⟩
  rw [hL] at cP hbd hin ⊢
  obtain ⟨n0, hn0⟩ : ∃ n, l.length = n := ⟨_, rfl⟩
  rw [hn0] at cP cC cO ⊢
  obtain ⟨n, hn⟩ : ∃ n, L.length = n := ⟨_, rfl⟩
  rw [hn] at hbd hin ⊢
  have N := Lib.hid hn
  unfold psV at *
  dsimp only at *
  have P0 := Lib.hid ((ps_new w p1 p2).below (below_alloc1 _ (.cells #[.int .i64 0, .int .i64 0] 24)))
  have P1 := Lib.hid (ps_new (w.alloc (.cells #[.int .i64 p1, .int .i64 p2] 24)) 0 0)
  rw [show (w.alloc (.cells #[.int .i64 p1, .int .i64 p2] 24)).heap.size = w.heap.size + 1 by simp] at P1
  have hX := two_allocs w (.cells #[.int .i64 p1, .int .i64 p2] 24) (.cells #[.int .i64 0, .int .i64 0] 24)
  have HX := Lib.hid hX
  have KW := Lib.hid (Below.refl ((w.alloc (.cells #[.int .i64 p1, .int .i64 p2] 24)).alloc (.cells #[.int .i64 0, .int .i64 0] 24)).heap.size ((w.alloc (.cells #[.int .i64 p1, .int .i64 p2] 24)).alloc (.cells #[.int .i64 0, .int .i64 0] 24)))
  have hb := hX
  clear h hf hl hC hF hPl hF1 hL hn0 hn hX
  obtain ⟨hF0, hF1⟩ := hFb
  by_cases h0 : n = 0
  · subst h0
    rw [if_pos rfl]
    clear hin
    go_enter Tryz.func30, Tryz.ntmps30
    go_wp2_with (go_at_call 66; ((with_reducible refine (cP _ hb).mono ?_); rintro e w2 ⟨s, rfl, hown, hb1⟩; have hk := KW.out.trans (hb1.mono KW.out.size); clear KW; have KW := Lib.hid hk; clear hb; have hb := HX.out.trans (hk.mono HX.out.size); (try obtain ⟨_, p0, q0, _, _⟩ := P0.out.below hk); obtain ⟨_, z0, z1, g0, g1⟩ := P1.out.below hk; obtain ⟨u, cap, rfl⟩ := own_len hown; rw [N.out]; clear hown hk hb1))
    exact bodyPost_ret (v := .tuple #[.agg #[.int .i64 0, .int .i64 0], .bool false]) (by simp [results, Tryz.results30, go_sem, *]) rfl ⟨rfl, by repeat (first | (with_reducible exact hb) | (with_reducible exact hb.out) | (with_reducible refine Below.drew ?_) | (with_reducible refine Below.setCell ?_ ?_ _) | (with_reducible refine Below.alloc ?_ ?_ _) | exact Nat.le_refl _ | exact Nat.le_succ _ | omega | (simp; done) | (simp; omega))⟩
  rw [if_neg h0]
  have h0I : ¬ (n : Int) = 0 := by omega
  have h0b : ((n : Int) == 0) = false := by simpa using h0I
  have hFn := hin (by omega)
  clear hin
  have W1 : IntKind.i64.wrap (-F1) = -F1 := IntWalk.i64_in _ (by omega)
  have W2 : IntKind.i64.wrap ((n : Int) - F1) = (n : Int) - F1 := IntWalk.i64_in _ (by omega)
  have hcase : ∃ (k : Nat) (B : Bool), k < n ∧ ((z < -F1 ∧ k = 0 ∧ B = false) ∨ (¬ z < -F1 ∧ (n : Int) - F1 ≤ z ∧ (n : Int) - 1 = k ∧ B = false) ∨ (¬ z < -F1 ∧ ¬ (n : Int) - F1 ≤ z ∧ F1 + z = k ∧ B = true)) ∧
      (if z < -F1 then (L[0]!, false) else if (n : Int) - F1 ≤ z then (L[n - 1]!, false) else (L[(F1 + z).toNat]!, true)) = (L[k]!, B) := by
    by_cases g1 : z < -F1
    · exact ⟨0, false, by omega, .inl ⟨g1, rfl, rfl⟩, by rw [if_pos g1]⟩
    · by_cases g2 : (n : Int) - F1 ≤ z
      · exact ⟨n - 1, false, by omega, .inr (.inl ⟨g1, g2, by omega, rfl⟩), by rw [if_neg g1, if_pos g2]⟩
      · exact ⟨(F1 + z).toNat, true, by omega, .inr (.inr ⟨g1, g2, by omega, rfl⟩), by rw [if_neg g1, if_neg g2]⟩
  obtain ⟨k, B, hkn, hcs, hres⟩ := hcase
  (try dsimp only at hres)
  rw [hres]
  obtain ⟨⟨X1, X2⟩, hX⟩ : ∃ X, L[k]! = X := ⟨_, rfl⟩
  rw [hX]
  have HXk := Lib.hid hX
  have HKn := Lib.hid hkn
  have HC := Lib.hid hcs
  clear hX hres h0 hcs hkn
  rcases HC.out with ⟨g1, rfl, rfl⟩ | ⟨g1, g2, g3, rfl⟩ | ⟨g1, g2, g3, rfl⟩
  · clear HC
    (try have W3 : IntKind.i64.wrap ((n : Int) - 1) = (k : Int) := by rw [← g3]; exact IntWalk.i64_in _ (by omega))
    (try have W4 : IntKind.i64.wrap (F1 + z) = (k : Int) := by rw [← g3]; exact IntWalk.i64_in _ (by omega))
    (try clear g3)
    have hkI : (0 : Int) < (n : Int) := by have := HKn.out; omega
    go_enter Tryz.func30, Tryz.ntmps30
    go_wp2_with (first
      | (go_at_call 66; ((with_reducible refine (cP _ hb).mono ?_); rintro e w2 ⟨s, rfl, hown, hb1⟩; have hk := KW.out.trans (hb1.mono KW.out.size); clear KW; have KW := Lib.hid hk; clear hb; have hb := HX.out.trans (hk.mono HX.out.size); (try obtain ⟨_, p0, q0, _, _⟩ := P0.out.below hk); obtain ⟨_, z0, z1, g0, g1⟩ := P1.out.below hk; have HO := Lib.hid hown; obtain ⟨g, cap, rfl, hlc, hcm, hgl, hc⟩ := ownP_at hown (by rw [N.out]; have := HKn.out; omega); have HC := Lib.hid (hc 0 (by rw [N.out]; exact HKn.out)); rw [HXk.out] at HC; rw [N.out] at hlc; unfold maxLen at hcm; rw [N.out]; have KV := Lib.hid (Below.refl w2.heap.size w2); clear hown hc hk hb1 HO))
      | (go_at_call 22; ((with_reducible refine (cC _ hb).mono ?_); rintro e w1 ⟨rfl, hb1⟩; have hk := KW.out.trans (hb1.mono KW.out.size); clear KW; have KW := Lib.hid hk; clear hb; have hb := HX.out.trans (hk.mono HX.out.size); (try obtain ⟨_, p0, q0, _, _⟩ := P0.out.below hk); obtain ⟨_, z0, z1, g0, g1⟩ := P1.out.below hk; have hv := Lib.hid (KV.out.trans (hb1.mono KV.out.size)); clear KV; have KV := hv; clear hv hk hb1))
      | (go_at_call 26; ((with_reducible refine (cO _ hb).mono ?_); rintro e w1 ⟨rfl, hb1⟩; have hk := KW.out.trans (hb1.mono KW.out.size); clear KW; have KW := Lib.hid hk; clear hb; have hb := HX.out.trans (hk.mono HX.out.size); (try obtain ⟨_, p0, q0, _, _⟩ := P0.out.below hk); obtain ⟨_, z0, z1, g0, g1⟩ := P1.out.below hk; have hv := Lib.hid (KV.out.trans (hb1.mono KV.out.size)); clear KV; have KV := hv; obtain ⟨c0, c1⟩ := HC.out; have x0 := (KV.out.cell (p := ⟨g, _, none⟩) hgl).trans c0; have x1 := (KV.out.cell (p := ⟨g, _, none⟩) hgl).trans c1; (try dsimp only at x0 x1); (try simp only [Nat.zero_mul, Nat.zero_add] at x0 x1); clear hv hk hb1 c0 c1)))
    exact bodyPost_ret (v := .tuple #[.agg #[.int .i64 X1, .int .i64 X2], .bool false]) (by simp [results, Tryz.results30, go_sem, *]) rfl ⟨rfl, by repeat (first | (with_reducible exact hb) | (with_reducible exact hb.out) | (with_reducible refine Below.drew ?_) | (with_reducible refine Below.setCell ?_ ?_ _) | (with_reducible refine Below.alloc ?_ ?_ _) | exact Nat.le_refl _ | exact Nat.le_succ _ | omega | (simp; done) | (simp; omega))⟩
  · clear HC
    (try have W3 : IntKind.i64.wrap ((n : Int) - 1) = (k : Int) := by rw [← g3]; exact IntWalk.i64_in _ (by omega))
    (try have W4 : IntKind.i64.wrap (F1 + z) = (k : Int) := by rw [← g3]; exact IntWalk.i64_in _ (by omega))
    (try clear g3)
    have hkI : (k : Int) < (n : Int) := by have := HKn.out; omega
    go_enter Tryz.func30, Tryz.ntmps30
    go_wp2_with (first
      | (go_at_call 66; ((with_reducible refine (cP _ hb).mono ?_); rintro e w2 ⟨s, rfl, hown, hb1⟩; have hk := KW.out.trans (hb1.mono KW.out.size); clear KW; have KW := Lib.hid hk; clear hb; have hb := HX.out.trans (hk.mono HX.out.size); (try obtain ⟨_, p0, q0, _, _⟩ := P0.out.below hk); obtain ⟨_, z0, z1, g0, g1⟩ := P1.out.below hk; have HO := Lib.hid hown; obtain ⟨g, cap, rfl, hlc, hcm, hgl, hc⟩ := ownP_at hown (by rw [N.out]; have := HKn.out; omega); have HC := Lib.hid (hc k (by rw [N.out]; exact HKn.out)); rw [HXk.out] at HC; rw [N.out] at hlc; unfold maxLen at hcm; rw [N.out]; have KV := Lib.hid (Below.refl w2.heap.size w2); clear hown hc hk hb1 HO))
      | (go_at_call 22; ((with_reducible refine (cC _ hb).mono ?_); rintro e w1 ⟨rfl, hb1⟩; have hk := KW.out.trans (hb1.mono KW.out.size); clear KW; have KW := Lib.hid hk; clear hb; have hb := HX.out.trans (hk.mono HX.out.size); (try obtain ⟨_, p0, q0, _, _⟩ := P0.out.below hk); obtain ⟨_, z0, z1, g0, g1⟩ := P1.out.below hk; have hv := Lib.hid (KV.out.trans (hb1.mono KV.out.size)); clear KV; have KV := hv; clear hv hk hb1))
      | (go_at_call 26; ((with_reducible refine (cO _ hb).mono ?_); rintro e w1 ⟨rfl, hb1⟩; have hk := KW.out.trans (hb1.mono KW.out.size); clear KW; have KW := Lib.hid hk; clear hb; have hb := HX.out.trans (hk.mono HX.out.size); (try obtain ⟨_, p0, q0, _, _⟩ := P0.out.below hk); obtain ⟨_, z0, z1, g0, g1⟩ := P1.out.below hk; have hv := Lib.hid (KV.out.trans (hb1.mono KV.out.size)); clear KV; have KV := hv; obtain ⟨c0, c1⟩ := HC.out; have x0 := (KV.out.cell (p := ⟨g, _, none⟩) hgl).trans c0; have x1 := (KV.out.cell (p := ⟨g, _, none⟩) hgl).trans c1; (try dsimp only at x0 x1); (try simp only [Nat.zero_mul, Nat.zero_add] at x0 x1); clear hv hk hb1 c0 c1)))
    exact bodyPost_ret (v := .tuple #[.agg #[.int .i64 X1, .int .i64 X2], .bool false]) (by simp [results, Tryz.results30, go_sem, *]) rfl ⟨rfl, by repeat (first | (with_reducible exact hb) | (with_reducible exact hb.out) | (with_reducible refine Below.drew ?_) | (with_reducible refine Below.setCell ?_ ?_ _) | (with_reducible refine Below.alloc ?_ ?_ _) | exact Nat.le_refl _ | exact Nat.le_succ _ | omega | (simp; done) | (simp; omega))⟩
  · clear HC
    (try have W3 : IntKind.i64.wrap ((n : Int) - 1) = (k : Int) := by rw [← g3]; exact IntWalk.i64_in _ (by omega))
    (try have W4 : IntKind.i64.wrap (F1 + z) = (k : Int) := by rw [← g3]; exact IntWalk.i64_in _ (by omega))
    (try clear g3)
    have hkI : (k : Int) < (n : Int) := by have := HKn.out; omega
    go_enter Tryz.func30, Tryz.ntmps30
    go_wp2_with (first
      | (go_at_call 66; ((with_reducible refine (cP _ hb).mono ?_); rintro e w2 ⟨s, rfl, hown, hb1⟩; have hk := KW.out.trans (hb1.mono KW.out.size); clear KW; have KW := Lib.hid hk; clear hb; have hb := HX.out.trans (hk.mono HX.out.size); (try obtain ⟨_, p0, q0, _, _⟩ := P0.out.below hk); obtain ⟨_, z0, z1, g0, g1⟩ := P1.out.below hk; have HO := Lib.hid hown; obtain ⟨g, cap, rfl, hlc, hcm, hgl, hc⟩ := ownP_at hown (by rw [N.out]; have := HKn.out; omega); have HC := Lib.hid (hc k (by rw [N.out]; exact HKn.out)); rw [HXk.out] at HC; rw [N.out] at hlc; unfold maxLen at hcm; rw [N.out]; have KV := Lib.hid (Below.refl w2.heap.size w2); clear hown hc hk hb1 HO))
      | (go_at_call 22; ((with_reducible refine (cC _ hb).mono ?_); rintro e w1 ⟨rfl, hb1⟩; have hk := KW.out.trans (hb1.mono KW.out.size); clear KW; have KW := Lib.hid hk; clear hb; have hb := HX.out.trans (hk.mono HX.out.size); (try obtain ⟨_, p0, q0, _, _⟩ := P0.out.below hk); obtain ⟨_, z0, z1, g0, g1⟩ := P1.out.below hk; have hv := Lib.hid (KV.out.trans (hb1.mono KV.out.size)); clear KV; have KV := hv; clear hv hk hb1))
      | (go_at_call 26; ((with_reducible refine (cO _ hb).mono ?_); rintro e w1 ⟨rfl, hb1⟩; have hk := KW.out.trans (hb1.mono KW.out.size); clear KW; have KW := Lib.hid hk; clear hb; have hb := HX.out.trans (hk.mono HX.out.size); (try obtain ⟨_, p0, q0, _, _⟩ := P0.out.below hk); obtain ⟨_, z0, z1, g0, g1⟩ := P1.out.below hk; have hv := Lib.hid (KV.out.trans (hb1.mono KV.out.size)); clear KV; have KV := hv; obtain ⟨c0, c1⟩ := HC.out; have x0 := (KV.out.cell (p := ⟨g, _, none⟩) hgl).trans c0; have x1 := (KV.out.cell (p := ⟨g, _, none⟩) hgl).trans c1; (try dsimp only at x0 x1); (try simp only [Nat.zero_mul, Nat.zero_add] at x0 x1); clear hv hk hb1 c0 c1)))
    exact bodyPost_ret (v := .tuple #[.agg #[.int .i64 X1, .int .i64 X2], .bool true]) (by simp [results, Tryz.results30, go_sem, *]) rfl ⟨rfl, by repeat (first | (with_reducible exact hb) | (with_reducible exact hb.out) | (with_reducible refine Below.drew ?_) | (with_reducible refine Below.setCell ?_ ?_ _) | (with_reducible refine Below.alloc ?_ ?_ _) | exact Nat.le_refl _ | exact Nat.le_succ _ | omega | (simp; done) | (simp; omega))⟩

set_option maxHeartbeats 4000000 in
theorem rdmay_any (v : Value) (l : List Lw) (w : World) (h : DocAt w v l) (hf : Fine (pl l)) :
    Calls Tryz.prog 14 #[v] w fun e w' => e = .returned (.bool (mayD (pl l))) ∧ Below w.heap.size w w' := by
  obtain ⟨a, c, rfl⟩ := h.s.len
  have hl := hf.len
  have hs := hf.s
  have cS := rdsize_any _ l w h.s hl hf.s
  unfold mayD
  rw [← any_notMay, pl_length]
  obtain ⟨R, hR⟩ : ∃ R, l.any notMay = R := ⟨_, rfl⟩
  rw [hR]
  obtain ⟨S, hS⟩ : ∃ S, sizeD (pl l) = S := ⟨_, rfl⟩
  rw [hS] at cS hs ⊢
  have V := Lib.hid h
  have F := Lib.hid hf
  obtain ⟨n, hn⟩ : ∃ n, l.length = n := ⟨_, rfl⟩
  rw [hn] at cS hl V ⊢
  have N := Lib.hid hn
  have HR : Hid ((l.drop 0).any notMay = R) := Lib.hid hR
  clear h hf hn hS hR
  by_cases h0 : n = 0
  · subst h0
    rw [decide_eq_false (show ¬ (1 ≤ 0 ∧ 0 ≤ 200) by omega), Bool.false_and, Bool.false_and]
    go_enter Tryz.func14, Tryz.ntmps14
    go_wp2
    go_ret
    exact ⟨rfl, Below.refl _ _⟩
  have h0J : ¬ (n : Int) < 1 := by omega
  by_cases h1 : 200 < n
  · rw [decide_eq_false (show ¬ (1 ≤ n ∧ n ≤ 200) by omega), Bool.false_and, Bool.false_and]
    have h1I : (200 : Int) < n := by omega
    go_enter Tryz.func14, Tryz.ntmps14
    go_wp2
    go_ret
    exact ⟨rfl, Below.refl _ _⟩
  rw [decide_eq_true (show 1 ≤ n ∧ n ≤ 200 by omega), Bool.true_and]
  have h1I : ¬ (200 : Int) < n := by omega
  by_cases h2 : 4000 < S
  · rw [decide_eq_false (show ¬ (S ≤ 4000) by omega), Bool.false_and]
    have h2I : (4000 : Int) < S := by omega
    go_enter Tryz.func14, Tryz.ntmps14
    go_wp2_with (go_at_call 16; ((with_reducible refine cS.mono ?_); rintro e w2 ⟨rfl, hb⟩))
    go_ret
    exact ⟨rfl, hb⟩
  rw [decide_eq_true (show S ≤ 4000 by omega), Bool.true_and]
  have h2I : ¬ (4000 : Int) < S := by omega
  go_enter Tryz.func14, Tryz.ntmps14
  go_wp2_with (go_at_call 16; ((with_reducible refine cS.mono ?_); rintro e w2 ⟨rfl, hb0⟩))
  go_loopw [3] (fun i wr => ∃ k : Nat, k ≤ n ∧ i = .int .i64 k ∧ Hid ((l.drop k).any notMay = R) ∧ Below w.heap.size w wr) (fun i _ => n - (RowKit.intOf i).toNat)
  case atStart => exact ⟨0, Nat.zero_le _, rfl, HR, hb0⟩
  case round =>
    obtain ⟨k, hk, rfl, HK, hb⟩ := hrel
    by_cases hlt : k < n
    · have hkl : k < l.length := by rw [N.out]; exact hlt
      obtain ⟨b, o, c2, e, hlc, hcm, hbl, hcs⟩ := V.out.s.lies (by omega)
      rw [N.out] at e hlc
      obtain ⟨rfl, _, rfl⟩ := Value.slice.inj e
      unfold maxLen at hcm
      obtain ⟨q, za, n1, zc, kk, ra, n2, rc, x0, x1, x2, x3, hag⟩ := (hcs.below hbl hb).agg hkl
      have cF := rlmayA l[k]! wr ((V.out.n _ (mem_get hkl)).below hb) (F.out.at (mem_get hkl))
      rw [hag] at cF
      have hst := anyD_step (P := notMay) hkl
      rw [HK.out] at hst
      change _ = ((!mayS (l[k]!).ln) || _) at hst
      obtain ⟨M, hM⟩ : ∃ M, mayS (l[k]!).ln = M := ⟨_, rfl⟩
      rw [hM] at hst cF
      have HS := Lib.hid hst
      have hkI : (k : Int) < (n : Int) := by omega
      have hbw : b < wr.heap.size := Nat.lt_of_lt_of_le hbl hb.size
      clear hst HK hcs e hkl hM hag hb0
      cases M with
      | false =>
        go_wp2_with (go_at_call 63; ((with_reducible refine cF.mono ?_); rintro e w2 ⟨rfl, hb3⟩))
        go_ret
        exact ⟨ret_bool (by rw [HS.out]; simp), hb.trans (hb3.mono hb.size)⟩
      | true =>
        go_wp2_with (go_at_call 63; ((with_reducible refine cF.mono ?_); rintro e w2 ⟨rfl, hb3⟩))
        go_roundw
        case rel => exact ⟨k + 1, hlt, by go_num, Lib.hid (by rw [HS.out]; simp), hb.trans (hb3.mono hb.size)⟩
        case measure => simp [RowKit.intOf]; omega
    · have hkn : k = n := by omega
      subst hkn
      have hR2 : R = false := by rw [← HK.out, List.drop_eq_nil_of_le (by rw [N.out]; omega)]; rfl
      have HR2 := Lib.hid hR2
      clear hR2 hb0
      go_wp2
      go_ret
      exact ⟨ret_bool (by rw [HR2.out]; rfl), hb⟩

end Go.Proofs.YtafincmcmgedbaaGreatDoor
