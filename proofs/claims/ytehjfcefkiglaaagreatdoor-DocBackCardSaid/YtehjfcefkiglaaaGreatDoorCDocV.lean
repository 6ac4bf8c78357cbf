/-
  The document's Places: a slice of places, one's own.
-/
import Derived.Test.YtehjfcefkiglaaaGreatDoorCAppG
import Derived.Test.YtehjfcefkiglaaaGreatDoorCDocU
import Derived.Test.YtehjfcefkiglaaaGreatDoorCLMay
import Derived.Test.YtehjfcefkiglaaaGreatDoorCDocO

namespace Go.Proofs.YtehjfcefkiglaaaGreatDoor
open Go.RowKit Go.Lib

def cellsP (l : List Ps) : List Value := l.flatMap fun p => [.int .i64 p.1, .int .i64 p.2]
theorem cellsP_length : ∀ l : List Ps, (cellsP l).length = l.length * 2
  | [] => rfl
  | a :: l => by
    have := cellsP_length l
    show ([Value.int .i64 a.1, Value.int .i64 a.2] ++ cellsP l).length = _
    rw [List.length_append, this]
    simp; omega
theorem cellsP_append (l m : List Ps) : cellsP (l ++ m) = cellsP l ++ cellsP m := by unfold cellsP; rw [List.flatMap_append]
theorem cellsP_at : ∀ (l : List Ps) (j : Nat), j < l.length → (cellsP l)[j * 2]? = some (.int .i64 (l[j]!).1) ∧ (cellsP l)[j * 2 + 1]? = some (.int .i64 (l[j]!).2)
  | [], j, h => by simp at h
  | a :: l, 0, _ => ⟨rfl, rfl⟩
  | a :: l, j + 1, h => by
    have ih := cellsP_at l j (by simpa using h)
    have e : cellsP (a :: l) = .int .i64 a.1 :: .int .i64 a.2 :: cellsP l := rfl
    have e1 : (j + 1) * 2 = j * 2 + 1 + 1 := by omega
    rw [e, e1]
    simpa using ih
theorem cellsP_one (l : List Ps) : ∀ u ∈ cellsP l, u.oneCell' = true := by
  intro u hu
  unfold cellsP at hu
  rw [List.mem_flatMap] at hu
  obtain ⟨a, _, ha⟩ := hu
  simp only [List.mem_cons, List.not_mem_nil, or_false] at ha
  rcases ha with rfl | rfl <;> rfl
theorem infoPos : (Tryz.prog.info? 24).map (fun i => (i.zero, i.size, i.bytes)) = some (some (.agg #[.int .i64 0, .int .i64 0]), 2, 16) := by kernel_rfl

theorem own_appP {w : World} {B : Nat} {v : Value} {l m : List Ps} {n k : Nat} (h : w.ownsRow B 24 2 v (n + k) (cellsP l ++ cellsP m)) (hn : l.length = n) (hk : m.length = k) : w.ownsRow B 24 2 v (l ++ m).length (cellsP (l ++ m)) := by
  subst hn hk
  rw [List.length_append, cellsP_append]
  exact h

theorem wpList_append_pos {ops : Array Oper} {rest : List Oper} {o : Oper} {a : Act} {Q : Exit → Act → World → Prop} {w : World} (hgd : o.guard = none) (s x : Operand)
    (ho : o.op = .call { callee := .builtin .append, args := #[s, x], argTypes := #[73, 73] })
    (base : Nat) (v : Value) (l : List Ps) (hs : a.eval s = v) (hown : w.ownsRow base 24 2 v l.length (cellsP l)) (g0 : Nat) (p q : Int) (hx : a.eval x = .slice (some ⟨g0, 0, none⟩) 1 1)
    (c0 : w.cell? ⟨g0, 0, none⟩ = some (.int .i64 p)) (c1 : w.cell? ⟨g0, 1, none⟩ = some (.int .i64 q))
    (hb : l.length ≤ 3000000) (hbase : base ≤ w.heap.size)
    (h : ∀ v' w', w'.ownsRow base 24 2 v' (l ++ [(p, q)]).length (cellsP (l ++ [(p, q)])) → w.grownBy w' v.ownBlock → wpList Tryz.prog ops Q rest (a.put o.dst v') w') : wpList Tryz.prog ops Q (o :: rest) a w := by
  obtain ⟨i0, hi, hz0, hz1, hz2⟩ := info_parts infoPos
  refine wpList_append_own _ hgd s x 73 ho base 24 i0 _ 2 16 Tryz.underlying73 hi hz0 hz1 hz2 rfl (by decide) v _ _ hs hown ⟨g0, 0, none⟩ 1 1 (cellsP [(p, q)]) hx rfl ?_ (cellsP_one [(p, q)]) (by unfold maxLen; omega) (by omega) hbase (fun v' w' h1 h2 _ => h v' w' (own_appP h1 rfl rfl) h2)
  intro j u hu
  rw [Addr.add_lit, Nat.zero_add]
  match j with
  | 0 => simp [cellsP] at hu; rw [← hu]; exact c0
  | 1 => simp [cellsP] at hu; rw [← hu]; exact c1
  | j + 2 => simp [cellsP] at hu

/-- The places ahead of one. -/
def preP (d : Doc) (r k : Nat) : List Ps := placesL (d.take r) 0 ++ (List.range k).map (fun j : Nat => ((r : Int), (j : Int)))
theorem preP_succ (d : Doc) (r k : Nat) : preP d r (k + 1) = preP d r k ++ [((r : Int), (k : Int))] := by
  unfold preP
  rw [List.range_succ, List.map_append, List.append_assoc]
  rfl
theorem placesL_append : ∀ (d e : Doc) (i : Nat), placesL (d ++ e) i = placesL d i ++ placesL e (i + d.length)
  | [], e, i => by simp [placesL]
  | x :: d, e, i => by
    have ih := placesL_append d e (i + 1)
    rw [List.cons_append]
    unfold placesL
    rw [ih, List.append_assoc, List.length_cons, show i + 1 + d.length = i + (d.length + 1) by omega]
    cases e <;> rfl
theorem preP_line {d : Doc} {r : Nat} (h : r < d.length) : preP d (r + 1) 0 = preP d r (cnt d r + 1) := by
  unfold preP
  have e : d.take (r + 1) = d.take r ++ [d[r]!] := by
    rw [List.take_succ_eq_append_getElem h]; congr 2; rw [List.getElem!_eq_getElem?_getD, List.getElem?_eq_getElem h]; rfl
  rw [e, placesL_append, List.length_take, Nat.min_eq_left (by omega), Nat.zero_add]
  simp [placesL, cnt]
theorem preP_all (d : Doc) : preP d d.length 0 = places d := by
  unfold preP places
  rw [List.take_length]
  simp
theorem preP_length (d : Doc) (r k : Nat) (h : r ≤ d.length) : (preP d r k).length ≤ sizeD d + r + k := by
  unfold preP
  rw [List.length_append, placesL_length, List.length_map, List.length_range, List.length_take, Nat.min_eq_left h]
  have := sizeD_take_le d r
  omega

set_option maxRecDepth 20000 in
set_option maxHeartbeats 8000000 in
theorem places_any (v : Value) (l : List Lw) (w : World) (h : SliceAt w v l) (hf : Fine (pl l)) :
    Calls Tryz.prog 66 #[v] w fun e w' => ∃ s, e = .returned s ∧ w'.ownsRow w.heap.size 24 2 s (places (pl l)).length (cellsP (places (pl l))) ∧ Below w.heap.size w w' := by
  obtain ⟨a, c, rfl⟩ := h.len
  have hl := hf.len
  have V := Lib.hid h
  have F := Lib.hid hf
  obtain ⟨n, hn⟩ : ∃ n, l.length = n := ⟨_, rfl⟩
  rw [hn] at hl V ⊢
  have N := Lib.hid hn
  clear h hf hn
  go_enter Tryz.func66, Tryz.ntmps66
  go_wp2
  go_loopw [3, 4, 5] (fun s i _ wr => ∃ (r : Nat) (m : List Ps), r ≤ n ∧ i = .int .i64 r ∧ Hid (m = preP (pl l) r 0) ∧ Hid (wr.ownsRow w.heap.size 24 2 s m.length (cellsP m)) ∧ Below w.heap.size w wr) (fun _ i _ _ => n - (RowKit.intOf i).toNat)
  case atStart => exact ⟨0, [], Nat.zero_le _, rfl, Lib.hid rfl, Lib.hid (World.ownsRow_nil _ _ _ _), Below.refl _ _⟩
  case round =>
    obtain ⟨r, m0, hr, rfl, HM0, HO0, hb0⟩ := hrel
    by_cases hlt : r < n
    · have hkl : r < l.length := by rw [N.out]; exact hlt
      obtain ⟨b, o, rfl, e9, hlc, hcm, hbl, q, za, n1, zc, kk, ra, rc, u0, u1, u2, u3⟩ := slice_lies_cnt V.out hkl
      unfold maxLen at hcm
      have hck := F.out.cnt r hkl
      have HL : Hid (∀ j, j ≤ cnt (pl l) r + 1 → (preP (pl l) r j).length ≤ 3000000) := Lib.hid (fun j hj => by
        have h1 := preP_length (pl l) r j (by rw [pl_length]; omega)
        have h2 := F.out.s
        omega)
      have HNX : Hid (preP (pl l) (r + 1) 0 = preP (pl l) r (cnt (pl l) r + 1)) := Lib.hid (preP_line (by rw [pl_length]; exact hkl))
      obtain ⟨C, hC⟩ : ∃ C, cnt (pl l) r = C := ⟨_, rfl⟩
      rw [hC] at hck HL HNX u3
      have U0 := Lib.hid u0
      have U1 := Lib.hid u1
      have U2 := Lib.hid u2
      have U3 := Lib.hid u3
      have hrI : (r : Int) < (n : Int) := by omega
      clear hC hkl u0 u1 u2 u3 e9
      go_wp2
      go_loopw [3, 5] (fun s i wr => ∃ (j : Nat) (m : List Ps), j ≤ C + 1 ∧ i = .int .i64 j ∧ Hid (m = preP (pl l) r j) ∧ Hid (wr.ownsRow w.heap.size 24 2 s m.length (cellsP m)) ∧ Below w.heap.size w wr) (fun _ i _ => C + 1 - (RowKit.intOf i).toNat)
      case atStart => exact ⟨0, m0, Nat.zero_le _, rfl, HM0, HO0, hb0⟩
      case round =>
        obtain ⟨j, m, hj, rfl, HM, HO, hb⟩ := hrel
        obtain ⟨u, cap, rfl⟩ := own_len HO.out
        have x3 := (hb.cell (p := ⟨b, o + r * 4 + 3, none⟩) hbl).trans U3.out
        have hbw : b < wr.heap.size := Nat.lt_of_lt_of_le hbl hb.size
        have hws := hb.size
        clear hb0 HM0 HO0
        by_cases hjl : j ≤ C
        · have hjI : (j : Int) ≤ (C : Int) := by omega
          have hml : m.length ≤ 3000000 := by rw [HM.out]; exact HL.out j (by omega)
          obtain ⟨ml, hmle⟩ : ∃ ml, m.length = ml := ⟨_, rfl⟩
          rw [hmle] at HO hml ⊢
          have ML := Lib.hid hmle
          clear hmle
          go_wp2_with (at_builtin; refine wpList_append_pos rfl _ _ rfl w.heap.size (.slice u ml cap) m rfl (by rw [ML.out]; exact ownsRow_below HO.out (below_alloc1 wr _)) wr.heap.size (r : Int) (j : Int) rfl (by simp [go_sem]) (by simp [go_sem]) (by rw [ML.out]; exact hml) (by simp; omega) ?_; intro s' w4 hown hgrow)
          go_roundw
          case rel => exact ⟨j + 1, m ++ [((r : Int), (j : Int))], by omega, by go_num, Lib.hid (by rw [preP_succ, HM.out]), Lib.hid hown, (hb.alloc hws _).grown hgrow (by simp; omega) (fun g e => (HO.out.lt g e).1)⟩
          case measure => simp [RowKit.intOf]; omega
        · have hje : j = C + 1 := by omega
          subst hje
          have hjI : ¬ ((C + 1 : Nat) : Int) ≤ (C : Int) := by omega
          have hjJ : (C : Int) < ((C + 1 : Nat) : Int) := by omega
          have HZ : Hid (m = preP (pl l) (r + 1) 0) := Lib.hid (by rw [HNX.out, HM.out])
          clear HM
          go_wp2
          go_roundw
          case rel => exact ⟨r + 1, m, hlt, by go_num, HZ, HO, hb⟩
          case measure => simp [RowKit.intOf]; omega
    · have hkn : r = n := by omega
      subst hkn
      have HP : Hid (m0 = places (pl l)) := Lib.hid (by rw [HM0.out, ← preP_all, pl_length, N.out])
      clear HM0
      go_wp2
      go_ret
      exact ⟨_, rfl, by rw [← HP.out]; exact HO0.out, hb0⟩

end Go.Proofs.YtehjfcefkiglaaaGreatDoor
