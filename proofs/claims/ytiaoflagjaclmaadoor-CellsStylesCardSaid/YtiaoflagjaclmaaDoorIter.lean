/-
  The program's iterator over runs; Runs.
-/
import Derived.Test.YtiaoflagjaclmaaDoorRange
import Derived.Test.YtiaoflagjaclmaaDoorRuns
import Derived.Shelf.Abstract
import Derived.Shelf.RegionOpen
import Derived.OwnWalkIn
import Derived.OwnWalk
import Derived.TacticsInMore
import Derived.LoopNIn
import Derived.LoopIn
import Derived.Sort.LoopGhostIn
import Derived.Laws.EntriesVeiled
import Derived.Deep.AppendLies
import Derived.Deep.Onto
namespace Go.Proofs.YtiaoflagjaclmaaDoor
open Go.RowKit Go.Lib Go.Shelf
attribute [local go_sem] Oper.semAt_some

def runV (r : Rn) : Array Value := #[.agg #[.int .i64 r.1, .int .i64 r.2.1, .int .i64 r.2.2.1, .string r.2.2.2.1, .int .i64 r.2.2.2.2]]
theorem runFrom_out (v : Value) (l : Row) (k : Nat) (w : World) (hv : RowAt w v l) (hk : k < l.length) (hl : l.length ≤ 100000) (r : Rn) (hr : runR l k = r) :
    Calls Tryd.prog 55 #[v, .int .i64 (k : Int)] w fun e w' => e = .returned (.agg #[.int .i64 r.1, .int .i64 r.2.1, .int .i64 r.2.2.1, .string r.2.2.2.1, .int .i64 r.2.2.2.2]) ∧ Below w.heap.size w w' := by
  subst hr
  exact runFrom_any v l k w hv hk hl

theorem blk_at (w : World) (cs : Array Value) (t : TypeId) (j : Nat) (v : Value) (h : cs[j]? = some v) : (w.alloc (.cells cs t)).cell? ⟨w.heap.size, j, none⟩ = some v ∧ (w.alloc (.cells cs t)).frozen? ⟨w.heap.size, j, none⟩ = false ∧ (w.alloc (.cells cs t)).heap.size = w.heap.size + 1 := by
  have h0 : (w.alloc (.cells cs t)).heap[w.heap.size]? = some (.cells cs t) := World.alloc_heap_new w _
  exact ⟨cell_blk h0 j v h, frozen_of_row _ _ j _ _ h0, World.size_alloc _ _⟩

set_option maxHeartbeats 8000000 in
theorem runs_goes (B : Nat) (a : Option Addr) (c : Nat) (l : Row) (hl : l.length ≤ 100000) (Kg : World → Prop) (hKv : ∀ W, Kg W → RowAt W (.slice a l.length c) l) (w : World) (hB : w.heap.size = B + 1) (h1 : w.cell? ⟨B, 0, none⟩ = some (.slice a l.length c)) :
    Goes Tryd.prog 54 #[.pointer (some ⟨B, 0, none⟩)] runV (fun xs => xs = runsR l 0) (fun pre x => pre ++ [x] <+: runsR l 0) Kg B w := fun y J W hW hJ hK hJl hY h0 => by
  replace h1 := (hW.cell (p := ⟨B, 0, none⟩) (by simp; omega)).trans h1
  have hWs := hW.size
  rw [hB] at hWs
  have hrow := fun s row W1 h => hKv W1 (hK s row W1 h)
  obtain ⟨n, hn⟩ : ∃ n, l.length = n := ⟨_, rfl⟩
  rw [hn] at h1 hl
  have N := Lib.hid hn
  refine callsIn_of_wp Tryd.func54 rfl trivial ?_ rfl
  simp only [Tryd.ntmps54, List.size_toArray, List.length_cons, List.length_nil, Nat.reduceAdd, Nat.reduceSub, Array.replicate_succ, Array.replicate_zero, List.push_toArray, List.append_toArray, List.nil_append, List.cons_append]
  gi_wp2
  gi_loopg [3] n (fun gk s3 wx => ∃ (k : Nat) (pre : List Rn) (row : Option Nat), s3 = .int .i64 k ∧ k ≤ n ∧ n ≤ k + gk ∧ Hid (runsR l 0 = pre ++ runsR l k) ∧ Hid (J pre row wx) ∧ W.heap.size ≤ wx.heap.size ∧ wx.cell? ⟨B, 0, none⟩ = some (.slice a n c))
  case atStart => exact ⟨0, [], none, rfl, Nat.zero_le _, by omega, Lib.hid rfl, Lib.hid h0, Nat.le_refl _, h1⟩
  case round =>
    obtain ⟨k, pre, row, rfl, hkn, hgk, HR, hj, hsz, c1⟩ := hrel
    by_cases hlt : k < n
    · have hkl : k < l.length := by rw [N.out]; exact hlt
      have hst := HR.out
      rw [runsR_step hkl] at hst
      have hle := stopN_le hkl
      obtain ⟨r, hr⟩ : ∃ r, runR l k = r := ⟨_, rfl⟩
      have hrf := runFrom_out _ l k wr (hrow pre row wr hj.out) hkl (by omega) r hr
      rw [N.out] at hrf
      have hr2 : r.2.1 = ((stopN l k : Nat) : Int) := by rw [← hr]; rfl
      rw [hr] at hst
      obtain ⟨m, hm⟩ : ∃ m, stopN l k = m := ⟨_, rfl⟩
      rw [hm] at hr2 hst hle
      obtain ⟨r1, r2, r3, r4, r5⟩ := r
      dsimp only at hr2 hrf
      subst hr2
      have hkI : (k : Int) < (n : Int) := by omega
      have HS := Lib.hid hst
      have hBw : B < wr.heap.size := by omega
      have hrw : ∀ i, row = some i → i < wr.heap.size ∧ W.heap.size ≤ i := fun i e => hJl pre row wr hj.out i e
      have hr1 : r1 = (k : Int) := by have := congrArg (·.1) hr; exact this.symm
      subst hr1
      have hyy := fun W1 (hb : Below wr.heap.size wr W1) => hY pre ((k : Int), (m : Int), r3, r4, r5) row W1 (Nat.le_trans hsz hb.size) (hJ _ _ _ _ hj.out hb) (by rw [hst]; exact ⟨runsR l m, by simp⟩)
      have hN2 : m ≤ n := by have := N.out; omega
      clear hst hr hm HR
      gi_wp2_with (refine ⟨trivial, ?_⟩; gi_at_call 55; refine (callsIn_wide.2 hrf).mono ?_; rintro e w1 ⟨rfl, hb1⟩; obtain ⟨fn, tmps, assign, body, hy, hR⟩ := yield_any (m' := 8) (hyy _ (hb1.alloc hb1.size (.cells #[.int .i64 (k : Int), .int .i64 (m : Int), .int .i64 r3, .string r4, .int .i64 r5] 46))); dsimp only [runV] at hy)
      have hbz := hb1.alloc hb1.size (.cells #[.int .i64 (k : Int), .int .i64 (m : Int), .int .i64 r3, .string r4, .int .i64 r5] 46)
      have hz1 := hb1.size
      obtain ⟨t0, t1, t2⟩ := blk_at w1 #[.int .i64 (k : Int), .int .i64 (m : Int), .int .i64 r3, .string r4, .int .i64 r5] 46 1 (.int .i64 (m : Int)) rfl
      have c2 := (hbz.cell (p := ⟨B, 0, none⟩) hBw).trans c1
      refine hR.mono ?_
      rintro e W3 ⟨rfl, row', hJ3, hk3⟩
      have d1 := hk3.cell (p := ⟨B, 0, none⟩) (Nat.le_refl _) (fun e => by have := hrw B e; omega) c2
      have d2 := hk3.cell (p := ⟨w1.heap.size, 1, none⟩) (show B ≤ w1.heap.size by omega) (fun e => by have := hrw w1.heap.size e; omega) t0
      have hsz3 := hk3.size
      rw [t2] at hsz3
      have HJ3 := Lib.hid hJ3
      clear hJ3 hk3 hbz c2 t0 t1
      gi_wp2
      gi_roundg (gk - 1)
      case measure => omega
      case rel => exact ⟨m, pre ++ [((k : Int), (m : Int), r3, r4, r5)], row', rfl, hN2, by omega, Lib.hid (by rw [HS.out]; simp), HJ3, by omega, d1⟩
    · have hkn2 : k = n := by omega
      subst hkn2
      have hl2 : runsR l 0 = pre := by rw [HR.out, runsR_end (by rw [N.out]; omega), List.append_nil]
      have HL := Lib.hid hl2
      clear hl2 HR
      gi_wp2
      go_end0
      exact ⟨⟨_, rfl⟩, _, row, HL.out.symm, hj.out⟩

theorem runs_any (a : Option Addr) (n c : Nat) (w : World) :
    Calls Tryd.prog 44 #[.slice a n c] w fun e w' =>
      e = .returned (.func (.func 54) #[] #[.pointer (some ⟨w.heap.size, 0, none⟩)]) ∧ w'.heap.size = w.heap.size + 1 ∧ Below w.heap.size w w' ∧ w'.cell? ⟨w.heap.size, 0, none⟩ = some (.slice a n c) := by
  go_enter Tryd.func44, Tryd.ntmps44
  go_wp2
  go_ret
  exact ⟨rfl, by simp, (Below.refl _ w).alloc (Nat.le_refl _) _, by simp⟩

/-! ### Runs -/
def cellsN (l : List Rn) : List Value := l.flatMap encN
theorem cellsN_length : ∀ l : List Rn, (cellsN l).length = l.length * 5
  | [] => rfl
  | a :: l => by
    have := cellsN_length l
    show (encN a ++ cellsN l).length = _
    rw [List.length_append, this]
    simp [encN]; omega
theorem cellsN_snoc (l : List Rn) (x : Rn) : cellsN (l ++ [x]) = cellsN l ++ encN x := by unfold cellsN; rw [List.flatMap_append]; simp
theorem infoRun : (Tryd.prog.info? 46).map (fun i => (i.zero, i.size, i.bytes)) = some (some (.agg #[.int .i64 0, .int .i64 0, .int .i64 0, .string ⟨#[]⟩, .int .i64 0]), 5, 48) := by kernel_rfl
def RunsPost (l : List Rn) (w : World) (e : Ending) (w' : World) : Prop := ∃ v, e = .returned v ∧ w'.ownsRow w.heap.size 46 5 v l.length (cellsN l) ∧ Below w.heap.size w w'

theorem wpListIn_append_lies {F : Fence} {nF : Nat} {P : Program} (w : World) {ops : Array Oper} {rest : List Oper} {o : Oper} {a : Act} {Q : Exit → Act → World → Prop} (hgd : o.guard = none) (s x : Operand) (t : TypeId)
    (ho : o.op = .call { callee := .builtin .append, args := #[s, x], argTypes := #[t, t] })
    (base : Nat) (e : TypeId) (i : TypeInfo) (z : Value) (size bytes : Nat) (ht : P.underlying t = some (.slice e)) (hi : P.info? e = some i) (hz : i.zero = some z)
    (hsize : i.size = size) (hby : i.bytes = bytes) (hzs : z.cells.size = size) (hsz : 0 < size)
    (v : Value) (n : Nat) (xs : List Value) (hs : a.eval s = v) (hown : w.ownsRow base e size v n xs)
    (ad : Addr) (m c : Nat) (news : List Value) (hx : a.eval x = .slice (some ad) m c) (hl : news.length = m * size) (hnews : ∀ j u, news[j]? = some u → w.cell? (ad.add j) = some u) (h1 : ∀ u ∈ news, u.oneCell' = true)
    (hm : 0 < m) (h63 : n + m ≤ maxLen) (hbytes : (n + m) * bytes ≤ 140737488355328) (hbase : base ≤ w.heap.size) (H : Nat) (hH : w.heap.size = H)
    (h : ∀ g cap w', w'.ownsRow base e size (.slice (some ⟨g, 0, none⟩) (n + m) cap) (n + m) (xs ++ news) → w.grownBy w' v.ownBlock → (v.ownBlock = some g ∨ g = H) → g < w'.heap.size → wpListIn F nF P ops Q rest (a.put o.dst (.slice (some ⟨g, 0, none⟩) (n + m) cap)) w') :
    wpListIn F nF P ops Q (o :: rest) a w := by
  refine wpListIn_plain hgd fun K hK => ?_
  obtain ⟨g, cap, w', hr, h2, h3, h4, h5⟩ := run_append_lies (P := P) (w := w) t o.type base e i z size bytes ht hi hz hsize hby hzs hsz v n xs hown ad m c news hl hnews h1 hm h63 hbytes hbase H hH
  unfold Oper.wpIn
  refine ⟨by simp [Oper.about, ho, resolve, Target.leads, Sem.run_pure], ?_⟩
  rw [Oper.semAt_plain F _ _ (by rw [ho]; intro c hc'; cases hc')]
  simp [execOp, ho, resolve, invoke, builtin, hs, hx, hr, Result.andThen]
  exact hK _ _ (h g cap w' h2 h3 h4 h5)

theorem row_new (w : World) (o : Obj) (cs : Array Value) (t : TypeId) : ∀ j u, cs.toList[j]? = some u → ((w.alloc o).alloc (.cells cs t)).cell? ((⟨w.heap.size + 1, 0, none⟩ : Addr).add j) = some u := by
  intro j u h
  have h0 : ((w.alloc o).alloc (.cells cs t)).heap[w.heap.size + 1]? = some (.cells cs t) := by
    have := World.alloc_heap_new (w.alloc o) (.cells cs t)
    rwa [World.size_alloc] at this
  rw [Addr.add_lit, Nat.zero_add]
  exact cell_blk h0 j u (by rw [← Array.getElem?_toList]; exact h)

theorem run_new (w : World) (r : Rn) (t : TypeId) : ∀ j u, (encN r)[j]? = some u → (w.alloc (.cells #[.int .i64 r.1, .int .i64 r.2.1, .int .i64 r.2.2.1, .string r.2.2.2.1, .int .i64 r.2.2.2.2] t)).cell? ((⟨w.heap.size, 0, none⟩ : Addr).add j) = some u := by
  intro j u h
  have h0 := World.alloc_heap_new w (.cells #[.int .i64 r.1, .int .i64 r.2.1, .int .i64 r.2.2.1, .string r.2.2.2.1, .int .i64 r.2.2.2.2] t)
  rw [Addr.add_lit, Nat.zero_add]
  exact cell_blk h0 j u (by rw [← Array.getElem?_toList]; exact h)
theorem old_cell' {w : World} (o : Obj) {p : Addr} {v : Value} (h : w.cell? p = some v) : (w.alloc o).cell? p = some v :=
  (((Below.refl _ w).alloc (Nat.le_refl _) o).cell (lt_of_cell' h)).trans h
theorem old_frozen' {w : World} (o : Obj) {p : Addr} {v : Value} (h : w.cell? p = some v) (hf : w.frozen? p = false) : (w.alloc o).frozen? p = false :=
  (((Below.refl _ w).alloc (Nat.le_refl _) o).frozen (lt_of_cell' h)).trans hf

/-- What holds between two rounds: the variable, the row that it names. -/
def Gathered (w : World) (s : List Rn) (row : Option Nat) (V : World) : Prop :=
  ∃ v, V.cell? ⟨w.heap.size, 0, none⟩ = some v ∧ V.frozen? ⟨w.heap.size, 0, none⟩ = false ∧ V.ownsRow (w.heap.size + 2) 46 5 v s.length (cellsN s) ∧ v.ownBlock = row ∧ Below w.heap.size w V ∧ s.length ≤ 100000
theorem gathered_bides (w : World) : Bides (w.heap.size + 1) (Gathered w) := by
  rintro s row W W' rr ⟨v, c1, f1, own, hb, hbl, hs⟩ hg hr
  have hlt := lt_of_cell' c1
  have hne : some w.heap.size ≠ rr := fun e => by have := (hr _ e.symm).1; omega
  refine ⟨v, ?_, ?_, own.kept hg ?_, hb, hbl.grown hg hbl.size (fun k e => by have := (hr k e).1; omega), hs⟩
  · rw [World.cell?_of_block (hg.block _ hlt hne)]; exact c1
  · rw [World.frozen?_of_block (hg.block _ hlt hne)]; exact f1
  · rw [hb]
    cases rr with
    | none => cases row with
      | none => exact .inl rfl
      | some r => exact .inr (by simp)
    | some r => exact .inr (hr r rfl).2

set_option maxHeartbeats 8000000 in
theorem Runs_any (v : Value) (l : Row) (w : World) (hv : RowAt w v l) (hl : l.length ≤ 50000) :
    Calls Tryd.prog 25 #[v] w (RunsPost (runsR l 0) w) := by
  obtain ⟨i0, hi, ze, zs, zb⟩ := info_parts infoRun
  obtain ⟨a, c, rfl⟩ := hv.len
  have V0 := Lib.hid hv
  have hrl := runsR_length l 0
  have hru := fun w => runs_any a l.length c w
  refine (callsIn_wide (n := 9)).1 ?_
  refine callsIn_of_wp_marks Tryd.func25 rfl trivial ?_ rfl
  simp only [Tryd.ntmps25, List.size_toArray, List.length_cons, List.length_nil, Nat.reduceAdd, Nat.reduceSub, Array.replicate_succ, Array.replicate_zero, List.push_toArray, List.append_toArray, List.nil_append, List.cons_append]
  gi_wp2_with (refine ⟨trivial, ?_⟩; gi_at_call 44; refine (callsIn_wide.2 (hru _)).mono ?_; rintro e w1 ⟨rfl, hz1, hb1, c1⟩)
  rw [World.size_alloc] at hz1 hb1 c1
  have ba := (Below.refl w.heap.size w).alloc (Nat.le_refl _) (.cells #[.slice none 0 0] 40)
  have hb0 : Below w.heap.size w w1 := ba.trans (hb1.mono (by omega))
  obtain ⟨t1, t2, _⟩ := blk_at w #[.slice none 0 0] 40 0 (.slice none 0 0) rfl
  have y1 := (hb1.cell (p := ⟨w.heap.size, 0, none⟩) (show w.heap.size < w.heap.size + 1 by omega)).trans t1
  have y2 := (hb1.frozen (p := ⟨w.heap.size, 0, none⟩) (show w.heap.size < w.heap.size + 1 by omega)).trans t2
  have hgo := runs_goes (w.heap.size + 1) a c l (by omega) (fun W => Below w.heap.size w W) (fun W h => V0.out.below h) w1 hz1 c1
  clear t1 t2 hv hru c1 ba hb1
  refine range_goes (gf := 54) rfl (enters_of Tryd.func54 (by kernel_rfl) rfl)
    hgo (by omega) (Below.refl _ _) (fun _ => rfl) (Gathered w) (gathered_bides w) ?lt (fun s row W h => by obtain ⟨v, _, _, _, _, hb, _⟩ := h; exact hb)
    ⟨.slice none 0 0, y1, y2, World.ownsRow_nil _ _ _ _, rfl, hb0, Nat.zero_le _⟩
    (fun r W => { tmps := #[.slice a l.length c, undef, .slice none 0 0, .pointer (some ⟨w.heap.size, 0, none⟩), .pointer (some ⟨W.heap.size, 0, none⟩), .slice a l.length c, .func (.func 54) #[] #[.pointer (some ⟨w.heap.size + 1, 0, none⟩)], .agg #[.int .i64 r.1, .int .i64 r.2.1, .int .i64 r.2.2.1, .string r.2.2.2.1, .int .i64 r.2.2.2.2], undef, undef, undef, undef, undef], defers := [] })
    (fun r W => W.alloc (.cells #[.int .i64 r.1, .int .i64 r.2.1, .int .i64 r.2.2.1, .string r.2.2.2.1, .int .i64 r.2.2.2.2] 46)) (fun r W => (Below.refl _ W).alloc (Nat.le_refl _) _) ?assign ?body ?done
  case lt =>
    rintro s row W ⟨v, _, _, own, rfl, _⟩ r e
    exact (own.lt r e).2
  case assign =>
    intro l x V K hK
    dsimp only [runV]
    gi_wp2
    exact hK
  case body =>
    rintro l₂ pre ⟨r1, r2, r3, r4, r5⟩ row W V hsz hVs hVk ⟨v, c1, f1, own, hbl, hb, hlen⟩ hT
    have hle := hT.length_le
    rw [List.length_append, List.length_singleton] at hle
    dsimp only at hVk
    have hVW := (hVk W.heap.size (Nat.le_refl _)).trans (World.alloc_heap_new W _)
    rw [World.size_alloc] at hVs
    have z0 : V.cell? ⟨W.heap.size, 0, none⟩ = some (.int .i64 r1) := cell_blk hVW 0 _ rfl
    have z1 : V.cell? ⟨W.heap.size, 1, none⟩ = some (.int .i64 r2) := cell_blk hVW 1 _ rfl
    have z2 : V.cell? ⟨W.heap.size, 2, none⟩ = some (.int .i64 r3) := cell_blk hVW 2 _ rfl
    have z3 : V.cell? ⟨W.heap.size, 3, none⟩ = some (.string r4) := cell_blk hVW 3 _ rfl
    have z4 : V.cell? ⟨W.heap.size, 4, none⟩ = some (.int .i64 r5) := cell_blk hVW 4 _ rfl
    have hAlt := lt_of_cell' c1
    replace hAlt : w.heap.size < V.heap.size := hAlt
    have HV := Lib.hid hVs
    have HW := Lib.hid hVW
    have HK := Lib.hid hVk
    have HL := Lib.hid hbl
    clear hVs hVW hVk hT hbl
    have hfar : ∀ k, k < w.heap.size + 2 → some k ≠ v.ownBlock := fun k hk e => by have := own.lt k e.symm; omega
    have hAA : w.heap.size < (V.alloc (.cells #[.int .i64 r1, .int .i64 r2, .int .i64 r3, .string r4, .int .i64 r5] 46)).heap.size := by rw [World.size_alloc]; omega
    have hne : ∀ r, row = some r → w.heap.size + 2 ≤ r ∧ r < V.heap.size := fun r e => own.lt r (HL.out.trans e)
    gi_wp2_with (gi_at_builtin; refine wpListIn_append_lies _ rfl _ _ 40 rfl (w.heap.size + 2) 46 i0 _ 5 48 Tryd.underlying40 hi ze zs zb rfl (by decide) v _ _ rfl (own.alloc _) ⟨V.heap.size, 0, none⟩ 1 1 (encN (r1, r2, r3, r4, r5)) rfl rfl (run_new V _ _) (by simp [encN, Value.oneCell']) (by decide) (by unfold maxLen; omega) (by omega) (by have := HV.out; simp; omega) (V.heap.size + 1) (by simp) ?_; intro g cap w2 hown hgrow hat hlt; have k1 := (hgrow.cell_far ⟨w.heap.size, 0, none⟩ hAA (hfar w.heap.size (by omega))).trans (old_cell' _ c1); have k2 := (hgrow.frozen_far ⟨w.heap.size, 0, none⟩ hAA (hfar w.heap.size (by omega))).trans (old_frozen' _ c1 f1))
    have hrow : v.ownBlock = row := HL.out
    refine ⟨some g, ⟨.slice (some ⟨g, 0, none⟩) (pre.length + 1) cap, ?_, ?_, ?_, rfl, ?_, ?_⟩, ?_, ?_⟩
    · exact World.cell?_setCell_same' _ _ _ (by rw [k1]; rfl)
    · rw [World.frozen?_setCell]; exact k2
    · rw [List.length_append, List.length_singleton, cellsN_snoc]
      exact own_other hown (fun k hk _ => Below.heap_setCell _ _ _ _ (show k ≠ w.heap.size by omega))
    · exact ((hb.alloc hb.size _).grown hgrow (Nat.le_of_lt hAA) (fun r e => by have := own.lt r e; omega)).setCell (p := ⟨w.heap.size, 0, none⟩) (Nat.le_refl _) _
    · rw [List.length_append, List.length_singleton]; omega
    · refine ((Kept.below ((Below.refl _ V).alloc (Nat.le_refl _) _)).trans (Kept.grown hgrow (fun r e _ => hrow ▸ e))).trans (Kept.grown (grownBy_setCell' w2 w.heap.size _) (fun r e h => by cases e; omega))
    · rcases hat with h | h
      · exact .inl (by rw [← hrow, h])
      · exact .inr ⟨g, rfl, by omega⟩
  case done =>
    rintro D xs row V hD rfl ⟨v, c1, f1, own, hbl, hb, _⟩ hrD hK'
    have hDl := (Array.getElem?_eq_some_iff.1 hK').1
    have OW := Lib.hid own
    have HB := Lib.hid hb
    have HL := Lib.hid hbl
    have HK := Lib.hid hK'
    clear own hb hbl hK'
    gi_wp2
    refine ⟨by simp, .inl ⟨_, _, rfl, run_takeDeferred HK.out, ?_⟩⟩
    exact ⟨_, results_tmp rfl _ _ _, v, rfl, (OW.out.kept (grownBy_putObj' V D (.deferred none)) (by rw [HL.out]; exact .inr (fun e => hrD e))).mono (by omega), HB.out.grown (grownBy_putObj' V D (.deferred none)) HB.out.size (fun r e => by cases e; omega)⟩

end Go.Proofs.YtiaoflagjaclmaaDoor
