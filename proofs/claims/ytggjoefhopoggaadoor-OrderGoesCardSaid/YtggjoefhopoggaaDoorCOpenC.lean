/-
  What an argument that is a row of calls gives: the nodes within them, to any depth.
  An argument that is a place, or a row of ints.
-/
import Derived.Test.YtggjoefhopoggaaDoorCCalls
import Derived.Test.YtggjoefhopoggaaDoorTagLaid
import Derived.SizedLaws
import Derived.Deep.Slices
import Derived.Deep.Fields

namespace Go.Proofs.YtggjoefhopoggaaDoor
open Go.Joins Go.ChangeShapes Go.WideShapes Go.ChangeAt Go.RowKit Go.Lib Go.Deep

theorem readsCalls : Tryd.prog.readableRec 42 = true := by kernel_rfl
theorem rowCalls : 42 < Tryd.prog.types.size := of_decide_eq_true (by kernel_rfl)
theorem readsNode : Tryd.prog.readableRec 67 = true := by kernel_rfl
theorem rowNode : 67 < Tryd.prog.types.size := of_decide_eq_true (by kernel_rfl)
theorem list_of {Y : Type} (Q : Nat → Y → Prop) : ∀ n : Nat, (∀ i, i < n → ∃ y, Q i y) → ∃ l : List Y, l.length = n ∧ ∀ (j : Nat) (x : Y), l[j]? = some x → Q j x
  | 0, _ => ⟨[], rfl, fun j x h => by simp at h⟩
  | n + 1, h => by
    obtain ⟨l, hl, hQ⟩ := list_of Q n (fun i hi => h i (by omega))
    obtain ⟨y, hy⟩ := h n (by omega)
    refine ⟨l ++ [y], by simp [hl], fun j x hj => ?_⟩
    rcases Nat.lt_trichotomy j n with h1 | h1 | h1
    · rw [List.getElem?_append_left (by omega)] at hj
      exact hQ j x hj
    · subst h1
      rw [List.getElem?_append_right (by omega), hl, Nat.sub_self] at hj
      have e : y = x := by simpa using hj
      exact e ▸ hy
    · rw [List.getElem?_append_right (by omega), hl] at hj
      obtain ⟨m, hm⟩ : ∃ m, j - n = m + 1 := ⟨j - n - 1, by omega⟩
      rw [hm] at hj
      simp at hj
theorem weights_all {H : Type} {P : Program} {e : TypeId} : ∀ (es : List (DataW H)) (x : DataW H), x ∈ es → ∀ q ∈ x.weights P e, q ∈ DataW.weightsAll P e es
  | [], _, h, _, _ => by cases h
  | y :: es, x, h, q, hq => by
    simp only [DataW.weightsAll, List.mem_append]
    rcases List.mem_cons.1 h with rfl | h
    · exact .inl hq
    · exact .inr (weights_all es x h q hq)

variable {H : Type} {enc : TypeId × Value → H} {W : World} {sp : Nat → Bool} {held : Bool}

/-- A slice: nothing, or a row of which each element's cells are read with less. -/
theorem slice_at {t e : TypeId} {v : Value} {x : DataW H × List MemPlace} {fuel : Nat} (K : Nat) (ht : Tryd.prog.underlying t = some (.slice e)) (hC : Tryd.prog.cellsOf e = K) (hK : 0 < K)
    (h : DataW.trod enc Tryd.prog W 0 sp held fuel t [v] = some x) (hw : ∀ q ∈ x.1.weights Tryd.prog t, q ≤ reachBytes) :
    (∃ a c, v = .slice a 0 c ∧ (a = none → c = 0)) ∨
    ∃ b o c n k, v = .slice (some ⟨b, o, none⟩) n c ∧ 0 < n ∧ n ≤ c ∧ c ≤ maxLen ∧ b < W.heap.size ∧ fuel = k + 1 ∧
      ∀ i, i < n → ∃ (cs : List Value) (y : DataW H × List MemPlace), cs.length = K ∧ (∀ j, j < K → W.cell? ⟨b, o + i * K + j, none⟩ = cs[j]?) ∧ DataW.trod enc Tryd.prog W 0 sp held k e cs = some y ∧ ∀ q ∈ y.1.weights Tryd.prog e, q ≤ reachBytes := by
  rcases DataW.trod_slice ht h with ⟨hcs, _⟩ | ⟨a, len, cap, elems, rest, k, hk, hcs, hx, _, hl, hm, hlen, hel, _, _⟩
  · exact .inl ⟨none, 0, (List.cons.inj hcs).1, fun _ => rfl⟩
  · have e1 := (List.cons.inj hcs).1
    by_cases h0 : len = 0
    · subst h0
      exact .inl ⟨some a, cap, e1, fun h => by cases h⟩
    · right
      have hel2 : ∀ i, i < len → ∃ (cs : List Value) (y : DataW H × List MemPlace), cs.length = K ∧ (∀ j, j < K → W.cell? ((a.add (i * K)).add j) = cs[j]?) ∧ DataW.trod enc Tryd.prog W 0 sp held k e cs = some y ∧ elems[i]? = some y := by
        intro i hi
        have h1 := hel i hi
        rw [List.getElem?_eq_getElem (by omega : i < elems.length), hC] at h1
        obtain ⟨cs, hc, htr⟩ := Option.bind_eq_some_iff.1 h1
        obtain ⟨_, hcl, hat⟩ := World.cells?_some hc
        exact ⟨cs, _, hcl, hat, htr, List.getElem?_eq_getElem (by omega : i < elems.length)⟩
      obtain ⟨b, o, spot⟩ := a
      obtain ⟨cs0, _, hl0, hat0, _⟩ := hel2 0 (by omega)
      have hc0 := hat0 0 hK
      rw [add_add, List.getElem?_eq_getElem (by omega : 0 < cs0.length)] at hc0
      have hspot : spot = none := by
        have h1 := World.cell?_spot hc0
        simpa [Addr.add] using h1
      subst hspot
      rw [add_plain] at hc0
      have hblk : b < W.heap.size := World.block_lt_of_cell? W _ hc0
      refine ⟨b, o, cap, len, k, e1, by omega, hl, hm, hblk, hk, fun i hi => ?_⟩
      obtain ⟨cs, y, g1, g2, g3, g4⟩ := hel2 i hi
      refine ⟨cs, y, g1, fun j hj => ?_, g3, fun q hq => hw q ?_⟩
      · have g := g2 j hj
        rw [add_add, add_plain, ← Nat.add_assoc] at g
        exact g
      · rw [hx]
        simp only [DataW.weights, ht, List.mem_cons, List.mem_append]
        exact .inr (.inl (weights_all _ y.1 (List.mem_map.2 ⟨y, List.mem_of_getElem? g4, rfl⟩) q hq))

theorem text_sized {y : DataW H × List MemPlace} {s : ByteArray} {t : TypeId} (hy : y = (.lit (.string s.data.toList), [])) (hw : ∀ q ∈ y.1.weights Tryd.prog t, q ≤ reachBytes) : s.size ≤ 140737488355328 := by
  have q1 := hw s.data.toList.length (by rw [hy]; simp [DataW.weights])
  rw [← size_eq] at q1
  exact Nat.le_trans q1 (by decide)

set_option maxRecDepth 20000 in
theorem row_of_trod {v : Value} {x : DataW H × List MemPlace} {fuel : Nat} (h : DataW.trod enc Tryd.prog W 0 sp held fuel 64 [v] = some x) (hw : ∀ q ∈ x.1.weights Tryd.prog 64, q ≤ reachBytes) :
    ∃ (a : Option Addr) (n c : Nat) (l : Row), v = .slice a n c ∧ RowAt W (.slice a n c) l ∧ SizedR l := by
  rcases slice_at 2 Tryd.underlying64 (by kernel_rfl) (by decide) h hw with ⟨a, c, rfl, hn⟩ | ⟨b, o, c, n, k, rfl, _, hl, hm, hb, _, hel⟩
  · exact ⟨a, 0, c, [], rfl, .inl ⟨a, c, rfl, hn, rfl⟩, fun a ha => by cases ha⟩
  · have hS : Tryd.prog.cellsOf 9 = 1 := by kernel_rfl
    obtain ⟨l, hll, hQ⟩ := list_of (Y := At) (fun i y => (W.cell? ⟨b, o + i * 2, none⟩ = some (.string y.1) ∧ W.cell? ⟨b, o + i * 2 + 1, none⟩ = some (.string y.2)) ∧ y.1.size ≤ 140737488355328 ∧ y.2.size ≤ 140737488355328) n (fun i hi => by
      obtain ⟨cs, y, hcl, hat, htr, hwy⟩ := hel i hi
      obtain ⟨xs, n', _, hy, _, hxl, hfl⟩ := DataW.trod_struct Tryd.underlying116 htr
      match cs, hcl with
      | [u0, u1], _ =>
        match xs, hxl with
        | [y0, y1], _ =>
          have f0 : DataW.trod enc Tryd.prog W 0 sp held n' 9 (([u0, u1].drop 0).take (Tryd.prog.cellsOf 9)) = some y0 := hfl 0 _ rfl
          have f1 : DataW.trod enc Tryd.prog W 0 sp held n' 9 (([u0, u1].drop 1).take (Tryd.prog.cellsOf 9)) = some y1 := hfl 1 _ rfl
          rw [hS] at f0 f1
          obtain ⟨s, hs1, hs2, _⟩ := DataW.trod_string Tryd.underlying9 f0
          obtain ⟨t, ht1, ht2, _⟩ := DataW.trod_string Tryd.underlying9 f1
          have e0 : u0 = .string s := by simpa using hs1
          have e1 : u1 = .string t := by simpa using ht1
          have hwe : ∀ z ∈ DataW.weightsEach Tryd.prog [9, 9] [y0.1, y1.1], z ≤ reachBytes := fun z hz => by
            refine hwy z ?_
            rw [hy]
            simp only [DataW.weights, Tryd.underlying116]
            exact hz
          have a0 := hat 0 (by decide)
          have a1 := hat 1 (by decide)
          rw [e0] at a0
          rw [e1] at a1
          exact ⟨(s, t), ⟨a0, a1⟩, text_sized hs2 (fun z hz => hwe z (DataW.weights_mem_each (j := 0) rfl rfl z hz)), text_sized ht2 (fun z hz => hwe z (DataW.weights_mem_each (j := 1) rfl rfl z hz))⟩)
    refine ⟨_, n, c, l, rfl, .inr ⟨b, o, c, by rw [hll], by omega, hm, hb, fun j hj => ?_⟩, fun a ha => ?_⟩
    · exact (hQ j _ (by rw [List.getElem!_eq_getElem?_getD, List.getElem?_eq_getElem hj]; rfl)).1
    · obtain ⟨j, hj, rfl⟩ := List.getElem_of_mem ha
      exact (hQ j _ (List.getElem?_eq_getElem hj)).2

set_option maxRecDepth 20000 in
/-- A node's cells read as a plain tree, to any depth. -/
theorem node_of_trod : ∀ (fuel : Nat) (cs : List Value) (x : DataW H × List MemPlace), cs.length = 4 → DataW.trod enc Tryd.prog W 0 sp held fuel 67 cs = some x → (∀ q ∈ x.1.weights Tryd.prog 67, q ≤ reachBytes) →
    ∃ t : Pn, cs = [.int .i64 t.tag, .slice t.aa t.an t.ac, .string t.tx, .slice t.ka t.kn t.kc] ∧ PlAt W t := by
  intro fuel
  induction fuel using Nat.strongRecOn with
  | ind fuel ih =>
    intro cs x hcl h hw
    obtain ⟨xs, n', hfu, hy, _, hxl, hfl⟩ := DataW.trod_struct Tryd.underlying67 h
    have hI : Tryd.prog.cellsOf 3 = 1 := by kernel_rfl
    have hA : Tryd.prog.cellsOf 64 = 1 := by kernel_rfl
    have hS : Tryd.prog.cellsOf 9 = 1 := by kernel_rfl
    have hN : Tryd.prog.cellsOf 65 = 1 := by kernel_rfl
    match cs, hcl with
    | [u0, u1, u2, u3], _ =>
      match xs, hxl with
      | [y0, y1, y2, y3], _ =>
        have f0 : DataW.trod enc Tryd.prog W 0 sp held n' 3 (([u0, u1, u2, u3].drop 0).take (Tryd.prog.cellsOf 3)) = some y0 := hfl 0 _ rfl
        have f1 : DataW.trod enc Tryd.prog W 0 sp held n' 64 (([u0, u1, u2, u3].drop 1).take (Tryd.prog.cellsOf 64)) = some y1 := hfl 1 _ rfl
        have f2 : DataW.trod enc Tryd.prog W 0 sp held n' 9 (([u0, u1, u2, u3].drop 2).take (Tryd.prog.cellsOf 9)) = some y2 := hfl 2 _ rfl
        have f3 : DataW.trod enc Tryd.prog W 0 sp held n' 65 (([u0, u1, u2, u3].drop 3).take (Tryd.prog.cellsOf 65)) = some y3 := hfl 3 _ rfl
        rw [hI] at f0
        rw [hA] at f1
        rw [hS] at f2
        rw [hN] at f3
        have f1' : DataW.trod enc Tryd.prog W 0 sp held n' 64 [u1] = some y1 := f1
        have f3' : DataW.trod enc Tryd.prog W 0 sp held n' 65 [u3] = some y3 := f3
        have hwe : ∀ z ∈ DataW.weightsEach Tryd.prog [3, 64, 9, 65] [y0.1, y1.1, y2.1, y3.1], z ≤ reachBytes := fun z hz => by
          refine hw z ?_
          rw [hy]
          simp only [DataW.weights, Tryd.underlying67]
          exact hz
        obtain ⟨tag, ht1, _, _⟩ := DataW.trod_int Tryd.underlying3 f0
        obtain ⟨s, hs1, hs2, _⟩ := DataW.trod_string Tryd.underlying9 f2
        have e0 : u0 = .int .i64 tag := by simpa using ht1
        have e2 : u2 = .string s := by simpa using hs1
        have tz := text_sized hs2 (fun z hz => hwe z (DataW.weights_mem_each (j := 2) rfl rfl z hz))
        obtain ⟨aa, an, ac, ats, e1, hrow, hsz⟩ := row_of_trod f1' (fun z hz => hwe z (DataW.weights_mem_each (j := 1) rfl rfl z hz))
        rcases slice_at 4 Tryd.underlying65 (by kernel_rfl) (by decide) f3' (fun z hz => hwe z (DataW.weights_mem_each (j := 3) rfl rfl z hz)) with ⟨a, c, e3, _⟩ | ⟨b, o, c, n, k, e3, _, hl, hm, hb, hk, hel⟩
        · refine ⟨.mk tag aa an ac s a 0 c ats [], by rw [e0, e1, e2, e3]; rfl, .mk hrow hsz tz rfl (Nat.zero_le _) (.inl rfl) (fun s hs => by cases hs)⟩
        · obtain ⟨l, hll, hQ⟩ := list_of (Y := Pn) (fun i t => (W.cell? ⟨b, o + i * 4, none⟩ = some (.int .i64 t.tag) ∧ W.cell? ⟨b, o + i * 4 + 1, none⟩ = some (.slice t.aa t.an t.ac) ∧ W.cell? ⟨b, o + i * 4 + 2, none⟩ = some (.string t.tx) ∧ W.cell? ⟨b, o + i * 4 + 3, none⟩ = some (.slice t.ka t.kn t.kc)) ∧ PlAt W t) n (fun i hi => by
            obtain ⟨cs, y, hcl, hat, htr, hwy⟩ := hel i hi
            obtain ⟨t, rfl, hP⟩ := ih k (by omega) cs y hcl htr hwy
            exact ⟨t, ⟨hat 0 (by decide), hat 1 (by decide), hat 2 (by decide), hat 3 (by decide)⟩, hP⟩)
          refine ⟨.mk tag aa an ac s (some ⟨b, o, none⟩) n c ats l, by rw [e0, e1, e2, e3]; rfl, .mk hrow hsz tz hll.symm (Nat.le_trans hl hm) (.inr ⟨b, o, rfl, hb, fun j t hj => (hQ j t hj).1⟩) (fun s hs => ?_)⟩
          obtain ⟨j, hj, rfl⟩ := List.getElem_of_mem hs
          exact (hQ j _ (List.getElem?_eq_getElem hj)).2

set_option maxRecDepth 20000 in
/-- A call's cells. -/
theorem call_of_trod {fuel : Nat} {cs : List Value} {x : DataW H × List MemPlace} (hcl : cs.length = 10) (h : DataW.trod enc Tryd.prog W 0 sp held fuel 82 cs = some x) (hw : ∀ q ∈ x.1.weights Tryd.prog 82, q ≤ reachBytes) :
    ∃ y : Cl, cs = [.int .i64 y.what, .int .i64 y.a, .int .i64 y.b, .int .i64 y.c, .string y.s, .slice y.aa y.an y.ac, .int .i64 y.n.tag, .slice y.n.aa y.n.an y.n.ac, .string y.n.tx, .slice y.n.ka y.n.kn y.n.kc] ∧ ClAt W y := by
  obtain ⟨xs, n', hfu, hy, _, hxl, hfl⟩ := DataW.trod_struct Tryd.underlying82 h
  have hI : Tryd.prog.cellsOf 3 = 1 := by kernel_rfl
  have hA : Tryd.prog.cellsOf 64 = 1 := by kernel_rfl
  have hS : Tryd.prog.cellsOf 9 = 1 := by kernel_rfl
  have hN : Tryd.prog.cellsOf 67 = 4 := by kernel_rfl
  match cs, hcl with
  | [u0, u1, u2, u3, u4, u5, u6, u7, u8, u9], _ =>
    match xs, hxl with
    | [y0, y1, y2, y3, y4, y5, y6], _ =>
      have f0 : DataW.trod enc Tryd.prog W 0 sp held n' 3 (([u0, u1, u2, u3, u4, u5, u6, u7, u8, u9].drop 0).take (Tryd.prog.cellsOf 3)) = some y0 := hfl 0 _ rfl
      have f1 : DataW.trod enc Tryd.prog W 0 sp held n' 3 (([u0, u1, u2, u3, u4, u5, u6, u7, u8, u9].drop 1).take (Tryd.prog.cellsOf 3)) = some y1 := hfl 1 _ rfl
      have f2 : DataW.trod enc Tryd.prog W 0 sp held n' 3 (([u0, u1, u2, u3, u4, u5, u6, u7, u8, u9].drop 2).take (Tryd.prog.cellsOf 3)) = some y2 := hfl 2 _ rfl
      have f3 : DataW.trod enc Tryd.prog W 0 sp held n' 3 (([u0, u1, u2, u3, u4, u5, u6, u7, u8, u9].drop 3).take (Tryd.prog.cellsOf 3)) = some y3 := hfl 3 _ rfl
      have f4 : DataW.trod enc Tryd.prog W 0 sp held n' 9 (([u0, u1, u2, u3, u4, u5, u6, u7, u8, u9].drop 4).take (Tryd.prog.cellsOf 9)) = some y4 := hfl 4 _ rfl
      have f5 : DataW.trod enc Tryd.prog W 0 sp held n' 64 (([u0, u1, u2, u3, u4, u5, u6, u7, u8, u9].drop 5).take (Tryd.prog.cellsOf 64)) = some y5 := hfl 5 _ rfl
      have f6 : DataW.trod enc Tryd.prog W 0 sp held n' 67 (([u0, u1, u2, u3, u4, u5, u6, u7, u8, u9].drop 6).take (Tryd.prog.cellsOf 67)) = some y6 := hfl 6 _ rfl
      rw [hI] at f0 f1 f2 f3
      rw [hS] at f4
      rw [hA] at f5
      rw [hN] at f6
      have f5' : DataW.trod enc Tryd.prog W 0 sp held n' 64 [u5] = some y5 := f5
      have f6' : DataW.trod enc Tryd.prog W 0 sp held n' 67 [u6, u7, u8, u9] = some y6 := f6
      have hwe : ∀ z ∈ DataW.weightsEach Tryd.prog [3, 3, 3, 3, 9, 64, 67] [y0.1, y1.1, y2.1, y3.1, y4.1, y5.1, y6.1], z ≤ reachBytes := fun z hz => by
        refine hw z ?_
        rw [hy]
        simp only [DataW.weights, Tryd.underlying82]
        exact hz
      obtain ⟨z0, h0, _, _⟩ := DataW.trod_int Tryd.underlying3 f0
      obtain ⟨z1, h1, _, _⟩ := DataW.trod_int Tryd.underlying3 f1
      obtain ⟨z2, h2, _, _⟩ := DataW.trod_int Tryd.underlying3 f2
      obtain ⟨z3, h3, _, _⟩ := DataW.trod_int Tryd.underlying3 f3
      obtain ⟨s, hs1, hs2, _⟩ := DataW.trod_string Tryd.underlying9 f4
      have e0 : u0 = .int .i64 z0 := by simpa using h0
      have e1 : u1 = .int .i64 z1 := by simpa using h1
      have e2 : u2 = .int .i64 z2 := by simpa using h2
      have e3 : u3 = .int .i64 z3 := by simpa using h3
      have e4 : u4 = .string s := by simpa using hs1
      have tz := text_sized hs2 (fun z hz => hwe z (DataW.weights_mem_each (j := 4) rfl rfl z hz))
      obtain ⟨aa, an, ac, ats, e5, hrow, hsz⟩ := row_of_trod f5' (fun z hz => hwe z (DataW.weights_mem_each (j := 5) rfl rfl z hz))
      obtain ⟨t, e6, hP⟩ := node_of_trod n' _ y6 rfl f6' (fun z hz => hwe z (DataW.weights_mem_each (j := 6) rfl rfl z hz))
      refine ⟨⟨z0, z1, z2, z3, s, aa, an, ac, ats, t⟩, ?_, ⟨hrow, hsz, tz, hP⟩⟩
      rw [e0, e1, e2, e3, e4, e5]
      exact congrArg (fun r => Value.int .i64 z0 :: .int .i64 z1 :: .int .i64 z2 :: .int .i64 z3 :: .string s :: .slice aa an ac :: r) e6

set_option maxRecDepth 20000 in
/-- An argument that is a row of calls. -/
theorem calls_of_arg {v : Value} {d : DataW H} {p : List MemPlace} {ts : List TypeId} {ds : List (DataW H)} {j : Nat}
    (h : DataW.Trod enc Tryd.prog W 0 sp held 42 v d p) (hsl : ∃ a n c, v = .slice a n c) (hw : (DataW.weightsEach Tryd.prog ts ds).all (· ≤ reachBytes) = true) (ht : ts[j]? = some 42) (hd : ds[j]? = some d) :
    ∃ l : List Cl, ClsAt W v l := by
  obtain ⟨a0, n0, c0, rfl⟩ := hsl
  obtain ⟨fuel, hf⟩ := h
  have hf' : DataW.trod enc Tryd.prog W 0 sp held fuel 42 [.slice a0 n0 c0] = some (d, p) := hf
  have hw1 : ∀ q ∈ d.weights Tryd.prog 42, q ≤ reachBytes := fun q hq => by
    have := List.all_eq_true.1 hw q (DataW.weights_mem_each ht hd q hq)
    simpa using this
  rcases slice_at 10 Tryd.underlying42 (by kernel_rfl) (by decide) hf' hw1 with ⟨a, c, e, _⟩ | ⟨b, o, c, n, k, e, _, hl, hm, hb, _, hel⟩
  · exact ⟨[], .inl ⟨a, c, e, rfl⟩⟩
  · obtain ⟨l, hll, hQ⟩ := list_of (Y := Cl) (fun i x => ClCells W b (o + i * 10) x ∧ ClAt W x) n (fun i hi => by
      obtain ⟨cs, y, hcl, hat, htr, hwy⟩ := hel i hi
      obtain ⟨x, rfl, hA⟩ := call_of_trod hcl htr hwy
      exact ⟨x, ⟨hat 0 (by decide), hat 1 (by decide), hat 2 (by decide), hat 3 (by decide), hat 4 (by decide), hat 5 (by decide), hat 6 (by decide), hat 7 (by decide), hat 8 (by decide), hat 9 (by decide)⟩, hA⟩)
    exact ⟨l, .inr ⟨b, o, c, by rw [e, hll], by omega, fun j x hj => hQ j x hj⟩⟩

set_option maxRecDepth 20000 in
/-- An argument that is a node. -/
theorem node_of_arg {v : Value} {d : DataW H} {p : List MemPlace} {ts : List TypeId} {ds : List (DataW H)} {j b0 : Nat} {r : Reach}
    (hval : Value.okWide Tryd.prog W r b0 67 v) (h : DataW.Trod enc Tryd.prog W 0 sp held 67 v d p) (hw : (DataW.weightsEach Tryd.prog ts ds).all (· ≤ reachBytes) = true) (ht : ts[j]? = some 67) (hd : ds[j]? = some d) :
    ∃ t : Pn, v = t.v ∧ PlAt W t := by
  have hw1 : ∀ q ∈ d.weights Tryd.prog 67, q ≤ reachBytes := fun q hq => by
    have := List.all_eq_true.1 hw q (DataW.weights_mem_each ht hd q hq)
    simpa using this
  obtain ⟨cs, rfl, hsz⟩ := okWide_struct Tryd.underlying67 hval
  obtain ⟨fuel, hf⟩ := h
  have hC : Tryd.prog.cellsOf 67 = 4 := by kernel_rfl
  have hcl : cs.toList.length = 4 := by rw [Array.length_toList]; exact hsz.trans hC
  have hf' : DataW.trod enc Tryd.prog W 0 sp held fuel 67 cs.toList = some (d, p) := hf
  obtain ⟨t, e, hP⟩ := node_of_trod fuel _ _ hcl hf' hw1
  refine ⟨t, ?_, hP⟩
  have e2 : cs = #[.int .i64 t.tag, .slice t.aa t.an t.ac, .string t.tx, .slice t.ka t.kn t.kc] := Array.ext' e
  rw [e2]
  rfl

end Go.Proofs.YtggjoefhopoggaaDoor

namespace Go.Proofs.YtggjoefhopoggaaDoor
open Go.Joins Go.ChangeShapes Go.WideShapes Go.ChangeAt Go.RowKit Go.Lib Go.Deep

theorem readsPlace : Tryd.prog.readableRec 23 = true := by kernel_rfl
theorem rowPlace : 23 < Tryd.prog.types.size := of_decide_eq_true (by kernel_rfl)
set_option maxRecDepth 20000 in
theorem place_of_arg {H : Type} {enc : TypeId × Value → H} {W : World} {sp : Nat → Bool} {held : Bool} {v : Value} {d : DataW H} {p : List MemPlace} {b0 : Nat} {r : Reach}
    (hval : Value.okWide Tryd.prog W r b0 23 v) (h : DataW.Trod enc Tryd.prog W 0 sp held 23 v d p) : ∃ x y : Int, v = .agg #[.int .i64 x, .int .i64 y] := by
  obtain ⟨v0, v1, y0, y1, n, rfl, rfl, _, f0, f1⟩ := open_agg2 Tryd.underlying23 (by kernel_rfl) (by kernel_rfl) hval h
  obtain ⟨x, hx1, _, _⟩ := DataW.trod_int Tryd.underlying3 f0
  obtain ⟨y, hy1, _, _⟩ := DataW.trod_int Tryd.underlying3 f1
  have e0 : v0 = .int .i64 x := by simpa using hx1
  have e1 : v1 = .int .i64 y := by simpa using hy1
  subst e0 e1
  exact ⟨x, y, rfl⟩

end Go.Proofs.YtggjoefhopoggaaDoor
