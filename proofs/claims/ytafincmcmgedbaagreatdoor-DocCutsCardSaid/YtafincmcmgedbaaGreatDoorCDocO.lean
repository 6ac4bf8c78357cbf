/-
  The program's and the document's Own of a document.
  The program's replace.
-/
import Derived.Test.YtafincmcmgedbaaGreatDoorCDocD
import Derived.Test.YtafincmcmgedbaaGreatDoorCDocLn
import Derived.Test.YtafincmcmgedbaaGreatDoorCAppG

namespace Go.Proofs.YtafincmcmgedbaaGreatDoor
open Go.RowKit Go.Lib

theorem lownA (x : Lw) (w : World) (h : LwAt w x) (hz : x.ln.ls.length ≤ 50000 ∧ x.ln.cs.length ≤ 50000 ∧ Fair x.ln.cs) :
    Calls Tryz.prog 68 #[aggL x] w fun e w' => ∃ y : Lw, e = .returned (aggL y) ∧ y.ln = x.ln ∧ MineLw w.heap.size w' y ∧ Below w.heap.size w w' := by
  refine (lown_any x.ln.q x.ln.k x.sl x.sc x.ln.ls x.ln.cs w h.z h.r hz.1 hz.2.1).mono ?_
  rintro e w' ⟨sl', sc', rfl, o, hb⟩
  obtain ⟨y, h1, h2, h3, h4⟩ := lw_of_own (q := x.ln.q) (k := x.ln.k) o
  refine ⟨y, by unfold aggL; rw [h1, h2, h3], h3, h4, hb⟩
theorem rlownA (x : Lw) (w : World) (h : LwAt w x) (hz : x.ln.ls.length ≤ 50000 ∧ x.ln.cs.length ≤ 50000 ∧ Fair x.ln.cs) :
    Calls Tryz.prog 55 #[aggL x] w fun e w' => ∃ y : Lw, e = .returned (aggL y) ∧ y.ln = x.ln ∧ MineLw w.heap.size w' y ∧ Below w.heap.size w w' := by
  refine (rlown_any x.ln.q x.ln.k x.sl x.sc x.ln.ls x.ln.cs w h hz.1 hz.2.1).mono ?_
  rintro e w' ⟨sl', sc', rfl, o, hb⟩
  obtain ⟨y, h1, h2, h3, h4⟩ := lw_of_own (q := x.ln.q) (k := x.ln.k) o
  refine ⟨y, by unfold aggL; rw [h1, h2, h3], h3, h4, hb⟩

theorem ownBlk {w : World} {B e size n : Nat} {v : Value} {xs : List Value} {g : Nat} (h : w.ownsRow B e size v n xs) (hg : v.ownBlock = some g) : B ≤ g ∧ g < w.heap.size := h.lt g hg
/-- A line of one's own is put behind lines of one's own. -/
theorem ownD_put {B : Nat} {w w2 w3 : World} {v v' : Value} {m : List Lw} {y : Lw} (h : OwnD B w v m) (hb : Below w.heap.size w w2) (hB : B ≤ w.heap.size) (hy : MineLw w.heap.size w2 y)
    (hown : w3.ownsRow B 46 4 v' (m ++ [y]).length (cellsD (m ++ [y]))) (hg : w2.grownBy w3 v.ownBlock) (hat : v'.ownBlock = v.ownBlock ∨ ∀ g, v'.ownBlock = some g → w2.heap.size ≤ g) : OwnD B w3 v' (m ++ [y]) := by
  have hm2 : ∀ x ∈ m ++ [y], MineLw B w2 x := fun x hx => by
    rcases List.mem_append.1 hx with hx | hx
    · exact (h.n x hx).below hb
    · obtain rfl := List.mem_singleton.1 hx
      exact hy.mono hB
  have hap : ∀ x ∈ m ++ [y], ∀ g, v.ownBlock = some g → OffB g x := fun x hx g hg' => by
    rcases List.mem_append.1 hx with hx | hx
    · exact h.ap x hx g hg'
    · obtain rfl := List.mem_singleton.1 hx
      exact offB_lo hy (ownBlk h.own hg').2
  refine ⟨hown, fun x hx => (hm2 x hx).grown hg (fun g e => hap x hx g e), fun x hx g e => ?_⟩
  rcases hat with h1 | h1
  · exact hap x hx g (h1 ▸ e)
  · exact offB_hi (hm2 x hx).at (h1 g e)
/-- The line that append is handed. -/
theorem one_line (w : World) (y : Lw) : SliceAt (w.alloc (.cells #[.int .i64 y.ln.q, y.sl, .int .i64 y.ln.k, y.sc] 46)) (.slice (some ⟨w.heap.size, 0, none⟩) 1 1) [y] := by
  refine .inr ⟨w.heap.size, 0, 1, rfl, Nat.le_refl _, by decide, by simp, LinesIn.of_flat (fun j u hu => ?_)⟩
  have h0 := World.alloc_heap_new w (.cells #[.int .i64 y.ln.q, y.sl, .int .i64 y.ln.k, y.sc] 46)
  rw [Nat.zero_add, cell_of_row _ _ j _ _ (0, 0) h0, ← Array.getElem?_toList]
  exact hu

/-- **append(s, x)**, with where the answer lies. -/
theorem wpList_append_line {ops : Array Oper} {rest : List Oper} {o : Oper} {a : Act} {Q : Exit → Act → World → Prop} {w : World} (hgd : o.guard = none) (s x : Operand)
    (ho : o.op = .call { callee := .builtin .append, args := #[s, x], argTypes := #[22, 22] })
    (base : Nat) (v : Value) (l : List Lw) (hs : a.eval s = v) (hown : w.ownsRow base 46 4 v l.length (cellsD l)) (g0 : Nat) (y : Lw) (hx : a.eval x = .slice (some ⟨g0, 0, none⟩) 1 1) (hu : SliceAt w (.slice (some ⟨g0, 0, none⟩) 1 1) [y])
    (hb : l.length ≤ 100000) (hbase : base ≤ w.heap.size) (H : Nat) (hH : w.heap.size = H)
    (h : ∀ g cap w', w'.ownsRow base 46 4 (.slice (some ⟨g, 0, none⟩) (l.length + 1) cap) (l ++ [y]).length (cellsD (l ++ [y])) → w.grownBy w' v.ownBlock → (v.ownBlock = some g ∨ g = H) → wpList Tryz.prog ops Q rest (a.put o.dst (.slice (some ⟨g, 0, none⟩) (l.length + 1) cap)) w') : wpList Tryz.prog ops Q (o :: rest) a w := by
  obtain ⟨i0, hi, hz0, hz1, hz2⟩ := info_parts infoLine
  obtain ⟨b, o1, c, e, _, _, hbb, hcs⟩ := hu.lies (by simp)
  simp only [Value.slice.injEq, Option.some.injEq, Addr.mk.injEq, and_true] at e
  obtain ⟨⟨rfl, rfl⟩, _, rfl⟩ := e
  refine wpList_append_lies w hgd s x 22 ho base 46 i0 _ 4 64 Tryz.underlying22 hi hz0 hz1 hz2 rfl (by decide) v _ _ hs hown ⟨g0, 0, none⟩ 1 1 (cellsD [y]) hx (cellsD_length [y]) hcs.addF (cellsD_one [y]) (by decide) (by unfold maxLen; omega) (by omega) hbase H hH (fun g cap w' h1 h2 h3 _ => h g cap w' (own_appD h1 rfl rfl) h2 h3)

set_option maxRecDepth 20000 in
set_option maxHeartbeats 8000000 in
theorem down_any (v : Value) (l : List Lw) (w : World) (h : DocAt w v l) (hf : Fine (pl l)) :
    Calls Tryz.prog 32 #[v] w (DocPost (pl l) w) := by
  obtain ⟨a, c, rfl⟩ := h.s.len
  have hl := hf.len
  have V := Lib.hid h
  have F := Lib.hid hf
  obtain ⟨n, hn⟩ : ∃ n, l.length = n := ⟨_, rfl⟩
  rw [hn] at hl V ⊢
  have N := Lib.hid hn
  clear h hf hn
  go_enter Tryz.func32, Tryz.ntmps32
  go_wp2
  go_loopw [3, 5, 8] (fun s _ i wr => ∃ (k : Nat) (m : List Lw), k ≤ n ∧ m.length = k ∧ i = .int .i64 k ∧ Hid (pl m = (pl l).take k) ∧ Hid (OwnD w.heap.size wr s m) ∧ Below w.heap.size w wr) (fun s _ i _ => n - (RowKit.intOf i).toNat)
  case atStart => exact ⟨0, [], Nat.zero_le _, rfl, rfl, Lib.hid rfl, Lib.hid (ownD_nil _ _), Below.refl _ _⟩
  case round =>
    obtain ⟨k, m, hk, hml, rfl, HM, HO, hb⟩ := hrel
    obtain ⟨u, cap, rfl⟩ := own_len HO.out.own
    have ML := Lib.hid hml
    rw [hml] at HO ⊢
    clear hml
    by_cases hlt : k < n
    · have hkl : k < l.length := by rw [N.out]; exact hlt
      obtain ⟨b, o, c2, e, hlc, hcm, hbl, hcs⟩ := V.out.s.lies (by omega)
      rw [N.out] at e hlc
      obtain ⟨rfl, _, rfl⟩ := Value.slice.inj e
      unfold maxLen at hcm
      obtain ⟨q, za, n1, zc, kk, ra, n2, rc, x0, x1, x2, x3, hag⟩ := (hcs.below hbl hb).agg hkl
      have cF : ∀ w1, Below w.heap.size w w1 → _ := fun w1 h1 => lownA l[k]! w1 ((V.out.n _ (mem_get hkl)).below h1) (F.out.at (mem_get hkl))
      rw [hag] at cF
      have hnx : Hid ((pl l).take (k + 1) = (pl l).take k ++ [(l[k]!).ln]) := Lib.hid (by rw [List.take_succ_eq_append_getElem (by rw [pl_length]; exact hkl)]; congr 2; rw [← pl_get l k hkl, List.getElem!_eq_getElem?_getD, List.getElem?_eq_getElem (by rw [pl_length]; exact hkl)]; rfl)
      obtain ⟨X, hX⟩ : ∃ X, l[k]! = X := ⟨_, rfl⟩
      rw [hX] at cF hnx
      have hkI : (k : Int) < (n : Int) := by omega
      have hbw : b < wr.heap.size := Nat.lt_of_lt_of_le hbl hb.size
      have hws := hb.size
      clear hcs e hkl hag hX
      go_wp2_with (first
        | (go_at_call 68; ((with_reducible refine (cF _ (hb.alloc hws _)).mono ?_); rintro e w2 ⟨y, rfl, hyl, hy, hb2⟩; have HY := Lib.hid (And.intro hyl (hy.mono (show wr.heap.size ≤ _ by first | exact Nat.le_refl _ | (simp; done)))); have hb3 : Below wr.heap.size wr w2 := (below_alloc1 wr _).trans (hb2.mono (by simp)); have hy1 := one_line w2 y; unfold aggL Lw.sl Lw.sc at *; clear hyl hy hb2))
        | (at_builtin; refine wpList_append_line rfl _ _ rfl w.heap.size (.slice u k cap) m rfl (ownsRow_below HO.out.own (hb3.trans (below_alloc1 w2 _ |>.mono hb3.size))) _ y rfl hy1 (by rw [ML.out]; omega) (by simp; have := hb3.size; omega) (w2.heap.size + 1) (by simp) ?_; intro g cap' w4 hown hgrow hat; rw [ML.out]))
      go_roundw
      case rel =>
        have A9 := hb3.trans ((below_alloc1 w2 (.cells #[.int .i64 y.ln.q, .slice y.za y.ln.ls.length y.zc, .int .i64 y.ln.k, .slice y.ra y.ln.cs.length y.rc] 46)).mono hb3.size)
        refine ⟨k + 1, m ++ [y], hlt, by rw [List.length_append, ML.out]; rfl, by go_num, Lib.hid ?_, Lib.hid ?_, ?_⟩
        · rw [pl_append, HM.out, hnx.out]
          unfold pl
          rw [List.map_cons, List.map_nil, HY.out.1]
        · rw [ML.out] at hown
          exact ownD_put HO.out A9 hws (HY.out.2.below (below_alloc1 _ _)) hown hgrow (by
            rcases hat with h | h
            · exact .inl h.symm
            · refine .inr (fun g' e => ?_)
              cases e
              rw [h]; simp)
        · exact (hb.trans (A9.mono hws)).grown hgrow (by have := A9.size; omega) (fun r e => (ownBlk HO.out.own e).1)
      case measure => simp [RowKit.intOf]; omega
    · have hkn : k = n := by omega
      subst hkn
      have HP : Hid (pl m = pl l) := Lib.hid (by rw [HM.out, List.take_of_length_le (by rw [pl_length, N.out]; omega)])
      clear HM
      go_wp2
      go_ret
      exact ⟨_, m, rfl, HO.out, HP.out, hb⟩

set_option maxRecDepth 20000 in
set_option maxHeartbeats 8000000 in
theorem rdown_any (v : Value) (l : List Lw) (w : World) (h : DocAt w v l) (hf : Fine (pl l)) :
    Calls Tryz.prog 12 #[v] w (DocPost (pl l) w) := by
  obtain ⟨a, c, rfl⟩ := h.s.len
  have hl := hf.len
  have V := Lib.hid h
  have F := Lib.hid hf
  obtain ⟨n, hn⟩ : ∃ n, l.length = n := ⟨_, rfl⟩
  rw [hn] at hl V ⊢
  have N := Lib.hid hn
  clear h hf hn
  go_enter Tryz.func12, Tryz.ntmps12
  go_wp2
  go_loopw [3, 4] (fun s i wr => ∃ (k : Nat) (m : List Lw), k ≤ n ∧ m.length = k ∧ i = .int .i64 k ∧ Hid (pl m = (pl l).take k) ∧ Hid (OwnD w.heap.size wr s m) ∧ Below w.heap.size w wr) (fun s i _ => n - (RowKit.intOf i).toNat)
  case atStart => exact ⟨0, [], Nat.zero_le _, rfl, rfl, Lib.hid rfl, Lib.hid (ownD_nil _ _), Below.refl _ _⟩
  case round =>
    obtain ⟨k, m, hk, hml, rfl, HM, HO, hb⟩ := hrel
    obtain ⟨u, cap, rfl⟩ := own_len HO.out.own
    have ML := Lib.hid hml
    rw [hml] at HO ⊢
    clear hml
    by_cases hlt : k < n
    · have hkl : k < l.length := by rw [N.out]; exact hlt
      obtain ⟨b, o, c2, e, hlc, hcm, hbl, hcs⟩ := V.out.s.lies (by omega)
      rw [N.out] at e hlc
      obtain ⟨rfl, _, rfl⟩ := Value.slice.inj e
      unfold maxLen at hcm
      obtain ⟨q, za, n1, zc, kk, ra, n2, rc, x0, x1, x2, x3, hag⟩ := (hcs.below hbl hb).agg hkl
      have cF : ∀ w1, Below w.heap.size w w1 → _ := fun w1 h1 => rlownA l[k]! w1 ((V.out.n _ (mem_get hkl)).below h1) (F.out.at (mem_get hkl))
      rw [hag] at cF
      have hnx : Hid ((pl l).take (k + 1) = (pl l).take k ++ [(l[k]!).ln]) := Lib.hid (by rw [List.take_succ_eq_append_getElem (by rw [pl_length]; exact hkl)]; congr 2; rw [← pl_get l k hkl, List.getElem!_eq_getElem?_getD, List.getElem?_eq_getElem (by rw [pl_length]; exact hkl)]; rfl)
      obtain ⟨X, hX⟩ : ∃ X, l[k]! = X := ⟨_, rfl⟩
      rw [hX] at cF hnx
      have hkI : (k : Int) < (n : Int) := by omega
      have hbw : b < wr.heap.size := Nat.lt_of_lt_of_le hbl hb.size
      have hws := hb.size
      clear hcs e hkl hag hX
      go_wp2_with (first
        | (go_at_call 55; ((with_reducible refine (cF _ hb).mono ?_); rintro e w2 ⟨y, rfl, hyl, hy, hb2⟩; have HY := Lib.hid (And.intro hyl (hy.mono (show wr.heap.size ≤ _ by first | exact Nat.le_refl _ | (simp; done)))); have hb3 : Below wr.heap.size wr w2 := hb2; have hy1 := one_line w2 y; unfold aggL Lw.sl Lw.sc at *; clear hyl hy hb2))
        | (at_builtin; refine wpList_append_line rfl _ _ rfl w.heap.size (.slice u k cap) m rfl (ownsRow_below HO.out.own (hb3.trans (below_alloc1 w2 _ |>.mono hb3.size))) _ y rfl hy1 (by rw [ML.out]; omega) (by simp; have := hb3.size; omega) (w2.heap.size + 1) (by simp) ?_; intro g cap' w4 hown hgrow hat; rw [ML.out]))
      go_roundw
      case rel =>
        have A9 := hb3.trans ((below_alloc1 w2 (.cells #[.int .i64 y.ln.q, .slice y.za y.ln.ls.length y.zc, .int .i64 y.ln.k, .slice y.ra y.ln.cs.length y.rc] 46)).mono hb3.size)
        refine ⟨k + 1, m ++ [y], hlt, by rw [List.length_append, ML.out]; rfl, by go_num, Lib.hid ?_, Lib.hid ?_, ?_⟩
        · rw [pl_append, HM.out, hnx.out]
          unfold pl
          rw [List.map_cons, List.map_nil, HY.out.1]
        · rw [ML.out] at hown
          exact ownD_put HO.out A9 hws (HY.out.2.below (below_alloc1 _ _)) hown hgrow (by
            rcases hat with h | h
            · exact .inl h.symm
            · refine .inr (fun g' e => ?_)
              cases e
              rw [h]; simp)
        · exact (hb.trans (A9.mono hws)).grown hgrow (by have := A9.size; omega) (fun r e => (ownBlk HO.out.own e).1)
      case measure => simp [RowKit.intOf]; omega
    · have hkn : k = n := by omega
      subst hkn
      have HP : Hid (pl m = pl l) := Lib.hid (by rw [HM.out, List.take_of_length_le (by rw [pl_length, N.out]; omega)])
      clear HM
      go_wp2
      go_ret
      exact ⟨_, m, rfl, HO.out, HP.out, hb⟩

end Go.Proofs.YtafincmcmgedbaaGreatDoor

namespace Go.Proofs.YtafincmcmgedbaaGreatDoor
open Go.RowKit Go.Lib

theorem three_cells (w : World) (a b c : Value) (t : TypeId) : (w.alloc (.cells #[a, b, c] t)).cell? ⟨w.heap.size, 0, none⟩ = some a ∧ (w.alloc (.cells #[a, b, c] t)).cell? ⟨w.heap.size, 1, none⟩ = some b ∧ (w.alloc (.cells #[a, b, c] t)).cell? ⟨w.heap.size, 2, none⟩ = some c := by
  refine ⟨?_, ?_, ?_⟩ <;> simp
/-- Three parts in a slice that was just made, one behind the other. -/
theorem concat_parts {B : Nat} {w wc : World} {g : Nat} {u1 u2 u3 : Value} {m1 m2 m3 : List Lw} (c1 : wc.cell? ⟨g, 0, none⟩ = some u1) (c2 : wc.cell? ⟨g, 1, none⟩ = some u2) (c3 : wc.cell? ⟨g, 2, none⟩ = some u3)
    (h1 : SliceAt wc u1 m1) (h2 : SliceAt wc u2 m2) (h3 : SliceAt wc u3 m3) (n1 : ∀ x ∈ m1, MineLw B wc x) (n2 : ∀ x ∈ m2, MineLw B wc x) (n3 : ∀ x ∈ m3, MineLw B wc x) (hl : m1.length + m2.length + m3.length ≤ 100000) (hB : B ≤ wc.heap.size) (hb : Below w.heap.size w wc) :
    Calls Tryz.prog 111 #[.slice (some ⟨g, 0, none⟩) 3 3] wc fun e w' => ∃ v r, e = .returned v ∧ OwnD B w' v r ∧ pl r = pl m1 ++ pl m2 ++ pl m3 ∧ Below w.heap.size w w' := by
  refine (concatD3 g u1 u2 u3 m1 m2 m3 wc c1 c2 c3 h1 h2 h3 hl).mono ?_
  rintro e w' ⟨v, rfl, own, hb'⟩
  have hn : ∀ x ∈ m1 ++ m2 ++ m3, MineLw B wc x := fun x hx => by
    rcases List.mem_append.1 hx with hx | hx
    · rcases List.mem_append.1 hx with hx | hx
      · exact n1 x hx
      · exact n2 x hx
    · exact n3 x hx
  exact ⟨v, m1 ++ m2 ++ m3, rfl, ⟨own.mono hB, fun x hx => (hn x hx).below hb', fun x hx g e => offB_hi (hn x hx).at (ownBlk own e).1⟩, by rw [pl_append, pl_append], hb.trans (hb'.mono hb.size)⟩

theorem rep_fin {B B1 B2 : Nat} {w w2 wc : World} {g : Nat} {u1 u u2 : Value} {m1 m m2 : List Lw} (hb : Below w.heap.size w w2) (o1 : OwnD B1 w2 u1 m1) (o2 : OwnD B2 w2 u2 m2) (hu : SliceAt w u m) (hm : ∀ x ∈ m, MineLw B w x) (hB : B ≤ w.heap.size) (hB1 : w.heap.size ≤ B1) (hB2 : w.heap.size ≤ B2)
    (hl1 : m1.length ≤ 1000) (hl : m.length ≤ 1000) (hl2 : m2.length ≤ 1000) (E : Below w2.heap.size w2 wc) (c1 : wc.cell? ⟨g, 0, none⟩ = some u1) (c2 : wc.cell? ⟨g, 1, none⟩ = some u) (c3 : wc.cell? ⟨g, 2, none⟩ = some u2) :
    Calls Tryz.prog 111 #[.slice (some ⟨g, 0, none⟩) 3 3] wc fun e w' => ∃ v r, e = .returned v ∧ OwnD B w' v r ∧ pl r = pl m1 ++ pl m ++ pl m2 ∧ Below w.heap.size w w' := by
  have hbc := hb.trans (E.mono hb.size)
  exact concat_parts c1 c2 c3 (sliceAt_of_own (o1.below E).own) (hu.below hbc) (sliceAt_of_own (o2.below E).own) (fun x hx => ((o1.below E).n x hx).mono (by omega)) (fun x hx => (hm x hx).below hbc) (fun x hx => ((o2.below E).n x hx).mono (by omega)) (by omega) (by have := hbc.size; omega) hbc

set_option maxRecDepth 20000 in
set_option maxHeartbeats 16000000 in
theorem dreplace_any (v u : Value) (l m : List Lw) (al aa bl ba B : Nat) (w : World) (h : DocAt w v l) (hf : Fine (pl l)) (hbl : bl < l.length) (hab : al ≤ bl) (hu : SliceAt w u m) (hm : ∀ x ∈ m, MineLw B w x) (hml : m.length ≤ 1000) (hB : B ≤ w.heap.size) :
    Calls Tryz.prog 78 #[v, psV ((al : Int), (aa : Int)), psV ((bl : Int), (ba : Int)), u] w fun e w' => ∃ v' r, e = .returned v' ∧ OwnD B w' v' r ∧ pl r = replaceD (pl l) al bl (pl m) ∧ Below w.heap.size w w' := by
  obtain ⟨v1, s1, r1⟩ := cut_h h.s al (by omega)
  obtain ⟨v2, s2, r2⟩ := cut_l h.s (bl + 1) (by omega)
  have cO1 : ∀ w1, Below w.heap.size w w1 → _ := fun w1 h1 => down_any v1 (l.take al) w1 ((h.take s1).below h1) (by rw [pl_take]; exact hf.take _)
  have cO2 : ∀ w1, Below w.heap.size w w1 → _ := fun w1 h1 => down_any v2 (l.drop (bl + 1)) w1 ((h.drop s2).below h1) (by rw [pl_drop]; exact hf.drop _)
  obtain ⟨a, c, rfl⟩ := h.s.len
  obtain ⟨a1, c1, rfl⟩ := s1.len
  obtain ⟨a2, c2, rfl⟩ := s2.len
  obtain ⟨a3, c3, rfl⟩ := hu.len
  have hll := hf.len
  unfold replaceD
  rw [← pl_take, ← pl_drop]
  have HL1 : (l.take al).length ≤ 1000 := by rw [List.length_take]; omega
  have HL2 : (l.drop (bl + 1)).length ≤ 1000 := by rw [List.length_drop]; omega
  obtain ⟨d1, hd1⟩ : ∃ d, pl (l.take al) = d := ⟨_, rfl⟩
  obtain ⟨d2, hd2⟩ : ∃ d, pl (l.drop (bl + 1)) = d := ⟨_, rfl⟩
  have K1 : d1.length ≤ 1000 := by rw [← hd1, pl_length]; exact HL1
  have K2 : d2.length ≤ 1000 := by rw [← hd2, pl_length]; exact HL2
  rw [hd1] at cO1 ⊢
  rw [hd2] at cO2 ⊢
  rw [show ((bl + 1 : Nat) : Int) = (bl : Int) + 1 by omega] at r2
  have HU := Lib.hid hu
  have HM := Lib.hid hm
  have P0 := Lib.hid ((ps_new w (al : Int) (aa : Int)).below (below_alloc1 _ (.cells #[.int .i64 (bl : Int), .int .i64 (ba : Int)] 24)))
  have P1 := Lib.hid (ps_new (w.alloc (.cells #[.int .i64 (al : Int), .int .i64 (aa : Int)] 24)) (bl : Int) (ba : Int))
  rw [show (w.alloc (.cells #[.int .i64 (al : Int), .int .i64 (aa : Int)] 24)).heap.size = w.heap.size + 1 by simp] at P1
  have hX := Lib.hid (two_allocs w (.cells #[.int .i64 (al : Int), .int .i64 (aa : Int)] 24) (.cells #[.int .i64 (bl : Int), .int .i64 (ba : Int)] 24))
  have hsz : ((w.alloc (.cells #[.int .i64 (al : Int), .int .i64 (aa : Int)] 24)).alloc (.cells #[.int .i64 (bl : Int), .int .i64 (ba : Int)] 24)).heap.size = w.heap.size + 2 := by simp
  obtain ⟨n, hn⟩ : ∃ n, l.length = n := ⟨_, rfl⟩
  obtain ⟨n1, hn1⟩ : ∃ n, (l.take al).length = n := ⟨_, rfl⟩
  obtain ⟨n2, hn2⟩ : ∃ n, (l.drop (bl + 1)).length = n := ⟨_, rfl⟩
  obtain ⟨n3, hn3⟩ : ∃ n, m.length = n := ⟨_, rfl⟩
  rw [hn] at r1 r2 hbl hll ⊢
  rw [hn1] at cO1 r1
  rw [hn2] at cO2 r2
  rw [hn3] at HU ⊢
  clear h hf hu hm hn hn1 hn2 hn3 s1 s2 hd1 hd2 HL1 HL2
  go_enter Tryz.func78, Tryz.ntmps78
  go_wp2
  obtain ⟨W, hW⟩ : ∃ W, (w.alloc (.cells #[.int .i64 (al : Int), .int .i64 (aa : Int)] 24)).alloc (.cells #[.int .i64 (bl : Int), .int .i64 (ba : Int)] 24) = W := ⟨_, rfl⟩
  rw [hW] at P0 P1 hX hsz ⊢
  obtain ⟨l0, x0, x1, _, _⟩ := P0.out
  obtain ⟨l1, y0, y1, _, _⟩ := P1.out
  have hb : Below W.heap.size W W := Below.refl _ _
  have hbW := hX.out
  clear hW hX
  have hbw := hbW.size
  have hwk : IntKind.i64.wrap ((bl : Int) + 1) = (bl : Int) + 1 := IntWalk.i64_in _ (by omega)
  go_region_with (first
    | (go_at_call 32; ((with_reducible refine (cO1 _ ?hb).mono ?_); (case hb => exact hbW.trans (Below.mono (show Below W.heap.size W _ by (repeat (first | (with_reducible exact hb) | (with_reducible refine Below.drew ?_)))) hbw)); rintro e w1 ⟨u1, m1, rfl, o1, p1, hb1⟩; obtain ⟨b1, e1, hu1⟩ := own_len o1.own; subst hu1; have O1 := Lib.hid (And.intro (o1.mono (C := w.heap.size) ((hbW.trans (Below.mono (show Below W.heap.size W _ by (repeat (first | (with_reducible exact hb) | (with_reducible refine Below.drew ?_)))) hbw)).size)) p1); replace hb := (show Below W.heap.size W _ by (repeat (first | (with_reducible exact hb) | (with_reducible refine Below.drew ?_)))).trans (hb1.mono (by have := hb.size; first | exact this | (simp; done) | (simp; exact this))); obtain ⟨_, x0, x1, _, _⟩ := P0.out.below hb; obtain ⟨_, y0, y1, _, _⟩ := P1.out.below hb; clear o1 p1 hb1))
    | (go_at_call 32; ((with_reducible refine (cO2 _ ?hb).mono ?_); (case hb => exact hbW.trans (Below.mono (show Below W.heap.size W _ by (repeat (first | (with_reducible exact hb) | (with_reducible refine Below.drew ?_)))) hbw)); rintro e w2 ⟨u2, m2, rfl, o2, p2, hb2⟩; obtain ⟨b2, e2, hu2⟩ := own_len o2.own; subst hu2; have O2 := Lib.hid (And.intro (o2.mono (C := w.heap.size) ((hbW.trans (Below.mono (show Below W.heap.size W _ by (repeat (first | (with_reducible exact hb) | (with_reducible refine Below.drew ?_)))) hbw)).size)) p2); have Q1 := Lib.hid (And.intro (O1.out.1.below ((show Below w1.heap.size w1 _ by (repeat (first | (with_reducible exact Below.refl _ _) | (with_reducible refine Below.drew ?_)))).trans (hb2.mono (by first | exact Nat.le_refl _ | (simp; done))))) O1.out.2); clear O1; replace hb := (show Below W.heap.size W _ by (repeat (first | (with_reducible exact hb) | (with_reducible refine Below.drew ?_)))).trans (hb2.mono (by have := hb.size; first | exact this | (simp; done) | (simp; exact this))); obtain ⟨_, x0, x1, _, _⟩ := P0.out.below hb; obtain ⟨_, y0, y1, _, _⟩ := P1.out.below hb; clear o2 p2 hb2))
    | (go_at_call 111; ((with_reducible refine (rep_fin (hbW.trans (hb.mono hbw)) Q1.out.1 O2.out.1 HU.out HM.out hB (Nat.le_refl _) (Nat.le_refl _) ?l1 hml ?l2 ?E ?c1 ?c2 ?c3).mono ?_); (case l1 => rw [← pl_length, Q1.out.2]; exact K1); (case l2 => rw [← pl_length, O2.out.2]; exact K2); (case E => (repeat (first | (with_reducible exact Below.refl _ _) | (with_reducible refine Below.drew ?_) | (with_reducible refine Below.alloc ?_ ?_ _) | exact Nat.le_refl _ | (simp; done)))); (case c1 => simp [go_sem]); (case c2 => simp [go_sem]); (case c3 => simp [go_sem]); rintro e w4 ⟨v', r, rfl, oR, pR, hbR⟩; obtain ⟨a4, c4, e4⟩ := own_len oR.own; subst e4; have OR := Lib.hid (And.intro oR (And.intro pR hbR)); clear oR pR hbR)))
  all_goals go_wp2
  all_goals go_ret
  all_goals exact ⟨_, r, rfl, OR.out.1, by rw [OR.out.2.1, Q1.out.2, O2.out.2], OR.out.2.2⟩

end Go.Proofs.YtafincmcmgedbaaGreatDoor
