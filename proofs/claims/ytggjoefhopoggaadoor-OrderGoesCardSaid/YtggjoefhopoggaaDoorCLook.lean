/-
  look: what is told of a plain tree.
-/
import Derived.Test.YtggjoefhopoggaaDoorCPn
import Derived.Laws.EntriesVeiled

namespace Go.Proofs.YtggjoefhopoggaaDoor
open Go.RowKit Go.Lib

/-- What is told so far lies in block L. -/
structure LkAt (w : World) (L : Nat) (wr lg : Bool) (h c : Int) : Prop where
  c0 : w.cell? ⟨L, 0, none⟩ = some (.bool wr)
  c1 : w.cell? ⟨L, 1, none⟩ = some (.bool lg)
  c2 : w.cell? ⟨L, 2, none⟩ = some (.int .i64 h)
  c3 : w.cell? ⟨L, 3, none⟩ = some (.int .i64 c)
  f : ∀ j, w.frozen? ⟨L, j, none⟩ = false
theorem LkAt.below {w w' : World} {L : Nat} {wr lg : Bool} {h c : Int} (k : LkAt w L wr lg h c) (hb : Below w.heap.size w w') : LkAt w' L wr lg h c := by
  have hL := lt_of_cell' k.c0
  exact ⟨(hb.cell (p := ⟨L, 0, none⟩) hL).trans k.c0, (hb.cell (p := ⟨L, 1, none⟩) hL).trans k.c1, (hb.cell (p := ⟨L, 2, none⟩) hL).trans k.c2, (hb.cell (p := ⟨L, 3, none⟩) hL).trans k.c3, fun j => (hb.frozen (p := ⟨L, j, none⟩) hL).trans (k.f j)⟩
def onV (L O : Nat) : Value := .func (.func 82) #[] #[.pointer (some ⟨L, 0, none⟩), .pointer (some ⟨O, 0, none⟩)]

/-- What stands, while a node is looked at: bx, the box of it. -/
structure St (w0 w : World) (L O bx : Nat) (wr lg : Bool) (h c : Int) (tag : Int) (aa : Option Addr) (an ac : Nat) (tx : ByteArray) (ka : Option Addr) (kn kc : Nat) : Prop where
  b : Below w0.heap.size w0 w
  k : LkAt w L wr lg h c
  o : w.cell? ⟨O, 0, none⟩ = some (onV L O)
  x0 : w.cell? ⟨bx, 0, none⟩ = some (.int .i64 tag)
  x1 : w.cell? ⟨bx, 1, none⟩ = some (.slice aa an ac)
  x2 : w.cell? ⟨bx, 2, none⟩ = some (.string tx)
  x3 : w.cell? ⟨bx, 3, none⟩ = some (.slice ka kn kc)
section
variable {w0 w w' : World} {L O bx : Nat} {wr lg : Bool} {h c tag : Int} {aa ka : Option Addr} {an ac kn kc : Nat} {tx : ByteArray}
theorem St.below (s : St w0 w L O bx wr lg h c tag aa an ac tx ka kn kc) (hb : Below w.heap.size w w') : St w0 w' L O bx wr lg h c tag aa an ac tx ka kn kc :=
  ⟨s.b.trans (hb.mono s.b.size), s.k.below hb, (hb.cell (p := ⟨O, 0, none⟩) (lt_of_cell' s.o)).trans s.o, (hb.cell (p := ⟨bx, 0, none⟩) (lt_of_cell' s.x0)).trans s.x0, (hb.cell (p := ⟨bx, 1, none⟩) (lt_of_cell' s.x1)).trans s.x1, (hb.cell (p := ⟨bx, 2, none⟩) (lt_of_cell' s.x2)).trans s.x2, (hb.cell (p := ⟨bx, 3, none⟩) (lt_of_cell' s.x3)).trans s.x3⟩
/-- What is told turns in one part. -/
theorem St.set (s : St w0 w L O bx wr lg h c tag aa an ac tx ka kn kc) (hL : w0.heap.size ≤ L) (hO : L ≠ O) (hx : L ≠ bx) (j : Nat) (u : Value) {wr2 lg2 : Bool} {h2 c2 : Int} (hk : LkAt (w.setCell ⟨L, j, none⟩ u) L wr2 lg2 h2 c2) : St w0 (w.setCell ⟨L, j, none⟩ u) L O bx wr2 lg2 h2 c2 tag aa an ac tx ka kn kc :=
  ⟨s.b.setCell (p := ⟨L, j, none⟩) hL _, hk, (World.cell?_setCell_far w ⟨L, j, none⟩ _ _ hO).trans s.o, (World.cell?_setCell_far w ⟨L, j, none⟩ _ _ hx).trans s.x0, (World.cell?_setCell_far w ⟨L, j, none⟩ _ _ hx).trans s.x1, (World.cell?_setCell_far w ⟨L, j, none⟩ _ _ hx).trans s.x2, (World.cell?_setCell_far w ⟨L, j, none⟩ _ _ hx).trans s.x3⟩
theorem LkAt.set0 (k : LkAt w L wr lg h c) (b : Bool) : LkAt (w.setCell ⟨L, 0, none⟩ (.bool b)) L b lg h c :=
  have hc : ∀ j, j ≠ 0 → (w.setCell ⟨L, 0, none⟩ (.bool b)).cell? ⟨L, j, none⟩ = w.cell? ⟨L, j, none⟩ := fun j hj => World.cell?_setCell_other _ _ _ _ (fun e => hj (congrArg Addr.off e).symm)
  ⟨World.cell?_setCell_same _ _ _ k.c0, (hc 1 (by decide)).trans k.c1, (hc 2 (by decide)).trans k.c2, (hc 3 (by decide)).trans k.c3, fun j => by rw [World.frozen?_setCell]; exact k.f j⟩
theorem LkAt.set1 (k : LkAt w L wr lg h c) (b : Bool) : LkAt (w.setCell ⟨L, 1, none⟩ (.bool b)) L wr b h c :=
  have hc : ∀ j, j ≠ 1 → (w.setCell ⟨L, 1, none⟩ (.bool b)).cell? ⟨L, j, none⟩ = w.cell? ⟨L, j, none⟩ := fun j hj => World.cell?_setCell_other _ _ _ _ (fun e => hj (congrArg Addr.off e).symm)
  ⟨(hc 0 (by decide)).trans k.c0, World.cell?_setCell_same _ _ _ k.c1, (hc 2 (by decide)).trans k.c2, (hc 3 (by decide)).trans k.c3, fun j => by rw [World.frozen?_setCell]; exact k.f j⟩
theorem LkAt.set2 (k : LkAt w L wr lg h c) (z : Int) : LkAt (w.setCell ⟨L, 2, none⟩ (.int .i64 z)) L wr lg z c :=
  have hc : ∀ j, j ≠ 2 → (w.setCell ⟨L, 2, none⟩ (.int .i64 z)).cell? ⟨L, j, none⟩ = w.cell? ⟨L, j, none⟩ := fun j hj => World.cell?_setCell_other _ _ _ _ (fun e => hj (congrArg Addr.off e).symm)
  ⟨(hc 0 (by decide)).trans k.c0, (hc 1 (by decide)).trans k.c1, World.cell?_setCell_same _ _ _ k.c2, (hc 3 (by decide)).trans k.c3, fun j => by rw [World.frozen?_setCell]; exact k.f j⟩
theorem LkAt.set3 (k : LkAt w L wr lg h c) (z : Int) : LkAt (w.setCell ⟨L, 3, none⟩ (.int .i64 z)) L wr lg h z :=
  have hc : ∀ j, j ≠ 3 → (w.setCell ⟨L, 3, none⟩ (.int .i64 z)).cell? ⟨L, j, none⟩ = w.cell? ⟨L, j, none⟩ := fun j hj => World.cell?_setCell_other _ _ _ _ (fun e => hj (congrArg Addr.off e).symm)
  ⟨(hc 0 (by decide)).trans k.c0, (hc 1 (by decide)).trans k.c1, (hc 2 (by decide)).trans k.c2, World.cell?_setCell_same _ _ _ k.c3, fun j => by rw [World.frozen?_setCell]; exact k.f j⟩
end

def LookPost (w0 _ : World) (L O : Nat) (g lg : Bool) (h c : Int) (e : Ending) (w' : World) : Prop :=
  e = .returned (.bool g) ∧ Below w0.heap.size w0 w' ∧ w'.cell? ⟨O, 0, none⟩ = some (onV L O) ∧ (g = true → LkAt w' L false lg h c) ∧ (g = false → ∃ lg' h' c', LkAt w' L true lg' h' c')

set_option maxRecDepth 20000 in
set_option maxHeartbeats 8000000 in
theorem on_any (w0 : World) (L O : Nat) (hL : w0.heap.size ≤ L) (hO : w0.heap.size ≤ O) (hLO : L ≠ O) (hT : OwnT w0) : ∀ (n : Nat) (t : Pn), sizeP t ≤ n → PlAt w0 t → ∀ (w : World) (lev h c : Int) (wr lg : Bool), Below w0.heap.size w0 w → LkAt w L wr lg h c → w.cell? ⟨O, 0, none⟩ = some (onV L O) → 0 ≤ lev → lev + sizeP t ≤ 60000 → 0 ≤ c → c + sizeP t ≤ 1000000 →
    Calls Tryd.prog 82 #[t.v, .int .i64 lev, .pointer (some ⟨L, 0, none⟩), .pointer (some ⟨O, 0, none⟩)] w (LookPost w0 w L O (goodP t) (lg || !shortP t) (highP lev h t) (c + sizeP t))
  | 0, t, hn, _ => by have := sizeP_pos t; omega
  | n + 1, t, hn, hP => by
    intro w lev h c wr lg hb hk ho l1 l2 k1 k2
    obtain ⟨prow, plen, psz, pkn, pk1, pkr, pks⟩ := hP.parts
    have cM := fun (w1 : World) (hb : Below w0.heap.size w0 w1) => may_any t w1 (hT.below hb)
    have cN := fun (w1 : World) => anew_any t.tx w1
    obtain ⟨ok, hok⟩ : ∃ ok, okS t.tx = ok := ⟨_, rfl⟩
    have hN : ∃ v, (Value.tuple (if t.tx.size ≤ 8192 then #[.string (anewS t.tx), .bool (decide ((anewS t.tx).size ≤ 8192))] else #[.string ⟨#[]⟩, .bool false])) = .tuple #[v, .bool ok] := by
      rw [← hok]
      unfold okS
      by_cases h1 : t.tx.size ≤ 8192
      · rw [if_pos h1, decide_eq_true h1]; exact ⟨_, rfl⟩
      · rw [if_neg h1, decide_eq_false h1]; exact ⟨_, rfl⟩
    obtain ⟨nv, hnv⟩ := hN
    rw [hnv] at cN
    have hsz := sizeP_eq t
    have hhi := highP_eq lev h t
    have hsh := shortP_eq t
    have hgo := goodP_eq t
    obtain ⟨c0, c1, c2, c3, cf⟩ := hk
    have hf := cf
    have f0 := cf 0
    have f1 := cf 1
    have f2 := cf 2
    have f3 := cf 3
    have hOl : O < w.heap.size := lt_of_cell' ho
    have hLl : L < w.heap.size := lt_of_cell' c0
    obtain ⟨tag, h1⟩ : ∃ z, t.tag = z := ⟨_, rfl⟩
    obtain ⟨aa, h2⟩ : ∃ z, t.aa = z := ⟨_, rfl⟩
    obtain ⟨an, h3⟩ : ∃ z, t.an = z := ⟨_, rfl⟩
    obtain ⟨ac, h4⟩ : ∃ z, t.ac = z := ⟨_, rfl⟩
    obtain ⟨tx, h5⟩ : ∃ z, t.tx = z := ⟨_, rfl⟩
    obtain ⟨ka, h6⟩ : ∃ z, t.ka = z := ⟨_, rfl⟩
    obtain ⟨kn, h7⟩ : ∃ z, t.kn = z := ⟨_, rfl⟩
    obtain ⟨kc, h8⟩ : ∃ z, t.kc = z := ⟨_, rfl⟩
    have hv : t.v = .agg #[.int .i64 tag, .slice aa an ac, .string tx, .slice ka kn kc] := by unfold Pn.v; rw [h1, h2, h3, h4, h5, h6, h7, h8]
    rw [hv] at cM ⊢
    rw [h5] at cN
    rw [h7] at pkn pk1
    unfold maxLen at pk1
    rw [h6] at pkr
    have HB := Lib.hid hb
    have HG := Lib.hid (And.intro hgo (And.intro hsh (And.intro hhi hsz)))
    have HK := Lib.hid (And.intro pkn (And.intro pkr pks))
    obtain ⟨g, hg⟩ : ∃ g, mayP t = g := ⟨_, rfl⟩
    rw [hg] at cM
    have HM := Lib.hid (And.intro hg hok)
    have lb : (lev == 65536) = false := by have := sizeP_pos t; simp; omega
    have cb : (c + 1 == 2147483647) = false := by have := sizeP_pos t; simp; omega
    have lb2 : ¬ lev = 65536 := by have := sizeP_pos t; omega
    have cb2 : ¬ c + 1 = 2147483647 := by have := sizeP_pos t; omega
    have cw : IntKind.i64.wrap (c + 1) = c + 1 := IntWalk.i64_in _ (by have := sizeP_pos t; omega)
    clear prow plen psz pkn pkr pks hok hnv hgo hsh hhi hg h1 h2 h3 h4 h5 h6 h7 h8 hv hb cf
    have S0 : St w0 (w.alloc (.cells #[.int .i64 tag, .slice aa an ac, .string tx, .slice ka kn kc] 67)) L O w.heap.size wr lg h c tag aa an ac tx ka kn kc :=
      ⟨HB.out.alloc HB.out.size _, (LkAt.mk c0 c1 c2 c3 hf).below ((Below.refl _ _).alloc (Nat.le_refl _) _), (((Below.refl _ w).alloc (Nat.le_refl _) (.cells #[.int .i64 tag, .slice aa an ac, .string tx, .slice ka kn kc] 67)).cell (p := ⟨O, 0, none⟩) hOl).trans ho, by simp [go_sem], by simp [go_sem], by simp [go_sem], by simp [go_sem]⟩
    have hLx : L ≠ w.heap.size := by omega
    clear c0 c1 c2 c3 f0 f1 f2 f3 hf ho
    go_enter Tryd.func82, Tryd.ntmps82
    go_upto_region 1 with (fail)
    obtain ⟨W, hW⟩ : ∃ W, w.alloc (.cells #[.int .i64 tag, .slice aa an ac, .string tx, .slice ka kn kc] 67) = W := ⟨_, rfl⟩
    obtain ⟨bx, hbx⟩ : ∃ z, w.heap.size = z := ⟨_, rfl⟩
    rw [hW, hbx] at S0
    rw [hW, hbx]
    rw [hbx] at hLx
    clear hW hOl hLl hbx
    have HS0 := Lib.hid S0
    obtain ⟨_, ⟨d0, d1, d2, d3, df⟩, do_, x0, x1, x2, x3⟩ := S0
    have df0 := df 0
    clear df
    go_upto_region 2 with (go_at_call 83; ((with_reducible refine (cM _ HS0.out.b).mono ?_); rintro e w1 ⟨rfl, hb1⟩; have S1 := HS0.out.below hb1; have HS1 := Lib.hid S1; clear d0 d1 d2 d3 df0 do_ x0 x1 x2 x3; obtain ⟨_, ⟨d0, d1, d2, d3, df⟩, do_, x0, x1, x2, x3⟩ := S1; have df0 := df 0; clear df hb1))
    clear d0 d1 d2 d3 df0 do_ x0 x1 x2 x3
    obtain ⟨WA, hWn⟩ : ∃ z, w1.setCell ⟨L, 0, none⟩ (.bool !g) = z := ⟨_, rfl⟩
    have S2 := HS1.out.set hL hLO hLx 0 (.bool !g) (HS1.out.k.set0 _)
    rw [hWn] at S2
    rw [hWn]
    have HS2 := Lib.hid S2
    clear hWn
    clear HS0 HS1
    obtain ⟨_, ⟨d0, d1, d2, d3, df⟩, do_, x0, x1, x2, x3⟩ := S2
    have df1 := df 1
    clear df
    go_upto_region 3 with (go_at_call 71; ((with_reducible refine (cN _).mono ?_); rintro e w2 ⟨rfl, hb2⟩; have S3 := HS2.out.below hb2; have HS3 := Lib.hid S3; clear d0 d1 d2 d3 df1 do_ x0 x1 x2 x3; obtain ⟨_, ⟨d0, d1, d2, d3, df⟩, do_, x0, x1, x2, x3⟩ := S3; have df1 := df 1; clear df hb2))
    go_cut [] (fun wx => St w0 wx L O bx (!g) (lg || !ok) h c tag aa an ac tx ka kn kc)
    case first => as_aux_lemma =>
      cases lg with
      | true =>
        go_wp2
        go_meet
        exact HS3.out.set hL hLO hLx 1 (.bool true) (HS3.out.k.set1 _)
      | false =>
        cases ok with
        | true =>
          go_wp2
          go_meet
          exact HS3.out.set hL hLO hLx 1 (.bool false) (HS3.out.k.set1 _)
        | false =>
          go_wp2
          go_meet
          exact HS3.out.set hL hLO hLx 1 (.bool true) (HS3.out.k.set1 _)
    case rest =>
      obtain ⟨wd, hwd⟩ : ∃ z, wc = z := ⟨_, rfl⟩
      rw [hwd] at hcut
      rw [hwd]
      clear hwd wc
      have HS4 := Lib.hid hcut
      clear d0 d1 d2 d3 df1 do_ x0 x1 x2 x3 HS3 HS2
      obtain ⟨_, ⟨d0, d1, d2, d3, df⟩, do_, x0, x1, x2, x3⟩ := hcut
      have df2 := df 2
      clear df
      go_upto_region 4 with (fail)
      go_cut [] (fun wx => St w0 wx L O bx (!g) (lg || !ok) (max h lev) c tag aa an ac tx ka kn kc)
      case first => as_aux_lemma =>
        by_cases hm : h < lev
        · have e : max h lev = lev := by omega
          go_wp2
          all_goals go_meet
          all_goals rw [e]
          all_goals exact HS4.out.set hL hLO hLx 2 (.int .i64 lev) (HS4.out.k.set2 _)
        · have e : max h lev = h := by omega
          go_wp2
          all_goals go_meet
          all_goals rw [e]
          all_goals exact HS4.out.set hL hLO hLx 2 (.int .i64 h) (HS4.out.k.set2 _)
      case rest =>
        obtain ⟨we, hwe⟩ : ∃ z, wc = z := ⟨_, rfl⟩
        rw [hwe] at hcut
        rw [hwe]
        clear hwe wc
        have HS5 := Lib.hid hcut
        clear d0 d1 d2 d3 df2 do_ x0 x1 x2 x3 HS4
        obtain ⟨_, ⟨d0, d1, d2, d3, df⟩, do_, x0, x1, x2, x3⟩ := hcut
        have df3 := df 3
        clear df
        go_upto_region 6 with (fail)
        obtain ⟨wf, hWn⟩ : ∃ z, we.setCell ⟨L, 3, none⟩ (.int .i64 (c + 1)) = z := ⟨_, rfl⟩
        have S6 := HS5.out.set hL hLO hLx 3 (.int .i64 (c + 1)) (HS5.out.k.set3 _)
        rw [hWn] at S6
        rw [hWn]
        have HS6 := Lib.hid S6
        clear hWn d0 d1 d2 d3 df3 do_ x0 x1 x2 x3 HS5
        obtain ⟨_, ⟨d0, d1, d2, d3, df⟩, do_, x0, x1, x2, x3⟩ := S6
        clear df
        cases g with
        | false =>
          have hgf : goodP t = false := by rw [HG.out.1, HM.out.1]; rfl
          have HE : Hid (LookPost w0 w L O (goodP t) (lg || !shortP t) (highP lev h t) (c + sizeP t) (.returned (.bool false)) wf) := Lib.hid ⟨by rw [hgf], HS6.out.b, HS6.out.o, fun e => (by rw [hgf] at e; cases e), fun _ => ⟨_, _, _, HS6.out.k⟩⟩
          clear hgf
          go_wp2
          go_ret
          exact HE.out
        | true =>
          go_upto_region 8 with (fail)
          have H0 : Hid (highPs (lev + 1) (max h lev) (t.kids.drop 0) = highP lev h t ∧ ((lg || !ok) || !shortPs (t.kids.drop 0)) = (lg || !shortP t) ∧ c + 1 + (sizePs (t.kids.drop 0) : Int) = c + (sizeP t : Int) ∧ goodPs (t.kids.drop 0) = goodP t) := Lib.hid (by
            obtain ⟨a1, a2, a3, a4⟩ := HG.out
            rw [List.drop_zero]
            refine ⟨a3.symm, ?_, by omega, by rw [a1, HM.out.1]; simp⟩
            rw [a2, HM.out.2]
            cases lg <;> cases ok <;> simp)
          have ih := on_any w0 L O hL hO hLO hT n
          have HI := Lib.hid (And.intro hn (And.intro l1 (And.intro l2 (And.intro k1 k2))))
          obtain ⟨lg2, hlg2⟩ : ∃ z, (lg || !ok) = z := ⟨_, rfl⟩
          obtain ⟨h2, hh2⟩ : ∃ z, max h lev = z := ⟨_, rfl⟩
          rw [hlg2, hh2] at H0 HS6
          obtain ⟨R1, hR1⟩ : ∃ z, highP lev h t = z := ⟨_, rfl⟩
          obtain ⟨R2, hR2⟩ : ∃ z, (lg || !shortP t) = z := ⟨_, rfl⟩
          obtain ⟨R3, hR3⟩ : ∃ z, c + (sizeP t : Int) = z := ⟨_, rfl⟩
          obtain ⟨R4, hR4⟩ : ∃ z, goodP t = z := ⟨_, rfl⟩
          rw [hR1, hR2, hR3, hR4] at H0
          have HR3 := Lib.hid hR3
          have HRR := Lib.hid (And.intro hR1 (And.intro hR2 (And.intro hR3 hR4)))
          clear hlg2 hh2 hR1 hR2 hR3 hR4 HG HM hn cM cN k1 k2 l2 hP d1 d2 do_ cb lb cb2 lb2 cw
          go_wp2
          go_loopw [10, 51] (fun _ i wr => ∃ (k : Nat) (lg3 : Bool) (h3 c3 : Int), k ≤ kn ∧ i = .int .i64 k ∧ 0 ≤ c3 ∧ Hid (Below w0.heap.size w0 w0 → ((Below w0.heap.size w0 wr ∧ LkAt wr L false lg3 h3 c3 ∧ wr.cell? ⟨O, 0, none⟩ = some (onV L O)) ∧ highPs (lev + 1) h3 (t.kids.drop k) = R1 ∧ (lg3 || !shortPs (t.kids.drop k)) = R2 ∧ c3 + (sizePs (t.kids.drop k) : Int) = R3 ∧ goodPs (t.kids.drop k) = R4))) (fun _ i _ => kn - (RowKit.intOf i).toNat)
          case atStart => exact ⟨0, lg2, h2, c + 1, Nat.zero_le _, rfl, by have := HI.out; omega, Lib.hid (fun _ => ⟨⟨HS6.out.b, HS6.out.k, HS6.out.o⟩, H0.out⟩)⟩
          case round =>
            obtain ⟨k, lg3, h3, c3, hk, rfl, hc30, HA⟩ := hrel
            obtain ⟨⟨hbr, hkr, hor⟩, e1, e2, e3, e4⟩ := HA.out (Below.refl _ _)
            by_cases hlt : k < kn
            · have hkl : k < t.kids.length := by rw [← HK.out.1]; exact hlt
              have hkI : (k : Int) < (kn : Int) := by omega
              have hd : t.kids.drop k = t.kids[k] :: t.kids.drop (k + 1) := List.drop_eq_getElem_cons hkl
              have hget : t.kids[k]? = some t.kids[k] := List.getElem?_eq_getElem hkl
              have hmem : t.kids[k] ∈ t.kids := List.getElem_mem hkl
              obtain ⟨s, hs⟩ : ∃ s, t.kids[k] = s := ⟨_, rfl⟩
              rw [hd, hs] at e1 e2 e3 e4
              rw [hs] at hget hmem
              rw [highPs] at e1
              rw [shortPs] at e2
              rw [sizePs] at e3
              rw [goodPs] at e4
              have hrow := HK.out.2.1
              have hks := HK.out.2.2
              obtain ⟨b, o, eka, hbl, hcells⟩ : ∃ b o, ka = some ⟨b, o, none⟩ ∧ b < w0.heap.size ∧ ∀ (j : Nat) (t_1 : Pn), t.kids[j]? = some t_1 → w0.cell? ⟨b, o + j * 4, none⟩ = some (.int .i64 t_1.tag) ∧ w0.cell? ⟨b, o + j * 4 + 1, none⟩ = some (.slice t_1.aa t_1.an t_1.ac) ∧ w0.cell? ⟨b, o + j * 4 + 2, none⟩ = some (.string t_1.tx) ∧ w0.cell? ⟨b, o + j * 4 + 3, none⟩ = some (.slice t_1.ka t_1.kn t_1.kc) := by
                rcases hrow with h0 | h0
                · rw [h0] at hkl; simp at hkl
                · exact h0
              obtain ⟨y0, y1, y2, y3⟩ := hcells k s hget
              replace y0 := (hbr.cell (p := ⟨b, o + k * 4, none⟩) hbl).trans y0
              replace y1 := (hbr.cell (p := ⟨b, o + k * 4 + 1, none⟩) hbl).trans y1
              replace y2 := (hbr.cell (p := ⟨b, o + k * 4 + 2, none⟩) hbl).trans y2
              replace y3 := (hbr.cell (p := ⟨b, o + k * 4 + 3, none⟩) hbl).trans y3
              have hss := sizePs_mem t.kids s hmem
              obtain ⟨i1, i2, i3, i4, i5⟩ := HI.out
              have hlw : IntKind.i64.wrap (lev + 1) = lev + 1 := IntWalk.i64_in _ (by have := sizeP_pos s; omega)
              have h3c : 0 ≤ c3 ∧ c3 + (sizeP s : Int) ≤ 1000000 := by
                have := HR3.out
                have e3' := e3
                rw [Int.natCast_add] at e3'
                omega
              have cO := fun (w1 : World) (hb : Below wr.heap.size wr w1) => ih s (by omega) (hks s hmem) w1 (lev + 1) h3 c3 false lg3 (hbr.trans (hb.mono hbr.size)) (hkr.below hb) ((hb.cell (p := ⟨O, 0, none⟩) (lt_of_cell' hor)).trans hor) (by omega) (by omega) h3c.1 h3c.2
              have hv : s.v = .agg #[.int .i64 s.tag, .slice s.aa s.an s.ac, .string s.tx, .slice s.ka s.kn s.kc] := rfl
              rw [hv] at cO
              unfold LookPost at cO
              subst eka
              obtain ⟨D, hD⟩ : ∃ D, t.kids.drop (k + 1) = D := ⟨_, rfl⟩
              rw [hD] at e1 e2 e3 e4
              have HD := Lib.hid hD
              have hor2 := hor
              unfold onV at hor2 cO
              have hor3 : (wr.alloc (.cells #[.int .i64 s.tag, .slice s.aa s.an s.ac, .string s.tx, .slice s.ka s.kn s.kc] 67)).cell? ⟨O, 0, none⟩ = some (.func (.func 82) #[] #[.pointer (some ⟨L, 0, none⟩), .pointer (some ⟨O, 0, none⟩)]) := (((Below.refl _ wr).alloc (Nat.le_refl _) _).cell (p := ⟨O, 0, none⟩) (lt_of_cell' hor)).trans hor2
              have hOl2 : O < wr.heap.size := lt_of_cell' hor
              cases hgs : goodP s with
              | true =>
                rw [hgs] at cO e4
                have HX : Hid (∀ wx, Below w0.heap.size w0 wx → wx.cell? ⟨O, 0, none⟩ = some (onV L O) → LkAt wx L false (lg3 || !shortP s) (highP (lev + 1) h3 s) (c3 + (sizeP s : Int)) → (Below w0.heap.size w0 w0 → ((Below w0.heap.size w0 wx ∧ LkAt wx L false (lg3 || !shortP s) (highP (lev + 1) h3 s) (c3 + (sizeP s : Int)) ∧ wx.cell? ⟨O, 0, none⟩ = some (onV L O)) ∧ highPs (lev + 1) (highP (lev + 1) h3 s) (t.kids.drop (k + 1)) = R1 ∧ ((lg3 || !shortP s) || !shortPs (t.kids.drop (k + 1))) = R2 ∧ c3 + (sizeP s : Int) + (sizePs (t.kids.drop (k + 1)) : Int) = R3 ∧ goodPs (t.kids.drop (k + 1)) = R4))) := Lib.hid (fun wx b1 b2 b3 _ => by
                  rw [hD]
                  refine ⟨⟨b1, b3, b2⟩, e1, ?_, by rw [← e3, Int.natCast_add]; omega, by rw [← e4]; rfl⟩
                  rw [← e2]
                  cases lg3 <;> cases shortP s <;> cases shortPs D <;> rfl)
                obtain ⟨lg4, hlg4⟩ : ∃ z, (lg3 || !shortP s) = z := ⟨_, rfl⟩
                obtain ⟨h4, hh4⟩ : ∃ z, highP (lev + 1) h3 s = z := ⟨_, rfl⟩
                obtain ⟨c4, hc4⟩ : ∃ z, c3 + (sizeP s : Int) = z := ⟨_, rfl⟩
                rw [hlg4, hh4, hc4] at cO HX
                have hc40 : 0 ≤ c4 := by omega
                clear HA hkr hor hd hget hmem hs e1 e2 e3 e4 hrow hks hcells hss h3c hv hD hgs hlg4 hh4 hc4 ih hc30 hbl hkl
                go_wp2_with (go_at_call 82; ((with_reducible refine (cO _ ((Below.refl _ wr).alloc (Nat.le_refl _) _)).mono ?_); rintro e w5 ⟨rfl, b5, o5, g5, _⟩; have H5 := Lib.hid (HX.out w5 b5 o5 (g5 rfl)); clear b5 o5 g5))
                go_roundw
                case rel => exact ⟨k + 1, lg4, h4, c4, hlt, by go_num, hc40, H5⟩
                case measure => simp [RowKit.intOf]; omega
              | false =>
                rw [hgs] at cO e4
                have hR4 : false = R4 := by rw [← e4]; rfl
                subst hR4
                clear HA hkr hor hd hget hmem hs e1 e2 e3 hrow hks hcells hss h3c hv hD hgs ih hc30 hbl hkl e4
                go_wp2_with (go_at_call 82; ((with_reducible refine (cO _ ((Below.refl _ wr).alloc (Nat.le_refl _) _)).mono ?_); rintro e w5 ⟨rfl, b5, o5, _, g5⟩; have H5 := Lib.hid (And.intro b5 (And.intro o5 (g5 rfl))); clear b5 o5 g5))
                go_ret
                rw [HRR.out.1, HRR.out.2.1, HRR.out.2.2.1, HRR.out.2.2.2]
                exact ⟨rfl, H5.out.1, H5.out.2.1, fun e => (by cases e), fun _ => H5.out.2.2⟩
            · have hkn : k = kn := by omega
              subst hkn
              have hd : t.kids.drop k = [] := List.drop_of_length_le (by rw [HK.out.1]; exact Nat.le_refl _)
              rw [hd, highPs] at e1
              rw [hd, shortPs] at e2
              rw [hd, sizePs] at e3
              rw [hd, goodPs] at e4
              have hR2 : lg3 = R2 := by rw [← e2]; simp
              have hR3 : c3 = R3 := by rw [← e3]; simp
              subst e1 hR2 hR3 e4
              have HE := Lib.hid (And.intro hbr (And.intro hor hkr))
              clear HA hkr hor hbr hd e2 e3 ih
              go_wp2
              go_ret
              rw [HRR.out.1, HRR.out.2.1, HRR.out.2.2.1, HRR.out.2.2.2]
              exact ⟨rfl, HE.out.1, HE.out.2.1, fun _ => HE.out.2.2, fun e => (by cases e)⟩

end Go.Proofs.YtggjoefhopoggaaDoor
