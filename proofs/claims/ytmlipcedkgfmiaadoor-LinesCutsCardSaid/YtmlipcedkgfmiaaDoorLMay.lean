/-
  The program's May, Same, Frame of lines.
-/
import Derived.Test.YtmlipcedkgfmiaaDoorOwn
import Derived.Test.YtmlipcedkgfmiaaDoorMine
import Derived.Test.YtmlipcedkgfmiaaDoorAsk
import Derived.Test.YtmlipcedkgfmiaaDoorMay
import Derived.Test.YtmlipcedkgfmiaaDoorSame
namespace Go.Proofs.YtmlipcedkgfmiaaDoor
open Go.RowKit Go.Lib

/-- May the line be? -/
def mayS (L : Ln) : Bool := upB L.q 6 && listsB L.ls && kindB L.ls L.k && mayR L.cs
/-- Are both the same? -/
def sameL (L M : Ln) : Bool := decide (L.q = M.q ∧ L.ls = M.ls ∧ L.k = M.k ∧ L.cs = M.cs)

set_option maxRecDepth 20000 in
set_option maxHeartbeats 8000000 in
theorem lmay_any (q k : Int) (sl sc : Value) (ls : IRow) (cs : Row) (w : World) (h : LnAt w sl sc ls cs) (hls : ls.length ≤ 50000) (hcs : cs.length ≤ 50000) (hf : Fair cs) (hE : Tg.Env w) :
    Calls Tryd.prog 12 #[.agg #[.int .i64 q, sl, .int .i64 k, sc]] w fun e w' => e = .returned (.bool (mayS ⟨q, ls, k, cs⟩)) ∧ Below w.heap.size w w' := by
  obtain ⟨a1, c1, rfl⟩ := h.z.len
  obtain ⟨a2, c2, rfl⟩ := h.r.len
  have cU := upTo_any q 6
  have cL : ∀ w1, Below w.heap.size w w1 → Calls Tryd.prog 38 #[.slice a1 ls.length c1] w1 fun e w' => e = .returned (.bool (listsB ls)) ∧ w1 = w' := fun w1 h1 => mayLists_any _ ls w1 (h.z.below h1) (by omega)
  have cK : ∀ w1, Below w.heap.size w w1 → Calls Tryd.prog 39 #[.agg #[.int .i64 q, .slice a1 ls.length c1, .int .i64 k, .slice a2 cs.length c2]] w1 fun e w' => e = .returned (.bool (kindB ls k)) ∧ Below w1.heap.size w1 w' := fun w1 h1 => mayKind_any q k _ _ ls w1 (h.z.below h1)
  have cR : ∀ w1, Below w.heap.size w w1 → Calls Tryd.prog 40 #[.slice a2 cs.length c2] w1 fun e w' => e = .returned (.bool (mayR cs)) ∧ Below w1.heap.size w1 w' := fun w1 h1 => mayRow_any _ cs w1 (h.r.below h1) (by omega) hf (hE.below h1)
  have ba : ∀ o, Below w.heap.size w (w.alloc o) := fun o => (Below.refl _ w).alloc (Nat.le_refl _) _
  unfold mayS
  dsimp only
  obtain ⟨U, hU⟩ : ∃ U, upB q 6 = U := ⟨_, rfl⟩
  obtain ⟨L, hL⟩ : ∃ L, listsB ls = L := ⟨_, rfl⟩
  obtain ⟨K, hK⟩ : ∃ K, kindB ls k = K := ⟨_, rfl⟩
  obtain ⟨R, hR⟩ : ∃ R, mayR cs = R := ⟨_, rfl⟩
  rw [hU] at cU
  rw [hL] at cL
  rw [hK] at cK
  rw [hR] at cR
  rw [hU, hL, hK, hR]
  obtain ⟨n1, hn1⟩ : ∃ n, ls.length = n := ⟨_, rfl⟩
  obtain ⟨n2, hn2⟩ : ∃ n, cs.length = n := ⟨_, rfl⟩
  rw [hn1] at cL cK ⊢
  rw [hn2] at cK cR ⊢
  clear h hls hcs hf hE hU hL hK hR hn1 hn2
  cases U <;> cases L <;> cases K <;>
    (go_enter Tryd.func12, Tryd.ntmps12
     go_wp2_with (first
      | (go_at_call 37; ((with_reducible refine (cU _).mono ?_); rintro e w1 ⟨rfl, rfl⟩))
      | (go_at_call 38; ((with_reducible refine (cL _ (ba _)).mono ?_); rintro e w1 ⟨rfl, rfl⟩))
      | (go_at_call 39; ((with_reducible refine (cK _ (ba _)).mono ?_); rintro e w2 ⟨rfl, hb⟩; have x3 : w2.cell? ⟨w.heap.size, 3, none⟩ = some (.slice a2 n2 c2) := (hb.cell (by simp)).trans (by simp [go_sem]); have hb' := (ba _).trans (hb.mono (by simp))))
      | (go_at_call 40; ((with_reducible refine (cR _ hb').mono ?_); rintro e w3 ⟨rfl, hb3⟩; replace hb' := hb'.trans (hb3.mono hb'.size))))
     go_ret
     first
      | exact ⟨rfl, ba _⟩
      | exact ⟨rfl, hb'⟩)

set_option maxHeartbeats 4000000 in
theorem lframe_any (q k : Int) (sl sc : Value) (ls : IRow) (cs : Row) (w : World) (h : LnAt w sl sc ls cs) (hls : ls.length ≤ 50000) :
    Calls Tryd.prog 18 #[.agg #[.int .i64 q, sl, .int .i64 k, sc]] w fun e w' => ∃ sl' sc', e = .returned (.agg #[.int .i64 q, sl', .int .i64 k, sc']) ∧ OwnLn w.heap.size w' sl' sc' ls [] ∧ Below w.heap.size w w' := by
  obtain ⟨a1, c1, rfl⟩ := h.z.len
  obtain ⟨a2, c2, rfl⟩ := h.r.len
  have cO : ∀ w1, Below w.heap.size w w1 → Calls Tryd.prog 17 #[.agg #[.int .i64 q, .slice a1 ls.length c1, .int .i64 k, .slice none 0 0]] w1 fun e w' => ∃ sl' sc', e = .returned (.agg #[.int .i64 q, sl', .int .i64 k, sc']) ∧ OwnLn w1.heap.size w' sl' sc' ls [] ∧ Below w1.heap.size w1 w' :=
    fun w1 h1 => lown_any q k _ _ ls [] w1 (h.z.below h1) (.inl ⟨none, 0, rfl, fun _ => rfl, by decide, rfl⟩) hls (by simp)
  have hX := box_two w q k 0 0 (.slice a1 ls.length c1) (.slice none 0 0) (.slice none 0 0) (.slice none 0 0)
  obtain ⟨n1, hn1⟩ : ∃ n, ls.length = n := ⟨_, rfl⟩
  obtain ⟨n2, hn2⟩ : ∃ n, cs.length = n := ⟨_, rfl⟩
  rw [hn1] at cO hX ⊢
  rw [hn2]
  have N1 := Lib.hid hn1
  have HX := Lib.hid hX
  clear h hls hn1 hn2 hX
  go_enter Tryd.func18, Tryd.ntmps18
  go_wp2_with (go_at_call 17; ((with_reducible refine (cO _ HX.out.1).mono ?_); rintro e w1 ⟨sl', sc', rfl, ho, hb⟩; obtain ⟨b2, _, B1⟩ := HX.out; have hs := b2.size; have hs1 := hb.size; have HB1 := Lib.hid (B1.below hb); have HO := Lib.hid ho; obtain ⟨a3, c3, e3⟩ := own_len ho.1; obtain ⟨a4, c4, e4⟩ := own_len ho.2; subst e3 e4; rw [N1.out]; obtain ⟨l0, x0, x1, x2, x3, y0, y1, y2, y3⟩ := B1.below hb; have l1 := B1.lt; have bW := Lib.hid (b2.trans (hb.mono b2.size)); clear b2 B1 hb ho))
  have h1 : w.heap.size ≤ ((w.alloc (.cells #[Value.int .i64 q, .slice a1 n1 c1, .int .i64 k, .slice none 0 0] 25)).alloc (.cells #[Value.int .i64 0, .slice none 0 0, .int .i64 0, .slice none 0 0] 25)).heap.size := by simp; omega
  rw [N1.out] at HO
  exact bodyPost_ret (v := .agg #[.int .i64 q, .slice a3 n1 c3, .int .i64 k, .slice a4 0 c4]) (by simp [results, Tryd.results18, go_sem, *]) rfl ⟨_, _, rfl, (put4_own HO.out l1).mono h1, put4_below bW.out (by omega)⟩

end Go.Proofs.YtmlipcedkgfmiaaDoor
