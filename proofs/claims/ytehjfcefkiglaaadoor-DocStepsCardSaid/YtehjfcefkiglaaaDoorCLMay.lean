/-
  The program's May, Same, Frame of lines.
  Documents whose lines are gone through; documents that may be: plain.
  The document's May, ints, Same of lines.
-/
import Derived.Test.YtehjfcefkiglaaaDoorCOwn
import Derived.Test.YtehjfcefkiglaaaDoorCAppG
import Derived.Test.YtehjfcefkiglaaaDoorCConcat
import Derived.Test.YtehjfcefkiglaaaDoorCMay
import Derived.Test.YtehjfcefkiglaaaDoorCSame

namespace Go.Proofs.YtehjfcefkiglaaaDoor
open Go.RowKit Go.Lib

/-- May the line be? -/
def mayS (L : Ln) : Bool := upB L.q 6 && listsB L.ls && kindB L.ls L.k && mayR L.cs
/-- Are both the same? -/
def sameL (L M : Ln) : Bool := decide (L.q = M.q ∧ L.ls = M.ls ∧ L.k = M.k ∧ L.cs = M.cs)

set_option maxRecDepth 20000 in
set_option maxHeartbeats 8000000 in
theorem lmay_any (q k : Int) (sl sc : Value) (ls : IRow) (cs : Row) (w : World) (h : LnAt w sl sc ls cs) (hls : ls.length ≤ 50000) (hcs : cs.length ≤ 50000) (hf : Fair cs) (hE : Tg.Env w) :
    Calls Tryd.prog 43 #[.agg #[.int .i64 q, sl, .int .i64 k, sc]] w fun e w' => e = .returned (.bool (mayS ⟨q, ls, k, cs⟩)) ∧ Below w.heap.size w w' := by
  obtain ⟨a1, c1, rfl⟩ := h.z.len
  obtain ⟨a2, c2, rfl⟩ := h.r.len
  have cU := upTo_any q 6
  have cL : ∀ w1, Below w.heap.size w w1 → Calls Tryd.prog 52 #[.slice a1 ls.length c1] w1 fun e w' => e = .returned (.bool (listsB ls)) ∧ w1 = w' := fun w1 h1 => mayLists_any _ ls w1 (h.z.below h1) (by omega)
  have cK : ∀ w1, Below w.heap.size w w1 → Calls Tryd.prog 53 #[.agg #[.int .i64 q, .slice a1 ls.length c1, .int .i64 k, .slice a2 cs.length c2]] w1 fun e w' => e = .returned (.bool (kindB ls k)) ∧ Below w1.heap.size w1 w' := fun w1 h1 => mayKind_any q k _ _ ls w1 (h.z.below h1)
  have cR : ∀ w1, Below w.heap.size w w1 → Calls Tryd.prog 54 #[.slice a2 cs.length c2] w1 fun e w' => e = .returned (.bool (mayR cs)) ∧ Below w1.heap.size w1 w' := fun w1 h1 => mayRow_any _ cs w1 (h.r.below h1) (by omega) hf (hE.below h1)
  have ba : ∀ o, Below w.heap.size w (w.alloc o) := fun o => (Below.refl _ w).alloc (Nat.le_refl _) _
  unfold mayS
  dsimp only
  obtain ⟨U, hU⟩ : ∃ U, upB q 6 = U := ⟨_, rfl⟩
  obtain ⟨L, hL⟩ : ∃ L, listsB ls = L := ⟨_, rfl⟩
  obtain ⟨K, hK⟩ : ∃ K, kindB ls k = K := ⟨_, rfl⟩
  obtain ⟨R, hR⟩ : ∃ R, mayR cs = R := ⟨_, rfl⟩
  rw [hU] at cU
  rw [hL] at cL
  rw [hK] at cK
  rw [hR] at cR
  rw [hU, hL, hK, hR]
  obtain ⟨n1, hn1⟩ : ∃ n, ls.length = n := ⟨_, rfl⟩
  obtain ⟨n2, hn2⟩ : ∃ n, cs.length = n := ⟨_, rfl⟩
  rw [hn1] at cL cK ⊢
  rw [hn2] at cK cR ⊢
  clear h hls hcs hf hE hU hL hK hR hn1 hn2
  cases U <;> cases L <;> cases K <;>
    (go_enter Tryd.func43, Tryd.ntmps43
     go_wp2_with (first
      | (go_at_call 51; ((with_reducible refine (cU _).mono ?_); rintro e w1 ⟨rfl, rfl⟩))
      | (go_at_call 52; ((with_reducible refine (cL _ (ba _)).mono ?_); rintro e w1 ⟨rfl, rfl⟩))
      | (go_at_call 53; ((with_reducible refine (cK _ (ba _)).mono ?_); rintro e w2 ⟨rfl, hb⟩; have x3 : w2.cell? ⟨w.heap.size, 3, none⟩ = some (.slice a2 n2 c2) := (hb.cell (by simp)).trans (by simp [go_sem]); have hb' := (ba _).trans (hb.mono (by simp))))
      | (go_at_call 54; ((with_reducible refine (cR _ hb').mono ?_); rintro e w3 ⟨rfl, hb3⟩; replace hb' := hb'.trans (hb3.mono hb'.size))))
     go_ret
     first
      | exact ⟨rfl, ba _⟩
      | exact ⟨rfl, hb'⟩)

set_option maxHeartbeats 4000000 in
theorem lframe_any (q k : Int) (sl sc : Value) (ls : IRow) (cs : Row) (w : World) (h : LnAt w sl sc ls cs) (hls : ls.length ≤ 50000) :
    Calls Tryd.prog 21 #[.agg #[.int .i64 q, sl, .int .i64 k, sc]] w fun e w' => ∃ sl' sc', e = .returned (.agg #[.int .i64 q, sl', .int .i64 k, sc']) ∧ OwnLn w.heap.size w' sl' sc' ls [] ∧ Below w.heap.size w w' := by
  obtain ⟨a1, c1, rfl⟩ := h.z.len
  obtain ⟨a2, c2, rfl⟩ := h.r.len
  have cO : ∀ w1, Below w.heap.size w w1 → Calls Tryd.prog 30 #[.agg #[.int .i64 q, .slice a1 ls.length c1, .int .i64 k, .slice none 0 0]] w1 fun e w' => ∃ sl' sc', e = .returned (.agg #[.int .i64 q, sl', .int .i64 k, sc']) ∧ OwnLn w1.heap.size w' sl' sc' ls [] ∧ Below w1.heap.size w1 w' :=
    fun w1 h1 => lown_any q k _ _ ls [] w1 (h.z.below h1) (.inl ⟨none, 0, rfl, fun _ => rfl, by decide, rfl⟩) hls (by simp)
  have hX := box_two w q k 0 0 (.slice a1 ls.length c1) (.slice none 0 0) (.slice none 0 0) (.slice none 0 0)
  obtain ⟨n1, hn1⟩ : ∃ n, ls.length = n := ⟨_, rfl⟩
  obtain ⟨n2, hn2⟩ : ∃ n, cs.length = n := ⟨_, rfl⟩
  rw [hn1] at cO hX ⊢
  rw [hn2]
  have N1 := Lib.hid hn1
  have HX := Lib.hid hX
  clear h hls hn1 hn2 hX
  go_enter Tryd.func21, Tryd.ntmps21
  go_wp2_with (go_at_call 30; ((with_reducible refine (cO _ HX.out.1).mono ?_); rintro e w1 ⟨sl', sc', rfl, ho, hb⟩; obtain ⟨b2, _, B1⟩ := HX.out; have hs := b2.size; have hs1 := hb.size; have HB1 := Lib.hid (B1.below hb); have HO := Lib.hid ho; obtain ⟨a3, c3, e3⟩ := own_len ho.1; obtain ⟨a4, c4, e4⟩ := own_len ho.2; subst e3 e4; rw [N1.out]; obtain ⟨l0, x0, x1, x2, x3, y0, y1, y2, y3⟩ := B1.below hb; have l1 := B1.lt; have bW := Lib.hid (b2.trans (hb.mono b2.size)); clear b2 B1 hb ho))
  have h1 : w.heap.size ≤ ((w.alloc (.cells #[Value.int .i64 q, .slice a1 n1 c1, .int .i64 k, .slice none 0 0] 45)).alloc (.cells #[Value.int .i64 0, .slice none 0 0, .int .i64 0, .slice none 0 0] 45)).heap.size := by simp; omega
  rw [N1.out] at HO
  exact bodyPost_ret (v := .agg #[.int .i64 q, .slice a3 n1 c3, .int .i64 k, .slice a4 0 c4]) (by simp [results, Tryd.results21, go_sem, *]) rfl ⟨_, _, rfl, (put4_own HO.out l1).mono h1, put4_below bW.out (by omega)⟩

end Go.Proofs.YtehjfcefkiglaaaDoor

namespace Go.Proofs.YtehjfcefkiglaaaDoor
open Go.RowKit Go.Lib

/-- Nothing of it is too long. -/
structure Fine (d : Doc) : Prop where
  n : d.length ≤ 1000
  z : ∀ x ∈ d, x.ls.length ≤ 50000 ∧ x.cs.length ≤ 50000 ∧ Fair x.cs
  s : sizeD d ≤ 1000000
theorem Fine.at {l : List Lw} (h : Fine (pl l)) {x : Lw} (hx : x ∈ l) : x.ln.ls.length ≤ 50000 ∧ x.ln.cs.length ≤ 50000 ∧ Fair x.ln.cs := h.z x.ln (List.mem_map.2 ⟨x, hx, rfl⟩)
theorem Fine.len {l : List Lw} (h : Fine (pl l)) : l.length ≤ 1000 := by have := h.n; rwa [pl_length] at this

theorem Fine.cnt {l : List Lw} (h : Fine (pl l)) : ∀ k, k < l.length → cnt (pl l) k ≤ 1000000 := fun k hk => by
  have := cnt_le (d := pl l) (i := k) (by rw [pl_length]; exact hk)
  have := h.s
  omega
theorem Fine.take {d : Doc} (h : Fine d) (k : Nat) : Fine (d.take k) := ⟨by have := h.n; rw [List.length_take]; omega, fun x hx => h.z x (List.mem_of_mem_take hx), by have := sizeD_take_le d k; have := h.s; omega⟩
theorem Fine.drop {d : Doc} (h : Fine d) (k : Nat) : Fine (d.drop k) := ⟨by have := h.n; rw [List.length_drop]; omega, fun x hx => h.z x (List.mem_of_mem_drop hx), by
  have e := sizeD_append (d.take k) (d.drop k)
  rw [List.take_append_drop] at e
  have := h.s; omega⟩
/-- May the document be? -/
def mayD (d : Doc) : Bool := decide (1 ≤ d.length ∧ d.length ≤ 200) && decide (sizeD d ≤ 4000) && d.all mayS
/-- Are both the same? -/
def sameD : Doc → Doc → Bool
  | [], [] => true
  | x :: d, y :: e => sameL x y && sameD d e
  | _, _ => false
theorem sameL_iff {x y : Ln} : sameL x y = true ↔ x = y := by
  unfold sameL
  rw [decide_eq_true_eq]
  cases x; cases y
  simp
theorem sameD_iff : ∀ {d e : Doc}, sameD d e = true ↔ d = e
  | [], [] => by simp [sameD]
  | [], _ :: _ => by simp [sameD]
  | _ :: _, [] => by simp [sameD]
  | x :: d, y :: e => by
    have ih := sameD_iff (d := d) (e := e)
    unfold sameD
    rw [Bool.and_eq_true, sameL_iff, ih, List.cons.injEq]
theorem sameD_refl (d : Doc) : sameD d d = true := sameD_iff.2 rfl
theorem sameD_comm (d e : Doc) : sameD d e = sameD e d := by
  rw [Bool.eq_iff_iff, sameD_iff, sameD_iff]; exact eq_comm
theorem mayD_len {d : Doc} (h : mayD d = true) : 1 ≤ d.length ∧ d.length ≤ 200 ∧ sizeD d ≤ 4000 := by
  unfold mayD at h
  simp only [Bool.and_eq_true, decide_eq_true_eq] at h
  exact ⟨h.1.1.1, h.1.1.2, h.1.2⟩
theorem mayD_mem {d : Doc} (h : mayD d = true) {x : Ln} (hx : x ∈ d) : mayS x = true := by
  unfold mayD at h
  simp only [Bool.and_eq_true, List.all_eq_true] at h
  exact h.2 x hx
def askedD (d : Doc) (a b : Ps) : Bool := mayD d && isD d a && isD d b && decide (cmpP a b ≤ 0)
/-- Both places, in numbers. -/
theorem askedD_span {d : Doc} {a b : Ps} (h : askedD d a b = true) : ∃ al aa bl ba : Nat, a = ((al : Int), (aa : Int)) ∧ b = ((bl : Int), (ba : Int)) ∧ Span d al aa bl ba ∧ mayD d = true := by
  unfold askedD at h
  simp only [Bool.and_eq_true, decide_eq_true_eq] at h
  obtain ⟨⟨⟨hm, ha⟩, hb⟩, hc⟩ := h
  obtain ⟨al, aa, rfl, h1, h2⟩ := isD_nat ha
  obtain ⟨bl, ba, rfl, h3, h4⟩ := isD_nat hb
  rw [cmpP_le] at hc
  dsimp only at hc
  exact ⟨al, aa, bl, ba, rfl, rfl, ⟨h3, by omega, h2, h4, by omega⟩, hm⟩
theorem askedD_mk {d : Doc} {al aa bl ba : Nat} (hs : Span d al aa bl ba) (hm : mayD d = true) : askedD d ((al : Int), (aa : Int)) ((bl : Int), (ba : Int)) = true := by
  unfold askedD
  have := hs.hab
  rw [hm, isD_mk (Nat.lt_of_le_of_lt hs.hab hs.hb) hs.hka, isD_mk hs.hb hs.hkb, decide_eq_true]
  · rfl
  · rw [cmpP_le]
    dsimp only
    by_cases e : al = bl
    · have := hs.one e; omega
    · omega

end Go.Proofs.YtehjfcefkiglaaaDoor

namespace Go.Proofs.YtehjfcefkiglaaaDoor
open Go.RowKit Go.Lib

def badB (k z : Int) : Bool := wrongB z || decide (k ≠ 0)
theorem mayS_doc {q k : Int} {ls : IRow} {cs : Row} (hq : 0 ≤ q ∧ q ≤ 6) (hl : ls.length ≤ 6) (hk : 0 ≤ k ∧ k ≤ 3) : mayS ⟨q, ls, k, cs⟩ = (!ls.any (badB k) && mayR cs) := by
  have e1 : upB q 6 = true := decide_eq_true hq
  have e2 : upB k 3 = true := decide_eq_true hk
  unfold mayS
  dsimp only
  rw [e1, Bool.true_and]
  unfold listsB kindB
  rw [decide_eq_true hl, Bool.true_and, e2]
  cases ls with
  | nil => simp
  | cons z l =>
    rw [if_neg (by simp)]
    by_cases h : k = 0
    · subst h
      have : badB 0 = wrongB := by funext x; simp [badB]
      rw [this]; simp
    · have h1 : decide (k = 0) = false := decide_eq_false h
      rw [h1]
      simp [badB, h]
theorem mayS_off {q k : Int} {ls : IRow} {cs : Row} (h : q < 0 ∨ 6 < q ∨ 6 < ls.length ∨ k < 0 ∨ 3 < k) : mayS ⟨q, ls, k, cs⟩ = false := by
  unfold mayS
  dsimp only
  rw [Bool.eq_false_iff]
  intro hm
  simp only [Bool.and_eq_true] at hm
  obtain ⟨⟨⟨h1, h2⟩, h3⟩, _⟩ := hm
  have g1 : 0 ≤ q ∧ q ≤ 6 := of_decide_eq_true h1
  unfold listsB at h2
  simp only [Bool.and_eq_true, decide_eq_true_eq] at h2
  unfold kindB at h3
  split at h3
  · have g2 : 0 ≤ k ∧ k ≤ 3 := of_decide_eq_true h3
    omega
  · have g3 := of_decide_eq_true h3
    omega

/-! ### ints -/
def sameZ (l m : IRow) : Bool := decide (l = m)
theorem dropZ_cons {l : IRow} {k : Nat} (h : k < l.length) : l.drop k = l[k]! :: l.drop (k + 1) := by
  rw [List.drop_eq_getElem_cons h, List.getElem!_eq_getElem?_getD, List.getElem?_eq_getElem h]; rfl
theorem sameZ_step {l m : IRow} {k : Nat} (h1 : k < l.length) (h2 : k < m.length) : sameZ (l.drop k) (m.drop k) = (decide (l[k]! = m[k]!) && sameZ (l.drop (k + 1)) (m.drop (k + 1))) := by
  rw [dropZ_cons h1, dropZ_cons h2]
  unfold sameZ
  rw [Bool.eq_iff_iff]
  simp only [List.cons.injEq, decide_eq_true_eq, Bool.and_eq_true]

end Go.Proofs.YtehjfcefkiglaaaDoor
