/-
  The program's May, Same, Frame of lines.
  Documents whose lines are gone through; documents that may be: plain.
  The document's May, ints, Same of lines.
  The program's and the document's Same of lines.
-/
import Derived.Test.YtafincmcmgedbaaGreatDoorCOwn
import Derived.Test.YtafincmcmgedbaaGreatDoorCAppG
import Derived.Test.YtafincmcmgedbaaGreatDoorCConcat
import Derived.Test.YtafincmcmgedbaaGreatDoorCMay
import Derived.Test.YtafincmcmgedbaaGreatDoorCSame

namespace Go.Proofs.YtafincmcmgedbaaGreatDoor
open Go.RowKit Go.Lib

/-- May the line be? -/
def mayS (L : Ln) : Bool := upB L.q 6 && listsB L.ls && kindB L.ls L.k && mayR L.cs
/-- Are both the same? -/
def sameL (L M : Ln) : Bool := decide (L.q = M.q ∧ L.ls = M.ls ∧ L.k = M.k ∧ L.cs = M.cs)

set_option maxRecDepth 20000 in
set_option maxHeartbeats 8000000 in
theorem lmay_any (q k : Int) (sl sc : Value) (ls : IRow) (cs : Row) (w : World) (h : LnAt w sl sc ls cs) (hls : ls.length ≤ 50000) (hcs : cs.length ≤ 50000) (hf : Fair cs) (hE : Tg.Env w) :
    Calls Tryz.prog 61 #[.agg #[.int .i64 q, sl, .int .i64 k, sc]] w fun e w' => e = .returned (.bool (mayS ⟨q, ls, k, cs⟩)) ∧ Below w.heap.size w w' := by
  obtain ⟨a1, c1, rfl⟩ := h.z.len
  obtain ⟨a2, c2, rfl⟩ := h.r.len
  have cU := upTo_any q 6
  have cL : ∀ w1, Below w.heap.size w w1 → Calls Tryz.prog 102 #[.slice a1 ls.length c1] w1 fun e w' => e = .returned (.bool (listsB ls)) ∧ w1 = w' := fun w1 h1 => mayLists_any _ ls w1 (h.z.below h1) (by omega)
  have cK : ∀ w1, Below w.heap.size w w1 → Calls Tryz.prog 103 #[.agg #[.int .i64 q, .slice a1 ls.length c1, .int .i64 k, .slice a2 cs.length c2]] w1 fun e w' => e = .returned (.bool (kindB ls k)) ∧ Below w1.heap.size w1 w' := fun w1 h1 => mayKind_any q k _ _ ls w1 (h.z.below h1)
  have cR : ∀ w1, Below w.heap.size w w1 → Calls Tryz.prog 79 #[.slice a2 cs.length c2] w1 fun e w' => e = .returned (.bool (mayR cs)) ∧ Below w1.heap.size w1 w' := fun w1 h1 => mayRow_any _ cs w1 (h.r.below h1) (by omega) hf (hE.below h1)
  have ba : ∀ o, Below w.heap.size w (w.alloc o) := fun o => (Below.refl _ w).alloc (Nat.le_refl _) _
  unfold mayS
  dsimp only
  obtain ⟨U, hU⟩ : ∃ U, upB q 6 = U := ⟨_, rfl⟩
  obtain ⟨L, hL⟩ : ∃ L, listsB ls = L := ⟨_, rfl⟩
  obtain ⟨K, hK⟩ : ∃ K, kindB ls k = K := ⟨_, rfl⟩
  obtain ⟨R, hR⟩ : ∃ R, mayR cs = R := ⟨_, rfl⟩
  rw [hU] at cU
  rw [hL] at cL
  rw [hK] at cK
  rw [hR] at cR
  rw [hU, hL, hK, hR]
  obtain ⟨n1, hn1⟩ : ∃ n, ls.length = n := ⟨_, rfl⟩
  obtain ⟨n2, hn2⟩ : ∃ n, cs.length = n := ⟨_, rfl⟩
  rw [hn1] at cL cK ⊢
  rw [hn2] at cK cR ⊢
  clear h hls hcs hf hE hU hL hK hR hn1 hn2
  cases U <;> cases L <;> cases K <;>
    (go_enter Tryz.func61, Tryz.ntmps61
     go_wp2_with (first
      | (go_at_call 101; ((with_reducible refine (cU _).mono ?_); rintro e w1 ⟨rfl, rfl⟩))
      | (go_at_call 102; ((with_reducible refine (cL _ (ba _)).mono ?_); rintro e w1 ⟨rfl, rfl⟩))
      | (go_at_call 103; ((with_reducible refine (cK _ (ba _)).mono ?_); rintro e w2 ⟨rfl, hb⟩; have x3 : w2.cell? ⟨w.heap.size, 3, none⟩ = some (.slice a2 n2 c2) := (hb.cell (by simp)).trans (by simp [go_sem]); have hb' := (ba _).trans (hb.mono (by simp))))
      | (go_at_call 79; ((with_reducible refine (cR _ hb').mono ?_); rintro e w3 ⟨rfl, hb3⟩; replace hb' := hb'.trans (hb3.mono hb'.size))))
     go_ret
     first
      | exact ⟨rfl, ba _⟩
      | exact ⟨rfl, hb'⟩)

set_option maxHeartbeats 4000000 in
theorem lframe_any (q k : Int) (sl sc : Value) (ls : IRow) (cs : Row) (w : World) (h : LnAt w sl sc ls cs) (hls : ls.length ≤ 50000) :
    Calls Tryz.prog 76 #[.agg #[.int .i64 q, sl, .int .i64 k, sc]] w fun e w' => ∃ sl' sc', e = .returned (.agg #[.int .i64 q, sl', .int .i64 k, sc']) ∧ OwnLn w.heap.size w' sl' sc' ls [] ∧ Below w.heap.size w w' := by
  obtain ⟨a1, c1, rfl⟩ := h.z.len
  obtain ⟨a2, c2, rfl⟩ := h.r.len
  have cO : ∀ w1, Below w.heap.size w w1 → Calls Tryz.prog 68 #[.agg #[.int .i64 q, .slice a1 ls.length c1, .int .i64 k, .slice none 0 0]] w1 fun e w' => ∃ sl' sc', e = .returned (.agg #[.int .i64 q, sl', .int .i64 k, sc']) ∧ OwnLn w1.heap.size w' sl' sc' ls [] ∧ Below w1.heap.size w1 w' :=
    fun w1 h1 => lown_any q k _ _ ls [] w1 (h.z.below h1) (.inl ⟨none, 0, rfl, fun _ => rfl, by decide, rfl⟩) hls (by simp)
  have hX := box_two w q k 0 0 (.slice a1 ls.length c1) (.slice none 0 0) (.slice none 0 0) (.slice none 0 0)
  obtain ⟨n1, hn1⟩ : ∃ n, ls.length = n := ⟨_, rfl⟩
  obtain ⟨n2, hn2⟩ : ∃ n, cs.length = n := ⟨_, rfl⟩
  rw [hn1] at cO hX ⊢
  rw [hn2]
  have N1 := Lib.hid hn1
  have HX := Lib.hid hX
  clear h hls hn1 hn2 hX
  go_enter Tryz.func76, Tryz.ntmps76
  go_wp2_with (go_at_call 68; ((with_reducible refine (cO _ HX.out.1).mono ?_); rintro e w1 ⟨sl', sc', rfl, ho, hb⟩; obtain ⟨b2, _, B1⟩ := HX.out; have hs := b2.size; have hs1 := hb.size; have HB1 := Lib.hid (B1.below hb); have HO := Lib.hid ho; obtain ⟨a3, c3, e3⟩ := own_len ho.1; obtain ⟨a4, c4, e4⟩ := own_len ho.2; subst e3 e4; rw [N1.out]; obtain ⟨l0, x0, x1, x2, x3, y0, y1, y2, y3⟩ := B1.below hb; have l1 := B1.lt; have bW := Lib.hid (b2.trans (hb.mono b2.size)); clear b2 B1 hb ho))
  have h1 : w.heap.size ≤ ((w.alloc (.cells #[Value.int .i64 q, .slice a1 n1 c1, .int .i64 k, .slice none 0 0] 46)).alloc (.cells #[Value.int .i64 0, .slice none 0 0, .int .i64 0, .slice none 0 0] 46)).heap.size := by simp; omega
  rw [N1.out] at HO
  exact bodyPost_ret (v := .agg #[.int .i64 q, .slice a3 n1 c3, .int .i64 k, .slice a4 0 c4]) (by simp [results, Tryz.results76, go_sem, *]) rfl ⟨_, _, rfl, (put4_own HO.out l1).mono h1, put4_below bW.out (by omega)⟩

end Go.Proofs.YtafincmcmgedbaaGreatDoor

namespace Go.Proofs.YtafincmcmgedbaaGreatDoor
open Go.RowKit Go.Lib

/-- Nothing of it is too long. -/
structure Fine (d : Doc) : Prop where
  n : d.length ≤ 1000
  z : ∀ x ∈ d, x.ls.length ≤ 50000 ∧ x.cs.length ≤ 50000 ∧ Fair x.cs
  s : sizeD d ≤ 1000000
theorem Fine.at {l : List Lw} (h : Fine (pl l)) {x : Lw} (hx : x ∈ l) : x.ln.ls.length ≤ 50000 ∧ x.ln.cs.length ≤ 50000 ∧ Fair x.ln.cs := h.z x.ln (List.mem_map.2 ⟨x, hx, rfl⟩)
theorem Fine.len {l : List Lw} (h : Fine (pl l)) : l.length ≤ 1000 := by have := h.n; rwa [pl_length] at this

theorem Fine.cnt {l : List Lw} (h : Fine (pl l)) : ∀ k, k < l.length → cnt (pl l) k ≤ 1000000 := fun k hk => by
  have := cnt_le (d := pl l) (i := k) (by rw [pl_length]; exact hk)
  have := h.s
  omega
theorem Fine.take {d : Doc} (h : Fine d) (k : Nat) : Fine (d.take k) := ⟨by have := h.n; rw [List.length_take]; omega, fun x hx => h.z x (List.mem_of_mem_take hx), by have := sizeD_take_le d k; have := h.s; omega⟩
theorem Fine.drop {d : Doc} (h : Fine d) (k : Nat) : Fine (d.drop k) := ⟨by have := h.n; rw [List.length_drop]; omega, fun x hx => h.z x (List.mem_of_mem_drop hx), by
  have e := sizeD_append (d.take k) (d.drop k)
  rw [List.take_append_drop] at e
  have := h.s; omega⟩
/-- May the document be? -/
def mayD (d : Doc) : Bool := decide (1 ≤ d.length ∧ d.length ≤ 200) && decide (sizeD d ≤ 4000) && d.all mayS
/-- Are both the same? -/
def sameD : Doc → Doc → Bool
  | [], [] => true
  | x :: d, y :: e => sameL x y && sameD d e
  | _, _ => false
theorem sameL_iff {x y : Ln} : sameL x y = true ↔ x = y := by
  unfold sameL
  rw [decide_eq_true_eq]
  cases x; cases y
  simp
theorem sameD_iff : ∀ {d e : Doc}, sameD d e = true ↔ d = e
  | [], [] => by simp [sameD]
  | [], _ :: _ => by simp [sameD]
  | _ :: _, [] => by simp [sameD]
  | x :: d, y :: e => by
    have ih := sameD_iff (d := d) (e := e)
    unfold sameD
    rw [Bool.and_eq_true, sameL_iff, ih, List.cons.injEq]
theorem sameD_refl (d : Doc) : sameD d d = true := sameD_iff.2 rfl
theorem sameD_comm (d e : Doc) : sameD d e = sameD e d := by
  rw [Bool.eq_iff_iff, sameD_iff, sameD_iff]; exact eq_comm
theorem mayD_len {d : Doc} (h : mayD d = true) : 1 ≤ d.length ∧ d.length ≤ 200 ∧ sizeD d ≤ 4000 := by
  unfold mayD at h
  simp only [Bool.and_eq_true, decide_eq_true_eq] at h
  exact ⟨h.1.1.1, h.1.1.2, h.1.2⟩
theorem mayD_mem {d : Doc} (h : mayD d = true) {x : Ln} (hx : x ∈ d) : mayS x = true := by
  unfold mayD at h
  simp only [Bool.and_eq_true, List.all_eq_true] at h
  exact h.2 x hx
def askedD (d : Doc) (a b : Ps) : Bool := mayD d && isD d a && isD d b && decide (cmpP a b ≤ 0)
/-- Both places, in numbers. -/
theorem askedD_span {d : Doc} {a b : Ps} (h : askedD d a b = true) : ∃ al aa bl ba : Nat, a = ((al : Int), (aa : Int)) ∧ b = ((bl : Int), (ba : Int)) ∧ Span d al aa bl ba ∧ mayD d = true := by
  unfold askedD at h
  simp only [Bool.and_eq_true, decide_eq_true_eq] at h
  obtain ⟨⟨⟨hm, ha⟩, hb⟩, hc⟩ := h
  obtain ⟨al, aa, rfl, h1, h2⟩ := isD_nat ha
  obtain ⟨bl, ba, rfl, h3, h4⟩ := isD_nat hb
  rw [cmpP_le] at hc
  dsimp only at hc
  exact ⟨al, aa, bl, ba, rfl, rfl, ⟨h3, by omega, h2, h4, by omega⟩, hm⟩
theorem askedD_mk {d : Doc} {al aa bl ba : Nat} (hs : Span d al aa bl ba) (hm : mayD d = true) : askedD d ((al : Int), (aa : Int)) ((bl : Int), (ba : Int)) = true := by
  unfold askedD
  have := hs.hab
  rw [hm, isD_mk (Nat.lt_of_le_of_lt hs.hab hs.hb) hs.hka, isD_mk hs.hb hs.hkb, decide_eq_true]
  · rfl
  · rw [cmpP_le]
    dsimp only
    by_cases e : al = bl
    · have := hs.one e; omega
    · omega

end Go.Proofs.YtafincmcmgedbaaGreatDoor

namespace Go.Proofs.YtafincmcmgedbaaGreatDoor
open Go.RowKit Go.Lib

def badB (k z : Int) : Bool := wrongB z || decide (k ≠ 0)
theorem mayS_doc {q k : Int} {ls : IRow} {cs : Row} (hq : 0 ≤ q ∧ q ≤ 6) (hl : ls.length ≤ 6) (hk : 0 ≤ k ∧ k ≤ 3) : mayS ⟨q, ls, k, cs⟩ = (!ls.any (badB k) && mayR cs) := by
  have e1 : upB q 6 = true := decide_eq_true hq
  have e2 : upB k 3 = true := decide_eq_true hk
  unfold mayS
  dsimp only
  rw [e1, Bool.true_and]
  unfold listsB kindB
  rw [decide_eq_true hl, Bool.true_and, e2]
  cases ls with
  | nil => simp
  | cons z l =>
    rw [if_neg (by simp)]
    by_cases h : k = 0
    · subst h
      have : badB 0 = wrongB := by funext x; simp [badB]
      rw [this]; simp
    · have h1 : decide (k = 0) = false := decide_eq_false h
      rw [h1]
      simp [badB, h]
theorem mayS_off {q k : Int} {ls : IRow} {cs : Row} (h : q < 0 ∨ 6 < q ∨ 6 < ls.length ∨ k < 0 ∨ 3 < k) : mayS ⟨q, ls, k, cs⟩ = false := by
  unfold mayS
  dsimp only
  rw [Bool.eq_false_iff]
  intro hm
  simp only [Bool.and_eq_true] at hm
  obtain ⟨⟨⟨h1, h2⟩, h3⟩, _⟩ := hm
  have g1 : 0 ≤ q ∧ q ≤ 6 := of_decide_eq_true h1
  unfold listsB at h2
  simp only [Bool.and_eq_true, decide_eq_true_eq] at h2
  unfold kindB at h3
  split at h3
  · have g2 : 0 ≤ k ∧ k ≤ 3 := of_decide_eq_true h3
    omega
  · have g3 := of_decide_eq_true h3
    omega

set_option maxRecDepth 20000 in
set_option maxHeartbeats 8000000 in
theorem rlmay_any (q k : Int) (sl sc : Value) (ls : IRow) (cs : Row) (w : World) (h : LnAt w sl sc ls cs) (hcs : cs.length ≤ 50000) (hf : Fair cs) :
    Calls Tryz.prog 63 #[.agg #[.int .i64 q, sl, .int .i64 k, sc]] w fun e w' => e = .returned (.bool (mayS ⟨q, ls, k, cs⟩)) ∧ Below w.heap.size w w' := by
  have cR : ∀ w1, Below w.heap.size w w1 → Calls Tryz.prog 58 #[sc] w1 fun e w' => e = .returned (.bool (mayR cs)) ∧ Below w1.heap.size w1 w' := fun w1 h1 => rmayRow_any sc cs w1 (h.r.below h1) (by omega) hf
  have HZ := Lib.hid h.z
  obtain ⟨a1, c1, e1, hnc, hcm⟩ := h.z.cap
  obtain ⟨a2, c2, e2⟩ := h.r.len
  subst e1 e2
  unfold maxLen at hcm
  have ba : ∀ o, Below w.heap.size w (w.alloc o) := fun o => (Below.refl _ w).alloc (Nat.le_refl _) _
  by_cases hoff : q < 0 ∨ 6 < q ∨ 6 < ls.length ∨ k < 0 ∨ 3 < k
  · rw [mayS_off hoff]
    obtain ⟨n1, hn1⟩ : ∃ n, ls.length = n := ⟨_, rfl⟩
    rw [hn1] at hoff ⊢
    clear h hcs hf cR HZ hnc hn1
    have hc : q < 0 ∨ ¬ q < 0 ∧ 6 < q ∨ ¬ q < 0 ∧ ¬ 6 < q ∧ (6 : Int) < (n1 : Int) ∨ ¬ q < 0 ∧ ¬ 6 < q ∧ ¬ (6 : Int) < (n1 : Int) ∧ k < 0 ∨ ¬ q < 0 ∧ ¬ 6 < q ∧ ¬ (6 : Int) < (n1 : Int) ∧ ¬ k < 0 ∧ 3 < k := by omega
    clear hoff
    rcases hc with h1 | ⟨h1, h2⟩ | ⟨h1, h2, h3⟩ | ⟨h1, h2, h3, h4⟩ | ⟨h1, h2, h3, h4, h5⟩ <;>
      (go_enter Tryz.func63, Tryz.ntmps63
       go_wp2
       go_ret
       exact ⟨rfl, ba _⟩)
  · have g1 : ¬ q < 0 := fun h => hoff (.inl h)
    have g2 : ¬ 6 < q := fun h => hoff (.inr (.inl h))
    have g3 : ¬ 6 < ls.length := fun h => hoff (.inr (.inr (.inl h)))
    have g4 : ¬ k < 0 := fun h => hoff (.inr (.inr (.inr (.inl h))))
    have g5 : ¬ 3 < k := fun h => hoff (.inr (.inr (.inr (.inr h))))
    rw [mayS_doc ⟨by omega, by omega⟩ (by omega) ⟨by omega, by omega⟩]
    obtain ⟨n, hn⟩ : ∃ n, ls.length = n := ⟨_, rfl⟩
    have N := Lib.hid hn
    obtain ⟨n2, hn2⟩ : ∃ n, cs.length = n := ⟨_, rfl⟩
    obtain ⟨S, hS⟩ : ∃ S, ls.any (badB k) = S := ⟨_, rfl⟩
    obtain ⟨R, hR⟩ : ∃ R, mayR cs = R := ⟨_, rfl⟩
    rw [hS, hR, hn, hn2]
    rw [hR, hn2] at cR
    rw [hn] at HZ hnc g3
    have g6 : ¬ (6 : Int) < (n : Int) := by omega
    have HS : Hid ((ls.drop 0).any (badB k) = S) := Lib.hid hS
    clear h hcs hf hS hR hn hn2 hoff
    go_enter Tryz.func63, Tryz.ntmps63
    go_wp2
    go_loop [3] (fun i => ∃ j : Nat, j ≤ n ∧ i = .int .i64 j ∧ Hid ((ls.drop j).any (badB k) = S)) (fun i => n - (RowKit.intOf i).toNat)
    case atStart => exact ⟨0, Nat.zero_le _, rfl, HS⟩
    case round =>
      obtain ⟨j, hj, rfl, HK⟩ := hrel
      by_cases hlt : j < n
      · have hkl : j < ls.length := by rw [N.out]; exact hlt
        obtain ⟨b, o, c3, e, hlc, hcm2, hbl, hIn⟩ := HZ.out.lies (by omega)
        rw [N.out] at e hlc
        simp only [Value.slice.injEq] at e
        obtain ⟨rfl, _, rfl⟩ := e
        unfold maxLen at hcm2
        have x1 := hIn j hkl
        have hst := anyZ_step (P := badB k) hkl
        rw [HK.out] at hst
        obtain ⟨X, hX⟩ : ∃ X, ls[j]! = X := ⟨_, rfl⟩
        rw [hX] at x1 hst
        have hkI : (j : Int) < (n : Int) := by omega
        have hbw : b ≠ w.heap.size := by omega
        clear HK hX hIn hkl cR HS
        have hX3 : X = 0 ∨ X = 1 ∨ (X ≠ 0 ∧ X ≠ 1) := by omega
        rcases hX3 with rfl | rfl | ⟨hx0, hx1⟩
        · by_cases hk0 : k = 0
          · subst hk0
            have HT : Hid ((ls.drop (j + 1)).any (badB 0) = S) := Lib.hid (by rw [hst]; simp [badB, wrongB, upB])
            clear hst
            go_wp2
            go_round
            case rel => exact ⟨j + 1, hlt, by go_num, HT⟩
            case measure => simp [RowKit.intOf]; omega
          · have HT : Hid (S = true) := Lib.hid (by rw [hst]; simp [badB, hk0])
            have hk1 : (k != 0) = true := by simpa using hk0
            clear hst
            go_wp2
            go_ret
            exact ⟨ret_bool (by rw [HT.out]; rfl), ba _⟩
        · by_cases hk0 : k = 0
          · subst hk0
            have HT : Hid ((ls.drop (j + 1)).any (badB 0) = S) := Lib.hid (by rw [hst]; simp [badB, wrongB, upB])
            clear hst
            go_wp2
            go_round
            case rel => exact ⟨j + 1, hlt, by go_num, HT⟩
            case measure => simp [RowKit.intOf]; omega
          · have HT : Hid (S = true) := Lib.hid (by rw [hst]; simp [badB, hk0])
            have hk1 : (k != 0) = true := by simpa using hk0
            clear hst
            go_wp2
            go_ret
            exact ⟨ret_bool (by rw [HT.out]; rfl), ba _⟩
        · have HT : Hid (S = true) := Lib.hid (by rw [hst]; have : wrongB X = true := by { unfold wrongB upB; simp; omega }; simp [badB, this])
          have hk1 : (X != 0) = true := by simpa using hx0
          have hk2 : (X != 1) = true := by simpa using hx1
          clear hst
          go_wp2
          go_ret
          exact ⟨ret_bool (by rw [HT.out]; rfl), ba _⟩
      · have hkn : j = n := by omega
        subst hkn
        have hS2 : S = false := by rw [← HK.out, List.drop_eq_nil_of_le (by rw [N.out]; omega)]; rfl
        have HS2 := Lib.hid hS2
        clear hS2 HK HS
        go_wp2_with (go_at_call 58; ((with_reducible refine (cR _ (ba _)).mono ?_); rintro e w3 ⟨rfl, hb3⟩))
        go_ret
        exact ⟨ret_bool (by rw [HS2.out]; rfl), (ba _).trans (hb3.mono (ba _).size)⟩

/-! ### ints -/
def sameZ (l m : IRow) : Bool := decide (l = m)
theorem dropZ_cons {l : IRow} {k : Nat} (h : k < l.length) : l.drop k = l[k]! :: l.drop (k + 1) := by
  rw [List.drop_eq_getElem_cons h, List.getElem!_eq_getElem?_getD, List.getElem?_eq_getElem h]; rfl
theorem sameZ_step {l m : IRow} {k : Nat} (h1 : k < l.length) (h2 : k < m.length) : sameZ (l.drop k) (m.drop k) = (decide (l[k]! = m[k]!) && sameZ (l.drop (k + 1)) (m.drop (k + 1))) := by
  rw [dropZ_cons h1, dropZ_cons h2]
  unfold sameZ
  rw [Bool.eq_iff_iff]
  simp only [List.cons.injEq, decide_eq_true_eq, Bool.and_eq_true]

set_option maxRecDepth 20000 in
set_option maxHeartbeats 8000000 in
theorem rints_any (v1 v2 : Value) (l m : IRow) (w : World) (h1 : IntsAt w v1 l) (h2 : IntsAt w v2 m) (hln : l.length ≤ 100000) :
    Calls Tryz.prog 99 #[v1, v2] w fun e w' => e = .returned (.bool (sameZ l m)) ∧ Below w.heap.size w w' := by
  obtain ⟨a1, c1, e1⟩ := h1.len
  obtain ⟨a2, c2, e2⟩ := h2.len
  have H1 := Lib.hid h1
  have H2 := Lib.hid h2
  clear h1 h2
  subst e1 e2
  obtain ⟨n1, hn1⟩ : ∃ n1, l.length = n1 := ⟨_, rfl⟩
  obtain ⟨n2, hn2⟩ : ∃ n2, m.length = n2 := ⟨_, rfl⟩
  rw [hn1] at hln ⊢
  rw [hn2]
  by_cases hn : n1 = n2
  · subst hn
    obtain ⟨S, hS⟩ : ∃ S, sameZ l m = S := ⟨_, rfl⟩
    rw [hS]
    have HS := Lib.hid hS
    have N1 := Lib.hid hn1
    have N2 := Lib.hid hn2
    clear hS hn1 hn2
    go_enter Tryz.func99, Tryz.ntmps99
    go_wp2
    go_loopw [5] (fun i wr => ∃ k : Nat, k ≤ n1 ∧ i = .int .i64 k ∧ Hid (sameZ (l.drop k) (m.drop k) = S) ∧ ∃ z, wr = w.drewN z) (fun i _ => n1 - (RowKit.intOf i).toNat)
    case atStart => exact ⟨0, Nat.zero_le _, rfl, HS, 0, rfl⟩
    case round =>
      obtain ⟨k, hk, rfl, HK, z, rfl⟩ := hrel
      by_cases hlt : k < n1
      · have hkI : (k : Int) < (n1 : Int) := by omega
        have hst := sameZ_step (l := l) (m := m) (k := k) (by rw [N1.out]; exact hlt) (by rw [N2.out]; exact hlt)
        rw [HK.out] at hst
        obtain ⟨b1, o1, d1, e, _, hm1, _, hc1⟩ := H1.out.lies (by rw [N1.out]; omega)
        obtain ⟨b2, o2, d2, e', _, hm2, _, hc2⟩ := H2.out.lies (by rw [N2.out]; omega)
        rw [N1.out] at e
        rw [N2.out] at e'
        obtain ⟨rfl, _, rfl⟩ := Value.slice.inj e
        obtain ⟨rfl, _, rfl⟩ := Value.slice.inj e'
        unfold maxLen at hm1 hm2
        have x1 := hc1 k (by rw [N1.out]; exact hlt)
        have y1 := hc2 k (by rw [N2.out]; exact hlt)
        obtain ⟨X, hX⟩ : ∃ X, l[k]! = X := ⟨_, rfl⟩
        obtain ⟨Y, hY⟩ : ∃ Y, m[k]! = Y := ⟨_, rfl⟩
        rw [hX] at x1 hst
        rw [hY] at y1 hst
        clear hX hY hc1 hc2 HK e e'
        by_cases g1 : X = Y
        · subst g1
          have HT : Hid (sameZ (l.drop (k + 1)) (m.drop (k + 1)) = S) := Lib.hid (by rw [hst]; simp)
          clear hst
          go_wp2_with fail
          go_quiet (fail)
          go_wp2
          go_roundw
          case rel => exact ⟨k + 1, hlt, by go_num, HT, _, rfl⟩
          case measure => simp [RowKit.intOf]; omega
        · have HT : Hid (S = false) := Lib.hid (by rw [hst]; simp [g1])
          have g1b : (X != Y) = true := by simpa using g1
          clear hst
          go_wp2_with fail
          go_quiet (fail)
          go_wp2
          go_ret
          exact ⟨ret_bool HT.out.symm, by rw [World.drewN_drewN]; exact below_draws w _⟩
      · have hkn : k = n1 := by omega
        subst hkn
        have hl : S = true := by rw [← HK.out, List.drop_eq_nil_of_le (by rw [N1.out]; omega), List.drop_eq_nil_of_le (by rw [N2.out]; omega)]; rfl
        have HL := Lib.hid hl
        clear hl HK
        go_wp2
        go_ret
        exact ⟨ret_bool HL.out.symm, below_draws w z⟩
  · have e0 : sameZ l m = false := decide_eq_false (fun e => hn (by rw [← hn1, ← hn2, e]))
    rw [e0]
    have g1 : ((n1 : Int) != (n2 : Int)) = true := by simp; omega
    have g2 : ¬ (n1 : Int) = (n2 : Int) := by omega
    clear hn1 hn2 e0 hn
    go_enter Tryz.func99, Tryz.ntmps99
    go_wp2
    go_ret
    exact ⟨rfl, Below.refl _ _⟩

end Go.Proofs.YtafincmcmgedbaaGreatDoor

namespace Go.Proofs.YtafincmcmgedbaaGreatDoor
open Go.RowKit Go.Lib

set_option maxRecDepth 20000 in
set_option maxHeartbeats 8000000 in
theorem equalZ_any (v1 v2 : Value) (l m : IRow) (w : World) (h1 : IntsAt w v1 l) (h2 : IntsAt w v2 m) (hln : l.length ≤ 100000) :
    Calls Tryz.prog 107 #[v1, v2] w fun e w' => e = .returned (.bool (sameZ l m)) ∧ Below w.heap.size w w' := by
  obtain ⟨a1, c1, e1⟩ := h1.len
  obtain ⟨a2, c2, e2⟩ := h2.len
  have H1 := Lib.hid h1
  have H2 := Lib.hid h2
  clear h1 h2
  subst e1 e2
  obtain ⟨n1, hn1⟩ : ∃ n1, l.length = n1 := ⟨_, rfl⟩
  obtain ⟨n2, hn2⟩ : ∃ n2, m.length = n2 := ⟨_, rfl⟩
  rw [hn1] at hln ⊢
  rw [hn2]
  by_cases hn : n1 = n2
  · subst hn
    obtain ⟨S, hS⟩ : ∃ S, sameZ l m = S := ⟨_, rfl⟩
    rw [hS]
    have HS := Lib.hid hS
    have N1 := Lib.hid hn1
    have N2 := Lib.hid hn2
    clear hS hn1 hn2
    go_enter Tryz.func107, Tryz.ntmps107
    go_wp2
    go_loopw [5, 13] (fun v5 i wr => ∃ k : Nat, k ≤ n1 ∧ i = .int .i64 k ∧ Hid (sameZ (l.drop k) (m.drop k) = S) ∧ ∃ z, wr = w.drewN z) (fun _ i _ => n1 - (RowKit.intOf i).toNat)
    case atStart => exact ⟨0, Nat.zero_le _, rfl, HS, 0, rfl⟩
    case round =>
      obtain ⟨k, hk, rfl, HK, z, rfl⟩ := hrel
      by_cases hlt : k < n1
      · have hkI : (k : Int) < (n1 : Int) := by omega
        have hst := sameZ_step (l := l) (m := m) (k := k) (by rw [N1.out]; exact hlt) (by rw [N2.out]; exact hlt)
        rw [HK.out] at hst
        obtain ⟨b1, o1, d1, e, _, hm1, _, hc1⟩ := H1.out.lies (by rw [N1.out]; omega)
        obtain ⟨b2, o2, d2, e', _, hm2, _, hc2⟩ := H2.out.lies (by rw [N2.out]; omega)
        rw [N1.out] at e
        rw [N2.out] at e'
        obtain ⟨rfl, _, rfl⟩ := Value.slice.inj e
        obtain ⟨rfl, _, rfl⟩ := Value.slice.inj e'
        unfold maxLen at hm1 hm2
        have x1 := hc1 k (by rw [N1.out]; exact hlt)
        have y1 := hc2 k (by rw [N2.out]; exact hlt)
        obtain ⟨X, hX⟩ : ∃ X, l[k]! = X := ⟨_, rfl⟩
        obtain ⟨Y, hY⟩ : ∃ Y, m[k]! = Y := ⟨_, rfl⟩
        rw [hX] at x1 hst
        rw [hY] at y1 hst
        clear hX hY hc1 hc2 HK e e'
        by_cases g1 : X = Y
        · subst g1
          have HT : Hid (sameZ (l.drop (k + 1)) (m.drop (k + 1)) = S) := Lib.hid (by rw [hst]; simp)
          clear hst
          go_wp2_with fail
          go_quiet (fail)
          go_wp2
          go_roundw
          case rel => exact ⟨k + 1, hlt, by go_num, HT, _, rfl⟩
          case measure => simp [RowKit.intOf]; omega
        · have HT : Hid (S = false) := Lib.hid (by rw [hst]; simp [g1])
          have g1b : (X != Y) = true := by simpa using g1
          clear hst
          go_wp2_with fail
          go_quiet (fail)
          go_wp2
          go_ret
          exact ⟨ret_bool HT.out.symm, by rw [World.drewN_drewN]; exact below_draws w _⟩
      · have hkn : k = n1 := by omega
        subst hkn
        have hl : S = true := by rw [← HK.out, List.drop_eq_nil_of_le (by rw [N1.out]; omega), List.drop_eq_nil_of_le (by rw [N2.out]; omega)]; rfl
        have HL := Lib.hid hl
        clear hl HK
        go_wp2
        go_ret
        exact ⟨ret_bool HL.out.symm, below_draws w z⟩
  · have e0 : sameZ l m = false := decide_eq_false (fun e => hn (by rw [← hn1, ← hn2, e]))
    rw [e0]
    have g1 : ((n1 : Int) != (n2 : Int)) = true := by simp; omega
    have g2 : ¬ (n1 : Int) = (n2 : Int) := by omega
    clear hn1 hn2 e0 hn
    go_enter Tryz.func107, Tryz.ntmps107
    go_wp2
    go_ret
    exact ⟨rfl, Below.refl _ _⟩

theorem sameL_is (q k q' k' : Int) (ls ls' : IRow) (cs cs' : Row) : sameL ⟨q, ls, k, cs⟩ ⟨q', ls', k', cs'⟩ = (decide (q = q') && decide (k = k') && sameZ ls ls' && sameR cs cs') := by
  unfold sameL sameZ sameR
  rw [Bool.eq_iff_iff]
  simp only [Bool.and_eq_true, decide_eq_true_eq]
  constructor
  · rintro ⟨h1, h2, h3, h4⟩; exact ⟨⟨⟨h1, h3⟩, h2⟩, h4⟩
  · rintro ⟨⟨⟨h1, h3⟩, h2⟩, h4⟩; exact ⟨h1, h2, h3, h4⟩

set_option maxRecDepth 20000 in
set_option maxHeartbeats 8000000 in
theorem lsame_any (q k q' k' : Int) (sl sc sl' sc' : Value) (ls ls' : IRow) (cs cs' : Row) (w : World) (h : LnAt w sl sc ls cs) (h' : LnAt w sl' sc' ls' cs') (hls : ls.length ≤ 50000) (_ : cs.length ≤ 50000) :
    Calls Tryz.prog 70 #[.agg #[.int .i64 q, sl, .int .i64 k, sc], .agg #[.int .i64 q', sl', .int .i64 k', sc']] w fun e w' => e = .returned (.bool (sameL ⟨q, ls, k, cs⟩ ⟨q', ls', k', cs'⟩)) ∧ Below w.heap.size w w' := by
  obtain ⟨a1, c1, rfl⟩ := h.z.len
  obtain ⟨a2, c2, rfl⟩ := h.r.len
  obtain ⟨a3, c3, rfl⟩ := h'.z.len
  obtain ⟨a4, c4, rfl⟩ := h'.r.len
  have cZ : ∀ w1, Below w.heap.size w w1 → Calls Tryz.prog 107 #[.slice a1 ls.length c1, .slice a3 ls'.length c3] w1 fun e w' => e = .returned (.bool (sameZ ls ls')) ∧ Below w1.heap.size w1 w' := fun w1 h1 => equalZ_any _ _ ls ls' w1 (h.z.below h1) (h'.z.below h1) (by omega)
  have cR : ∀ w1, Below w.heap.size w w1 → Calls Tryz.prog 108 #[.slice a2 cs.length c2, .slice a4 cs'.length c4] w1 fun e w' => e = .returned (.bool (sameR cs cs')) ∧ Below w1.heap.size w1 w' := fun w1 h1 => same_any _ _ cs cs' w1 (h.r.below h1) (h'.r.below h1)
  have ba : ∀ o p, Below w.heap.size w ((w.alloc o).alloc p) := fun o p => ((Below.refl _ w).alloc (Nat.le_refl _) _).alloc (by simp) _
  rw [sameL_is]
  obtain ⟨Z, hZ⟩ : ∃ Z, sameZ ls ls' = Z := ⟨_, rfl⟩
  obtain ⟨R, hR⟩ : ∃ R, sameR cs cs' = R := ⟨_, rfl⟩
  obtain ⟨n1, hn1⟩ : ∃ n, ls.length = n := ⟨_, rfl⟩
  obtain ⟨n2, hn2⟩ : ∃ n, cs.length = n := ⟨_, rfl⟩
  obtain ⟨n3, hn3⟩ : ∃ n, ls'.length = n := ⟨_, rfl⟩
  obtain ⟨n4, hn4⟩ : ∃ n, cs'.length = n := ⟨_, rfl⟩
  rw [hn1, hn3, hZ] at cZ
  rw [hn2, hn4, hR] at cR
  rw [hZ, hR, hn1, hn2, hn3, hn4]
  have hX := Lib.hid (box_two w q k q' k' (.slice a1 n1 c1) (.slice a2 n2 c2) (.slice a3 n3 c3) (.slice a4 n4 c4))
  clear h h' hls hZ hR hn1 hn2 hn3 hn4
  have hD : (q = q' ∨ q ≠ q' ∧ (q == q') = false) ∧ (k = k' ∨ k ≠ k' ∧ (k == k') = false) := ⟨(Classical.em (q = q')).imp id (fun h => ⟨h, by simpa using h⟩), (Classical.em (k = k')).imp id (fun h => ⟨h, by simpa using h⟩)⟩
  obtain ⟨hq, hk⟩ := hD
  rcases hq with rfl | ⟨hq, hq2⟩ <;> rcases hk with rfl | ⟨hk, hk2⟩ <;> cases Z <;>
    (try rw [decide_eq_true rfl]
     try rw [decide_eq_false hq]
     try rw [decide_eq_false hk]
     go_enter Tryz.func70, Tryz.ntmps70
     go_wp2_with (first
      | (go_at_call 107; ((with_reducible refine (cZ _ (ba _ _)).mono ?_); rintro e w2 ⟨rfl, hb⟩; obtain ⟨bX, B0, B1⟩ := hX.out; have hb' := Lib.hid (bX.trans (hb.mono bX.size)); obtain ⟨_, x0, x1, x2, x3, _, _, _, _⟩ := B0.below hb; obtain ⟨_, y0, y1, y2, y3, _, _, _, _⟩ := B1.below hb; clear bX B0 B1 hb))
      | (go_at_call 108; ((with_reducible refine (cR _ hb'.out).mono ?_); rintro e w3 ⟨rfl, hb3⟩; have hb4 := Lib.hid (hb'.out.trans (hb3.mono hb'.out.size)))))
     go_ret
     first
      | exact ⟨rfl, hb4.out⟩
      | exact ⟨rfl, hb'.out⟩
      | exact ⟨rfl, ba _ _⟩)

set_option maxRecDepth 20000 in
set_option maxHeartbeats 8000000 in
theorem rlsame_any (q k q' k' : Int) (sl sc sl' sc' : Value) (ls ls' : IRow) (cs cs' : Row) (w : World) (h : LnAt w sl sc ls cs) (h' : LnAt w sl' sc' ls' cs') (hls : ls.length ≤ 50000) (hcs : cs.length ≤ 50000) :
    Calls Tryz.prog 56 #[.agg #[.int .i64 q, sl, .int .i64 k, sc], .agg #[.int .i64 q', sl', .int .i64 k', sc']] w fun e w' => e = .returned (.bool (sameL ⟨q, ls, k, cs⟩ ⟨q', ls', k', cs'⟩)) ∧ Below w.heap.size w w' := by
  obtain ⟨a1, c1, rfl⟩ := h.z.len
  obtain ⟨a2, c2, rfl⟩ := h.r.len
  obtain ⟨a3, c3, rfl⟩ := h'.z.len
  obtain ⟨a4, c4, rfl⟩ := h'.r.len
  have cZ : ∀ w1, Below w.heap.size w w1 → Calls Tryz.prog 99 #[.slice a1 ls.length c1, .slice a3 ls'.length c3] w1 fun e w' => e = .returned (.bool (sameZ ls ls')) ∧ Below w1.heap.size w1 w' := fun w1 h1 => rints_any _ _ ls ls' w1 (h.z.below h1) (h'.z.below h1) (by omega)
  have cR : ∀ w1, Below w.heap.size w w1 → Calls Tryz.prog 44 #[.slice a2 cs.length c2, .slice a4 cs'.length c4] w1 fun e w' => e = .returned (.bool (sameR cs cs')) ∧ Below w1.heap.size w1 w' := fun w1 h1 => rsame_any _ _ cs cs' w1 (h.r.below h1) (h'.r.below h1) (by omega)
  have ba : ∀ o p, Below w.heap.size w ((w.alloc o).alloc p) := fun o p => ((Below.refl _ w).alloc (Nat.le_refl _) _).alloc (by simp) _
  rw [sameL_is]
  obtain ⟨Z, hZ⟩ : ∃ Z, sameZ ls ls' = Z := ⟨_, rfl⟩
  obtain ⟨R, hR⟩ : ∃ R, sameR cs cs' = R := ⟨_, rfl⟩
  obtain ⟨n1, hn1⟩ : ∃ n, ls.length = n := ⟨_, rfl⟩
  obtain ⟨n2, hn2⟩ : ∃ n, cs.length = n := ⟨_, rfl⟩
  obtain ⟨n3, hn3⟩ : ∃ n, ls'.length = n := ⟨_, rfl⟩
  obtain ⟨n4, hn4⟩ : ∃ n, cs'.length = n := ⟨_, rfl⟩
  rw [hn1, hn3, hZ] at cZ
  rw [hn2, hn4, hR] at cR
  rw [hZ, hR, hn1, hn2, hn3, hn4]
  have hX := Lib.hid (box_two w q k q' k' (.slice a1 n1 c1) (.slice a2 n2 c2) (.slice a3 n3 c3) (.slice a4 n4 c4))
  clear h h' hls hcs hZ hR hn1 hn2 hn3 hn4
  have hD : (q = q' ∨ q ≠ q' ∧ (q == q') = false) ∧ (k = k' ∨ k ≠ k' ∧ (k == k') = false) := ⟨(Classical.em (q = q')).imp id (fun h => ⟨h, by simpa using h⟩), (Classical.em (k = k')).imp id (fun h => ⟨h, by simpa using h⟩)⟩
  obtain ⟨hq, hk⟩ := hD
  rcases hq with rfl | ⟨hq, hq2⟩ <;> rcases hk with rfl | ⟨hk, hk2⟩ <;> cases Z <;>
    (try rw [decide_eq_true rfl]
     try rw [decide_eq_false hq]
     try rw [decide_eq_false hk]
     go_enter Tryz.func56, Tryz.ntmps56
     go_wp2_with (first
      | (go_at_call 99; ((with_reducible refine (cZ _ (ba _ _)).mono ?_); rintro e w2 ⟨rfl, hb⟩; obtain ⟨bX, B0, B1⟩ := hX.out; have hb' := Lib.hid (bX.trans (hb.mono bX.size)); obtain ⟨_, x0, x1, x2, x3, _, _, _, _⟩ := B0.below hb; obtain ⟨_, y0, y1, y2, y3, _, _, _, _⟩ := B1.below hb; clear bX B0 B1 hb))
      | (go_at_call 44; ((with_reducible refine (cR _ hb'.out).mono ?_); rintro e w3 ⟨rfl, hb3⟩; have hb4 := Lib.hid (hb'.out.trans (hb3.mono hb'.out.size)))))
     go_ret
     first
      | exact ⟨rfl, hb4.out⟩
      | exact ⟨rfl, hb'.out⟩
      | exact ⟨rfl, ba _ _⟩)

end Go.Proofs.YtafincmcmgedbaaGreatDoor
