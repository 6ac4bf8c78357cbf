/-
  The document's Parse.
-/
import Derived.Test.YthoinlapopongaaDoorWalksN
import Derived.Deep.RegionHeld3
namespace Go.Proofs.YthoinlapopongaaDoor
open Go.RowKit Go.Lib

/-- What a declaration sets and clears by the document. -/
def docS (p v : ByteArray) : B64 × B64 := if (saysS p v).2.2 = true then (BitVec.ofInt 64 (saysS p v).1, BitVec.ofInt 64 (saysS p v).2.1) else (0#64, 0#64)
def stepR (z : B64 × B64) (d : ByteArray × ByteArray) : B64 × B64 := (overS z.1 (docS d.1 d.2).1 (docS d.1 d.2).2, overS z.2 (docS d.1 d.2).2 (docS d.1 d.2).1)
def foldR (l : List (ByteArray × ByteArray)) : B64 × B64 := l.foldl stepR (0#64, 0#64)
def parseR (s : ByteArray) : B64 × B64 := foldR (declsB s.data.toList)
def declP (q : ByteArray) : Option (ByteArray × ByteArray) := declB q.data.toList
theorem declsB_parts (s : ByteArray) : declsB s.data.toList = (partsOf 59 s).filterMap declP := by
  unfold declsB partsOf
  rw [List.filterMap_map]
  rfl
theorem foldR_none (l : List ByteArray) (q : ByteArray) (h : declP q = none) : foldR ((l ++ [q]).filterMap declP) = foldR (l.filterMap declP) := by
  rw [List.filterMap_append, List.filterMap_cons, h]; simp
theorem foldR_some (l : List ByteArray) (q : ByteArray) {d : ByteArray × ByteArray} (h : declP q = some d) : foldR ((l ++ [q]).filterMap declP) = stepR (foldR (l.filterMap declP)) d := by
  rw [List.filterMap_append, List.filterMap_cons, h]
  unfold foldR
  rw [List.foldl_append]
  rfl
theorem step_no {z : B64 × B64} {d : ByteArray × ByteArray} (h : (saysS d.1 d.2).2.2 = false) : stepR z d = z := by
  unfold stepR docS
  rw [h]
  simp only [Bool.false_eq_true, if_false, over_nothing]
theorem step_yes {z : B64 × B64} {d : ByteArray × ByteArray} {on off : Int} (h : saysS d.1 d.2 = (on, off, true)) :
    (stepR z d).1.toInt = bits .or .i64 (bits .andNot .i64 z.1.toInt off) on ∧ (stepR z d).2.toInt = bits .or .i64 (bits .andNot .i64 z.2.toInt on) off := by
  unfold stepR docS
  rw [h]
  simp only [if_true, bits_or, bits_andNot, ofInt_bits]
  exact ⟨rfl, rfl⟩

/-- No colon ahead of a place. -/
def noColon (q : ByteArray) (at' : Nat) : Prop := ∀ j, j < at' → q.data.toList.getD j 0 ≠ 58
theorem cutB_none : ∀ l : List UInt8, (∀ j, j < l.length → l.getD j 0 ≠ 58) → cutB l = none
  | [], _ => rfl
  | b :: t, h => by
    have h0 : b ≠ 58 := h 0 (by simp)
    have ih := cutB_none t (fun j hj => h (j + 1) (by simp; omega))
    rw [cutB, if_neg h0, ih]; rfl
theorem cutB_some : ∀ (l : List UInt8) (k : Nat), (∀ j, j < k → l.getD j 0 ≠ 58) → k < l.length → l.getD k 0 = 58 → cutB l = some (l.take k, l.drop (k + 1))
  | [], k, _, hk, _ => by simp at hk
  | b :: t, 0, _, _, h => by
    have h0 : b = 58 := h
    rw [cutB, if_pos h0]; rfl
  | b :: t, k + 1, hf, hk, h => by
    have h0 : b ≠ 58 := hf 0 (by omega)
    have ih := cutB_some t k (fun j hj => hf (j + 1) (by omega)) (by simpa using hk) h
    rw [cutB, if_neg h0, ih]; rfl
theorem decl_none {q : ByteArray} (h : noColon q q.size) : declP q = none := by
  unfold declP
  rw [declB_is, cutB_none _ (fun j hj => h j (by rw [size_eq]; exact hj))]; rfl
theorem decl_some {q : ByteArray} {k : Nat} (h : noColon q k) (hk : k < q.size) (hc : q[k] = 58) :
    declP q = some (⟨(plainB (q.extract 0 k).data.toList).toArray⟩, ⟨(plainB (q.extract (k + 1) q.size).data.toList).toArray⟩) := by
  unfold declP
  rw [declB_is, cutB_some _ k h (by rw [← size_eq]; exact hk) (by rw [getD_byte q k hk]; exact hc)]
  have e1 : (q.extract 0 k).data.toList = q.data.toList.take k := by rw [extract_list]; simp
  have e2 : (q.extract (k + 1) q.size).data.toList = q.data.toList.drop (k + 1) := by
    rw [extract_list]
    apply List.take_of_length_le
    rw [List.length_drop, size_eq]; exact Nat.le_refl _
  rw [e1, e2]; rfl

set_option maxHeartbeats 16000000 in
theorem rparse_any (s : ByteArray) (w : World) (hs : s.size ≤ 1000000) :
    Calls Tryd.prog 10 #[.string s] w fun e w' => e = .returned (.tuple #[.int .i64 (parseR s).1.toInt, .int .i64 (parseR s).2.toInt]) ∧ Below w.heap.size w w' := by
  have hsp : ∀ w, Calls Tryd.prog 17 #[.string s, .int .u8 59] w (SplitPost w.heap.size (partsOf 59 s) w) := fun w => rsplit_any s 59 w hs
  have hpr : parseR s = foldR ((partsOf 59 s).filterMap declP) := by unfold parseR; rw [declsB_parts]
  have hcnt : (partsOf 59 s).length ≤ s.size + 1 := by
    unfold partsOf; rw [List.length_map]; have := parts_count 59 s.data.toList; rw [← size_eq] at this; exact this
  have hpos : 0 < (partsOf 59 s).length := by
    unfold partsOf; rw [List.length_map]; exact List.length_pos_iff.2 (partsB_ne 59 s.data.toList)
  have hlen : ∀ q ∈ partsOf 59 s, q.size ≤ s.size := by
    intro q hq
    obtain ⟨l, hl, rfl⟩ := List.mem_map.1 hq
    have := partsB_len 59 _ l hl
    rw [size_eq, size_eq]; exact this
  obtain ⟨Q, hQ⟩ : ∃ Q, partsOf 59 s = Q := ⟨_, rfl⟩
  rw [hQ] at hsp hpr hcnt hpos hlen
  have HPR := Lib.hid hpr
  have HLEN := Lib.hid hlen
  clear hQ hpr hlen
  go_enter Tryd.func10, Tryd.ntmps10
  go_wp2_with (go_at_call 17; ((with_reducible refine (hsp _).mono ?_); rintro e w1 ⟨u, rfl, hown, hb⟩))
  obtain ⟨n, hn⟩ : ∃ n, Q.length = n := ⟨_, rfl⟩
  unfold TextsOwn at hown
  rw [hn] at hown hcnt hpos
  obtain ⟨g, cap, rfl, hgB, hgW⟩ := hown.form hpos
  have hcap : n ≤ cap := by
    rcases hown.2 with ⟨h, _⟩ | ⟨g', cap', cur, h, _, _, hn, _⟩
    · cases h
    · cases h; exact hn
  have hcells : ∀ k (hk : k < Q.length), w1.cell? ⟨g, k, none⟩ = some (.string Q[k]) := by
    intro k hk
    rw [hown.cellAt k (by omega), List.getElem?_map, List.getElem?_eq_getElem hk]; rfl
  have HN := Lib.hid hn
  have HC := Lib.hid hcells
  clear hn hown hsp hcells
  go_wp2
  go_loopg [5, 6, 7] n (fun gk s5 s6 s7 wx => ∃ k : Nat, s7 = .int .i64 (k : Int) ∧ k + gk = n ∧ Below w1.heap.size w1 wx ∧ s5 = .int .i64 (foldR ((Q.take k).filterMap declP)).1.toInt ∧ s6 = .int .i64 (foldR ((Q.take k).filterMap declP)).2.toInt)
  case atStart => exact ⟨0, rfl, by omega, Below.refl _ _, rfl, rfl⟩
  case round =>
    obtain ⟨k, rfl, hgk, hbw, rfl, rfl⟩ := hrel
    by_cases hlt : k < n
    · obtain ⟨g3, rfl⟩ : ∃ g3, gk = g3 + 1 := ⟨gk - 1, by omega⟩
      have hkQ : k < Q.length := by rw [HN.out]; exact hlt
      obtain ⟨q, hq⟩ : ∃ q, Q[k] = q := ⟨_, rfl⟩
      have hsn : Q.take (k + 1) = Q.take k ++ [q] := by rw [List.take_succ_eq_append_getElem hkQ, hq]
      have hcell : wr.cell? ⟨g, k, none⟩ = some (.string q) := by
        have h := HC.out k hkQ
        rw [hq] at h
        exact (hbw.cell (p := ⟨g, k, none⟩) (lt_of_cell' h)).trans h
      have hqs : q.size ≤ s.size := HLEN.out q (by rw [← hq]; exact List.getElem_mem hkQ)
      have HSN := Lib.hid hsn
      clear hsn hq
      obtain ⟨z, hz⟩ : ∃ z, foldR ((Q.take k).filterMap declP) = z := ⟨_, rfl⟩
      rw [hz]
      have HZ := Lib.hid hz
      clear hz
      obtain ⟨wo, rfl⟩ : ∃ wo : World, wo = wr := ⟨_, rfl⟩
      go_wp2
      go_loopg [8] q.size (fun gk s8 wx => ∃ a : Nat, s8 = .int .i64 (a : Int) ∧ a + gk = q.size ∧ wo = wx ∧ noColon q a)
      case atStart => exact ⟨0, rfl, by omega, rfl, fun j hj => absurd hj (Nat.not_lt_zero j)⟩
      case round =>
        obtain ⟨a, rfl, hgk2, rfl, hno⟩ := hrel
        by_cases hla : a < q.size
        · by_cases hcol : q[a] = 58
          · have hd := decl_some hno hla hcol
            have hqb : ((((q[a]).toNat : Nat) : Int) != 58) = false := by rw [hcol]; rfl
            have ht1 := fun w => rtrim_any (q.extract 0 a) w (by simp; omega)
            have ht2 := fun w => rtrim_any (q.extract (a + 1) q.size) w (by simp; omega)
            have hvs : (⟨(plainB (q.extract (a + 1) q.size).data.toList).toArray⟩ : ByteArray).size ≤ 1000000 := by
              have h1 := plainB_len (q.extract (a + 1) q.size).data.toList
              rw [← size_eq] at h1
              have h2 : (q.extract (a + 1) q.size).size ≤ q.size := by simp
              have h3 : (⟨(plainB (q.extract (a + 1) q.size).data.toList).toArray⟩ : ByteArray).size = (plainB (q.extract (a + 1) q.size).data.toList).length := size_eq _
              omega
            obtain ⟨N, hN⟩ : ∃ N : ByteArray, ⟨(plainB (q.extract 0 a).data.toList).toArray⟩ = N := ⟨_, rfl⟩
            obtain ⟨V, hV⟩ : ∃ V : ByteArray, ⟨(plainB (q.extract (a + 1) q.size).data.toList).toArray⟩ = V := ⟨_, rfl⟩
            rw [hN] at ht1
            rw [hV] at ht2 hvs
            rw [hN, hV] at hd
            have hsy := fun w => rsays_any N V w hvs
            have HF := Lib.hid (foldR_some (Q.take k) q hd)
            clear hd hno hcol hN hV
            have hmx : Tryd.prog.follows .mixedOrders = true := by kernel_rfl
            obtain ⟨⟨on, off, ok⟩, hS⟩ : ∃ t, saysS N V = t := ⟨_, rfl⟩
            unfold SaysPost at hsy
            rw [hS] at hsy
            dsimp only at hsy
            have hb2 : Below wo.heap.size wo wo.drew := below_draws wo 1
            have hcell2 : wo.drew.cell? ⟨g, k, none⟩ = some (.string q) := hcell
            have hw1 : IntKind.i64.wrap ((a : Int) + 1) = (a : Int) + 1 := IntWalk.i64_in _ (by omega)
            have hw2 : (0 : Int) ≤ (a : Int) + 1 := by omega
            have hw3 : ((a : Int) + 1).toNat = a + 1 := by omega
            have hw4 : (a : Int) + 1 ≤ (q.size : Int) := by omega
            have hw5 : (0 : Int) ≤ (a : Int) := by omega
            have hw6 : (a : Int) ≤ (q.size : Int) := by omega
            cases ok with
            | true =>
              obtain ⟨e1, e2⟩ := step_yes (z := z) (d := (N, V)) hS
              have E1 := Lib.hid e1
              have E2 := Lib.hid e2
              clear e1 e2 hS
              go_wp2
              go_region_held3 (fun w' => w'.cell? ⟨g, k, none⟩ = some (.string q)) (exact hcell2) (first
                | (go_at_call 19; first
                    | ((with_reducible refine (ht1 _).mono ?_); rintro e w3 ⟨rfl, hb3⟩; replace hcell2 := (hb3.cell (p := ⟨g, k, none⟩) (lt_of_cell' hcell2)).trans hcell2; replace hb2 := hb2.trans (hb3.mono hb2.size))
                    | ((with_reducible refine (ht2 _).mono ?_); rintro e w3 ⟨rfl, hb3⟩; replace hcell2 := (hb3.cell (p := ⟨g, k, none⟩) (lt_of_cell' hcell2)).trans hcell2; replace hb2 := hb2.trans (hb3.mono hb2.size)))
                | (go_at_call 18; ((with_reducible refine (hsy _).mono ?_); rintro e w3 ⟨rfl, hb3⟩; replace hcell2 := (hb3.cell (p := ⟨g, k, none⟩) (lt_of_cell' hcell2)).trans hcell2; replace hb2 := hb2.trans (hb3.mono hb2.size))))
              all_goals clear hw1 hw3
              all_goals go_wp2
              all_goals
                go_roundg g3
                case measure => omega
                case rel => exact ⟨k + 1, by simp, by omega, hbw.trans (hb2.mono hbw.size), by rw [HSN.out, HF.out, HZ.out, E1.out], by rw [HSN.out, HF.out, HZ.out, E2.out]⟩
            | false =>
              have E0 := Lib.hid (step_no (z := z) (d := (N, V)) (by rw [hS]))
              clear hS
              go_wp2
              go_region_held3 (fun w' => w'.cell? ⟨g, k, none⟩ = some (.string q)) (exact hcell2) (first
                | (go_at_call 19; first
                    | ((with_reducible refine (ht1 _).mono ?_); rintro e w3 ⟨rfl, hb3⟩; replace hcell2 := (hb3.cell (p := ⟨g, k, none⟩) (lt_of_cell' hcell2)).trans hcell2; replace hb2 := hb2.trans (hb3.mono hb2.size))
                    | ((with_reducible refine (ht2 _).mono ?_); rintro e w3 ⟨rfl, hb3⟩; replace hcell2 := (hb3.cell (p := ⟨g, k, none⟩) (lt_of_cell' hcell2)).trans hcell2; replace hb2 := hb2.trans (hb3.mono hb2.size)))
                | (go_at_call 18; ((with_reducible refine (hsy _).mono ?_); rintro e w3 ⟨rfl, hb3⟩; replace hcell2 := (hb3.cell (p := ⟨g, k, none⟩) (lt_of_cell' hcell2)).trans hcell2; replace hb2 := hb2.trans (hb3.mono hb2.size))))
              all_goals clear hw1 hw3
              all_goals go_wp2
              all_goals
                go_roundg g3
                case measure => omega
                case rel => exact ⟨k + 1, by simp, by omega, hbw.trans (hb2.mono hbw.size), by rw [HSN.out, HF.out, HZ.out, E0.out], by rw [HSN.out, HF.out, HZ.out, E0.out]⟩
          · have hqb : ((((q[a]).toNat : Nat) : Int) != 58) = true := by
              rw [bne_iff_ne]
              intro e
              apply hcol
              apply UInt8.toNat_inj.1
              have : q[a].toNat = 58 := by omega
              rw [this]; rfl
            have hno2 : noColon q (a + 1) := by
              intro j hj
              by_cases h : j < a
              · exact hno j h
              · have : j = a := by omega
                subst this
                rw [getD_byte q j hla]; exact hcol
            obtain ⟨g4, rfl⟩ : ∃ g4, gk = g4 + 1 := ⟨gk - 1, by omega⟩
            have HNO := Lib.hid hno2
            clear hno hno2 hcol
            go_wp2
            go_roundg g4
            case measure => omega
            case rel => exact ⟨a + 1, by simp, by omega, rfl, HNO.out⟩
        · obtain rfl : a = q.size := by omega
          have hd := decl_none hno
          have HF := Lib.hid (foldR_none (Q.take k) q hd)
          clear hd hno
          go_wp2
          go_roundg g3
          case measure => omega
          case rel => exact ⟨k + 1, by simp, by omega, hbw, by rw [HSN.out, HF.out, HZ.out], by rw [HSN.out, HF.out, HZ.out]⟩
    · obtain rfl : k = n := by omega
      rw [List.take_of_length_le (by rw [HN.out]; exact Nat.le_refl _)]
      rw [← HPR.out]
      go_wp2
      go_ret2
      exact ⟨rfl, hb.trans (hbw.mono hb.size)⟩

end Go.Proofs.YthoinlapopongaaDoor
