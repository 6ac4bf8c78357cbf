/-
  strings.FieldsFuncSeq at blanks: what its iterator does.
-/
import Derived.Test.YthoinlapopongaaDoorWalksC
import Derived.Lib.MapLaws
namespace Go.Proofs.YthoinlapopongaaDoor
open Go.RowKit Go.Lib Go.Shelf
attribute [local go_sem] Oper.semAt_some

theorem decode_blank (l : List UInt8) (hl : 0 < l.length) :
    (l.getD 0 0 = 32 ∧ decodeL l = (32, 1)) ∨ ((decodeL l).1 ≠ 32 ∧ 1 ≤ (decodeL l).2 ∧ (decodeL l).2 ≤ l.length ∧ ∀ j, j < (decodeL l).2 → l.getD j 0 ≠ 32) := by
  rw [decodeL_N]
  have ne : ∀ j, (l.getD j 0).toNat ≠ 32 → l.getD j 0 ≠ 32 := fun j h e => h (by rw [e]; rfl)
  rcases decodeN_shape l.length (l.getD 0 0).toNat (l.getD 1 0).toNat (l.getD 2 0).toNat (l.getD 3 0).toNat with ⟨h, e⟩ | ⟨h0, h1, h2, h3, e⟩ | ⟨h0, h1, h2, h3, h4, h5, e⟩ | ⟨h0, h1, h2, h3, h4, h5, h6, e⟩ | e
  · by_cases hb : l.getD 0 0 = 32
    · left
      rw [e, hb]
      exact ⟨rfl, rfl⟩
    · right
      rw [e]
      refine ⟨fun e' => hb ?_, Nat.le_refl _, hl, fun j hj => ?_⟩
      · have e2 : (l.getD 0 0).toNat = 32 := e'
        exact UInt8.toNat_inj.1 e2
      · have hj0 : j = 0 := by simp only at hj; omega
        rw [hj0]; exact hb
  · right
    rw [e]
    refine ⟨by simp only; omega, by simp only; omega, by simp only; omega, fun j hj => ?_⟩
    match j, hj with
    | 0, _ => exact ne 0 (by omega)
    | 1, _ => exact ne 1 (by omega)
    | k + 2, hj => simp only at hj; omega
  · right
    rw [e]
    refine ⟨by simp only; omega, by simp only; omega, by simp only; omega, fun j hj => ?_⟩
    match j, hj with
    | 0, _ => exact ne 0 (by omega)
    | 1, _ => exact ne 1 (by omega)
    | 2, _ => exact ne 2 (by omega)
    | k + 3, hj => simp only at hj; omega
  · right
    rw [e]
    refine ⟨by simp only; omega, by simp only; omega, by simp only; omega, fun j hj => ?_⟩
    match j, hj with
    | 0, _ => exact ne 0 (by omega)
    | 1, _ => exact ne 1 (by omega)
    | 2, _ => exact ne 2 (by omega)
    | 3, _ => exact ne 3 (by omega)
    | k + 4, hj => simp only at hj; omega
  · by_cases hb : l.getD 0 0 = 32
    · left
      refine ⟨hb, ?_⟩
      rw [hb]
      exact decodeN_ascii _ _ _ _ _ (by decide)
    · right
      rw [e]
      refine ⟨by decide, by decide, hl, fun j hj => ?_⟩
      have hj0 : j = 0 := by simp only at hj; omega
      rw [hj0]; exact hb

/-- No blank from a on, ahead of i. -/
def freeS (s : ByteArray) (a i : Nat) : Prop := ∀ j, a ≤ j → j < i → s.data.toList.getD j 0 ≠ 32
def fromS (s : ByteArray) (k : Nat) : List ByteArray := (wordsB (s.data.toList.drop k)).map asB
theorem wordsS_from (s : ByteArray) : wordsS s = fromS s 0 := rfl
theorem drop_cons (l : List UInt8) (i : Nat) (h : i < l.length) : l.drop i = l.getD i 0 :: l.drop (i + 1) := by
  rw [List.drop_eq_getElem_cons h, List.getD_eq_getElem?_getD, List.getElem?_eq_getElem h]; rfl
theorem fromS_blank {s : ByteArray} {i : Nat} (h : i < s.size) (hb : s.data.toList.getD i 0 = 32) : fromS s i = fromS s (i + 1) := by
  unfold fromS
  rw [drop_cons _ i (by rw [← size_eq]; exact h), hb, wordsB_blank]
theorem piece_list (s : ByteArray) (a i : Nat) : (s.extract a i).data.toList = (s.data.toList.drop a).take (i - a) := extract_list s a i
theorem piece_free {s : ByteArray} {a i : Nat} (h : freeS s a i) : (32 : UInt8) ∉ (s.data.toList.drop a).take (i - a) := by
  intro hm
  obtain ⟨j, hj, e⟩ := List.getElem_of_mem hm
  have hj' := hj
  rw [List.length_take, List.length_drop] at hj'
  rw [List.getElem_take, List.getElem_drop] at e
  refine h (a + j) (by omega) (by omega) ?_
  rw [List.getD_eq_getElem?_getD, List.getElem?_eq_getElem (by omega), e]; rfl
theorem piece_ne {s : ByteArray} {a i : Nat} (h1 : a < i) (h2 : i ≤ s.size) : (s.data.toList.drop a).take (i - a) ≠ [] := by
  intro e
  have := congrArg List.length e
  rw [List.length_take, List.length_drop, ← size_eq] at this
  simp at this; omega
theorem fromS_word {s : ByteArray} {a i : Nat} (h1 : a < i) (h2 : i < s.size) (hf : freeS s a i) (hb : s.data.toList.getD i 0 = 32) : fromS s a = s.extract a i :: fromS s (i + 1) := by
  have e : s.data.toList.drop a = (s.data.toList.drop a).take (i - a) ++ 32 :: s.data.toList.drop (i + 1) := by
    conv => lhs; rw [← List.take_append_drop (i - a) (s.data.toList.drop a)]
    rw [List.drop_drop, show a + (i - a) = i by omega, drop_cons _ i (by rw [← size_eq]; exact h2), hb]
  unfold fromS
  rw [e, wordsB_cons (piece_ne h1 (by omega)) (piece_free hf)]
  rw [List.map_cons, ← piece_list, asB_self]
theorem fromS_last {s : ByteArray} {a : Nat} (h1 : a < s.size) (hf : freeS s a s.size) : fromS s a = [s.extract a s.size] := by
  have e : s.data.toList.drop a = (s.data.toList.drop a).take (s.size - a) := by
    rw [List.take_of_length_le]
    rw [List.length_drop, ← size_eq]; omega
  unfold fromS
  rw [e, wordsB_one (piece_ne h1 (Nat.le_refl _)) (piece_free hf), List.map_cons, List.map_nil, ← piece_list, asB_self]
theorem fromS_end (s : ByteArray) : fromS s s.size = [] := by
  unfold fromS
  rw [List.drop_eq_nil_of_le (by rw [size_eq]; exact Nat.le_refl _), wordsB_nil]; rfl
theorem decode_from (s : ByteArray) (i : Nat) (h : i < s.size) : decodeGo (s.extract i s.size) = decodeL (s.data.toList.drop i) := by
  have e : (s.extract i s.size).data.toList = s.data.toList.drop i := by
    rw [extract_list, List.take_of_length_le]
    rw [List.length_drop, ← size_eq]; omega
  unfold decodeGo
  rw [if_neg (by simp; omega)]
  rw [← e, ← decodeL_drop, List.drop_zero]

theorem blankFn_any (c : Int) (w : World) :
    Calls Tryd.prog 54 #[.int .i32 c] w fun e w' => e = .returned (.bool (decide (c = 32))) ∧ w = w' := by
  go_enter Tryd.func54, Tryd.ntmps54
  go_wp2
  all_goals go_ret
  all_goals exact ⟨ret_bool (by rw [Bool.eq_iff_iff]; simp), rfl⟩

set_option maxHeartbeats 4000000 in
theorem fields_goes (B : Nat) (s : ByteArray) (hs : s.size ≤ 1000000000) (Lv : Prop) (Kg : World → Prop) (hKE : ∀ W, Kg W → Env W) (w : World) (hB : w.heap.size = B + 2)
    (h1 : w.cell? ⟨B, 0, none⟩ = some (.string s)) (h2 : w.cell? ⟨B + 1, 0, none⟩ = some (.func (.func 54) #[] #[])) :
    Goes Tryd.prog 65 #[.pointer (some ⟨B, 0, none⟩), .pointer (some ⟨B + 1, 0, none⟩)] (fun x : ByteArray => #[.string x]) Lv (fun xs => xs = wordsS s) (fun pre => pre <+: wordsS s) (fun pre x => pre ++ [x] <+: wordsS s) Kg B w := fun l J Jx W hW hJ hJx hK hY h0 => by
  replace h1 := (hW.cell (p := ⟨B, 0, none⟩) (by simp; omega)).trans h1
  replace h2 := (hW.cell (p := ⟨B + 1, 0, none⟩) (by simp; omega)).trans h2
  have hWs := hW.size
  rw [hB] at hWs hJ hJx hY
  have own0 : ∀ k, B ≤ k → k < B + 2 → Mine B (B + 2) W.heap.size k := fun k ha hb => .inl ⟨ha, hb⟩
  refine callsIn_of_wp Tryd.func65 rfl trivial ?_ rfl
  simp only [Tryd.ntmps65, List.size_toArray, List.length_cons, List.length_nil, Nat.reduceAdd, Nat.reduceSub, Array.replicate_succ, Array.replicate_zero, List.push_toArray, List.append_toArray, List.nil_append, List.cons_append]
  gi_wp2
  gi_loopg [4, 5] s.size (fun gk s4 s5 wx => ∃ (i : Nat) (pre : List ByteArray), s5 = .int .i64 (i : Int) ∧ i ≤ s.size ∧ s.size ≤ i + gk ∧ J pre wx ∧ W.heap.size ≤ wx.heap.size ∧ wx.cell? ⟨B, 0, none⟩ = some (.string s) ∧ wx.cell? ⟨B + 1, 0, none⟩ = some (.func (.func 54) #[] #[]) ∧
    ((s4 = .int .i64 (-1) ∧ wordsS s = pre ++ fromS s i) ∨ ∃ a : Nat, s4 = .int .i64 (a : Int) ∧ a < i ∧ freeS s a i ∧ wordsS s = pre ++ fromS s a))
  case atStart => exact ⟨0, [], rfl, Nat.zero_le _, by omega, h0, Nat.le_refl _, h1, h2, .inl ⟨rfl, by rw [wordsS_from]; rfl⟩⟩
  case round =>
    obtain ⟨i, pre, rfl, hin, hgk, hj, hsz, c1, c2, hst⟩ := hrel
    by_cases hlt : i < s.size
    · obtain ⟨g', rfl⟩ : ∃ g', gk = g' + 1 := ⟨gk - 1, by omega⟩
      have hdec := Tryd.utf8_DecodeRuneInString (s.extract i s.size) wr (hKE _ (hK _ _ hj)).1
      rw [decode_from s i hlt] at hdec
      have hcase := decode_blank (s.data.toList.drop i) (by rw [List.length_drop, ← size_eq]; omega)
      have hcall := fun (c : Int) (w : World) => blankFn_any c w
      rw [List.length_drop, ← size_eq] at hcase
      have hd0 : (s.data.toList.drop i).getD 0 0 = s.data.toList.getD i 0 := by rw [getD_dropU]; rfl
      rw [hd0] at hcase
      have hdj : ∀ j, (s.data.toList.drop i).getD j 0 = s.data.toList.getD (i + j) 0 := fun j => getD_dropU _ _ _
      rcases hcase with ⟨hb, he⟩ | ⟨hr, hk1, hkl, hf⟩
      · rw [he] at hdec
        clear he hd0 hdj
        dsimp only at hdec
        have e32 : decide ((((32 : Nat) : Int)) = 32) = true := rfl
        rcases hst with ⟨rfl, hw⟩ | ⟨a, rfl, hai, hfr, hw⟩
        · rw [fromS_blank hlt hb] at hw
          gi_wp2_with (first
            | (refine ⟨trivial, ?_⟩; gi_at_call 43; (with_reducible refine (callsIn_wide.2 hdec).mono ?_); rintro e w1 ⟨rfl, hb1⟩; have hj1 := hJ.below hb1 hj; have c11 := (hb1.cell (p := ⟨B, 0, none⟩) (lt_of_cell' c1)).trans c1; have c21 := (hb1.cell (p := ⟨B + 1, 0, none⟩) (lt_of_cell' c2)).trans c2; have hz1 := hb1.size)
            | (refine ⟨trivial, ?_⟩; gi_at_call 54; refine (callsIn_wide.2 (hcall _ _)).mono ?_; rintro e w2 ⟨rfl, rfl⟩))
          gi_roundg g'
          case measure => omega
          case rel => exact ⟨i + 1, pre, by simp, by omega, by omega, hj1, by omega, c11, c21, .inl ⟨rfl, hw⟩⟩
        · rw [fromS_word hai hlt hfr hb] at hw
          gi_wp2_with (first
            | (refine ⟨trivial, ?_⟩; gi_at_call 43; (with_reducible refine (callsIn_wide.2 hdec).mono ?_); rintro e w1 ⟨rfl, hb1⟩; have hj1 := hJ.below hb1 hj; have c11 := (hb1.cell (p := ⟨B, 0, none⟩) (lt_of_cell' c1)).trans c1; have c21 := (hb1.cell (p := ⟨B + 1, 0, none⟩) (lt_of_cell' c2)).trans c2; have hz1 := hb1.size; obtain ⟨fn, tmps, assign, body, hy, hR⟩ := yield_any (m' := 8) (hY pre (s.extract a i) w1 (by omega) hj1 (by rw [hw]; exact ⟨fromS s (i + 1), by simp⟩)))
            | (refine ⟨trivial, ?_⟩; gi_at_call 54; refine (callsIn_wide.2 (hcall _ _)).mono ?_; rintro e w2 ⟨rfl, rfl⟩))
          refine hR.mono ?_
          rintro e W3 (⟨rfl, hJ3, hk3⟩ | ⟨hlv, rfl, hJ3⟩)
          · have d1 := hk3.cell (own0 B (Nat.le_refl _) (by omega)) c11
            have d2 := hk3.cell (own0 (B + 1) (by omega) (by omega)) c21
            have hsz3 := hk3.size
            gi_wp2
            gi_roundg g'
            case measure => omega
            case rel => exact ⟨i + 1, pre ++ [s.extract a i], by simp, by omega, by omega, hJ3, by omega, d1, d2, .inl ⟨rfl, by rw [hw]; simp⟩⟩
          · gi_wp2
            refine bodyPost_ret (results_none rfl _ _ _) rfl ?_
            exact ⟨⟨_, rfl⟩, .inr ⟨hlv, pre ++ [s.extract a i], by rw [hw]; exact ⟨fromS s (i + 1), by simp⟩, hJ3⟩⟩
      · obtain ⟨R, hRd⟩ : ∃ R, (decodeL (s.data.toList.drop i)).1 = R := ⟨_, rfl⟩
        obtain ⟨K, hKd⟩ : ∃ K, (decodeL (s.data.toList.drop i)).2 = K := ⟨_, rfl⟩
        rw [hRd, hKd] at hdec
        rw [hRd] at hr
        rw [hKd] at hk1 hkl hf
        clear hRd hKd hd0
        have e32 : decide (((R : Nat) : Int) = 32) = false := by rw [decide_eq_false_iff_not]; omega
        have hfi : freeS s i (i + K) := fun j h1 h2 => by
          have := hf (j - i) (by omega)
          rw [hdj, show i + (j - i) = j by omega] at this
          exact this
        have hKi : K ≤ 1000000000 := by omega
        rcases hst with ⟨rfl, hw⟩ | ⟨a, rfl, hai, hfr, hw⟩
        · have HF := Lib.hid hfi
          clear hf hdj hfi
          gi_wp2_with (first
            | (refine ⟨trivial, ?_⟩; gi_at_call 43; (with_reducible refine (callsIn_wide.2 hdec).mono ?_); rintro e w1 ⟨rfl, hb1⟩; have hj1 := hJ.below hb1 hj; have c11 := (hb1.cell (p := ⟨B, 0, none⟩) (lt_of_cell' c1)).trans c1; have c21 := (hb1.cell (p := ⟨B + 1, 0, none⟩) (lt_of_cell' c2)).trans c2; have hz1 := hb1.size)
            | (refine ⟨trivial, ?_⟩; gi_at_call 54; refine (callsIn_wide.2 (hcall _ _)).mono ?_; rintro e w2 ⟨rfl, rfl⟩))
          gi_roundg g'
          case measure => omega
          case rel => exact ⟨i + K, pre, by simp, by omega, by omega, hj1, by omega, c11, c21, .inr ⟨i, rfl, by omega, HF.out, hw⟩⟩
        · have hfa : freeS s a (i + K) := fun j h1 h2 => by
            by_cases h : j < i
            · exact hfr j h1 h
            · exact hfi j (by omega) h2
          have HF := Lib.hid hfa
          clear hf hdj hfi hfa hfr
          gi_wp2_with (first
            | (refine ⟨trivial, ?_⟩; gi_at_call 43; (with_reducible refine (callsIn_wide.2 hdec).mono ?_); rintro e w1 ⟨rfl, hb1⟩; have hj1 := hJ.below hb1 hj; have c11 := (hb1.cell (p := ⟨B, 0, none⟩) (lt_of_cell' c1)).trans c1; have c21 := (hb1.cell (p := ⟨B + 1, 0, none⟩) (lt_of_cell' c2)).trans c2; have hz1 := hb1.size)
            | (refine ⟨trivial, ?_⟩; gi_at_call 54; refine (callsIn_wide.2 (hcall _ _)).mono ?_; rintro e w2 ⟨rfl, rfl⟩))
          gi_roundg g'
          case measure => omega
          case rel => exact ⟨i + K, pre, by simp, by omega, by omega, hj1, by omega, c11, c21, .inr ⟨a, rfl, by omega, HF.out, hw⟩⟩
    · obtain rfl : i = s.size := by omega
      rcases hst with ⟨rfl, hw⟩ | ⟨a, rfl, hai, hfr, hw⟩
      · rw [fromS_end, List.append_nil] at hw
        gi_wp2
        go_end0
        exact ⟨⟨_, rfl⟩, .inl ⟨_, hw.symm, hj⟩⟩
      · rw [fromS_last hai hfr] at hw
        obtain ⟨fn, tmps, assign, body, hy, hR⟩ := yield_any (m' := 8) (hY pre (s.extract a s.size) wr hsz hj (by rw [hw]; exact List.prefix_refl _))
        gi_wp2
        refine hR.mono ?_
        rintro e W3 (⟨rfl, hJ3, hk3⟩ | ⟨hlv, rfl, hJ3⟩)
        · gi_wp2
          go_end0
          exact ⟨⟨_, rfl⟩, .inl ⟨_, hw.symm, hJ3⟩⟩
        · gi_wp2
          go_end0
          exact ⟨⟨_, rfl⟩, .inr ⟨hlv, _, by rw [hw]; exact List.prefix_refl _, hJ3⟩⟩

end Go.Proofs.YthoinlapopongaaDoor
