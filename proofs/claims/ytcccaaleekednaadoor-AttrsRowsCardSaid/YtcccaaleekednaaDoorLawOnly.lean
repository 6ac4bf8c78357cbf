/-
  The walk of the statement AttrsOnly.
-/
import Derived.Test.YtcccaaleekednaaDoorWalksI
import Derived.Test.YtcccaaleekednaaDoorWalksM
import Derived.Test.YtcccaaleekednaaDoorWalksN
namespace Go.Proofs.YtcccaaleekednaaDoor
open Go.RowKit Go.Lib

theorem texts_one' (w : World) (s : ByteArray) (t : TypeId) : TextsAt (w.alloc (.cells #[.string s] t)) (.slice (some ⟨w.heap.size, 0, none⟩) 1 1) [s] := by
  refine .inr ⟨w.heap.size, 1, rfl, by simp, by simp, fun j hj => ?_⟩
  obtain rfl : j = 0 := by simpa using hj
  simp
theorem texts_two (w : World) (s u : ByteArray) (t : TypeId) : TextsAt (w.alloc (.cells #[.string s, .string u] t)) (.slice (some ⟨w.heap.size, 0, none⟩) 2 2) [s, u] := by
  refine .inr ⟨w.heap.size, 2, rfl, by simp, by simp, fun j hj => ?_⟩
  have hj2 : j = 0 ∨ j = 1 := by simp at hj; omega
  rcases hj2 with rfl | rfl <;> simp
theorem short_of {l : Row} {ts : List ByteArray} (h : l.length ≤ 200 ∧ totR l + tot ts ≤ 20000) : Short l ∧ ∀ s ∈ ts, s.size ≤ 20000 := by
  refine ⟨⟨by omega, fun j hj => ?_⟩, fun s hs => ?_⟩
  · have e : l[j]! = l[j] := by rw [List.getElem!_eq_getElem?_getD, List.getElem?_eq_getElem hj]; rfl
    have := totR_mem l l[j] (List.getElem_mem hj)
    rw [e]
    omega
  · have := tot_mem ts s hs
    omega

/-- What Only answers, as a slice. -/
def OnlyPost (m : Row) (w : World) (e : Ending) (w' : World) : Prop := ∃ a c, e = .returned (.slice a m.length c) ∧ RowAt w' (.slice a m.length c) m ∧ Below w.heap.size w w'
theorem only_len (v tv : Value) (l : Row) (ns : List ByteArray) (w : World) (hv : RowAt w v l) (ht : TextsAt w tv ns) (hl : l.length ≤ 1000) (hn : ns.length ≤ 1000) :
    Calls Tryd.prog 25 #[v, tv] w (OnlyPost (onlyR l ns) w) := by
  refine (only_any v tv l ns w hv ht hl hn).mono ?_
  rintro e w' ⟨v', rfl, hown, hb⟩
  have hr := rowAt_of_own hown
  obtain ⟨a, c, rfl⟩ := hr.len
  exact ⟨a, c, rfl, hr, hb⟩
theorem onlyR_none (l : Row) : onlyR l [] = [] := by
  unfold onlyR
  rw [List.filter_eq_nil_iff]
  intro a _
  simp
theorem onlyR_split {l : Row} {q : Nat} (ns : List ByteArray) : onlyR l ns = onlyR (l.take (q + 1)) ns ++ onlyR (l.drop (q + 1)) ns := by
  unfold onlyR
  rw [← List.filter_append, List.take_append_drop]
theorem onlyR_at {l : Row} {q : Nat} {ns : List ByteArray} (h : q < l.length) (hc : (ns.any fun n => decide (n = (l[q]!).1)) = true) :
    (onlyR (l.take q) ns).length < (onlyR l ns).length ∧ (onlyR l ns)[(onlyR (l.take q) ns).length]! = l[q]! ∧ (onlyR (l.take (q + 1)) ns).length = (onlyR (l.take q) ns).length + 1 := by
  have h1 := onlyR_snoc h ns
  rw [if_pos hc] at h1
  have h2 := onlyR_split (l := l) (q := q) ns
  rw [h1] at h2
  refine ⟨?_, ?_, ?_⟩
  · rw [h2]; simp
  · rw [h2]
    rw [List.getElem!_eq_getElem?_getD]
    simp
  · rw [h1]; simp
theorem onlyR_not {l : Row} {q : Nat} {ns : List ByteArray} (h : q < l.length) (hc : (ns.any fun n => decide (n = (l[q]!).1)) = false) :
    (onlyR (l.take (q + 1)) ns).length = (onlyR (l.take q) ns).length := by
  rw [onlyR_snoc h ns, hc]
  simp

set_option maxHeartbeats 8000000 in
theorem lawOnly_walk (v : Value) (l : Row) (a b : ByteArray) (w : World) (hE : Env w) (hv : RowAt w v l)
    (hz : ∀ a ∈ l, a.1.size ≤ 140737488355328 ∧ a.2.size ≤ 140737488355328) (ha : a.size ≤ 140737488355328) (hbs : b.size ≤ 140737488355328) :
    Calls Tryd.prog 7 #[v, .string a, .string b] w fun e w' => e = .returned (.bool true) ∧ Below w.heap.size w w' := by
  have cW := fun wx hx => awake_any wx hx
  obtain ⟨a1, c1, rfl⟩ := hv.len
  have hb := (Below.refl w.heap.size w).alloc (Nat.le_refl _) (.cells #[.string a, .string b] 9)
  go_enter Tryd.func7, Tryd.ntmps7
  go_wp2_with fail
  refine (long_any _ _ l [a, b] _ (hv.below hb) (texts_two w a b 9) hz (by simp [tot]; omega) (by simp)).mono ?_
  rintro e w1 ⟨bb, rfl, hs1, hb1⟩
  replace hb := hb.trans (hb1.mono hb.size)
  clear hb1
  cases bb with
  | true =>
    clear hs1
    go_wp2_with (go_at_call 9; ((with_reducible refine (cW _ (hE.below hb)).mono ?_); rintro e wn ⟨rfl, hbn⟩; replace hb := hb.trans (hbn.mono hb.size)))
    go_ret
    exact ⟨rfl, hb⟩
  | false =>
    obtain ⟨hsh, hts⟩ := short_of (hs1 rfl)
    have hlen : l.length ≤ 200 := (hs1 rfl).1
    have HSH := Lib.hid hsh
    clear hs1 hts hz ha hbs hsh
    have hb2 := hb.alloc hb.size (.cells #[.string a, .string b] 9)
    go_wp2_with fail
    refine (only_len _ _ l [a, b] _ (hv.below hb2) (texts_two w1 a b 9) (by omega) (by simp)).mono ?_
    rintro e w2 ⟨am, cm, rfl, hrm, hb3⟩
    replace hb := hb2.trans (hb3.mono hb2.size)
    clear hb2 hb3
    obtain ⟨N, hN⟩ : ∃ N, l.length = N := ⟨_, rfl⟩
    obtain ⟨M, hM⟩ : ∃ M, (onlyR l [a, b]).length = M := ⟨_, rfl⟩
    have hMN : M ≤ N := by rw [← hM, ← hN]; exact onlyR_le _ _
    have HRM := Lib.hid hrm
    have HV := Lib.hid hv
    rw [hN] at hlen ⊢
    rw [hM]
    have HN := Lib.hid hN
    have HM := Lib.hid hM
    clear hN hM hrm hv
    go_wp2
    go_loopw [8, 9] (fun kk i wr => ∃ q k : Nat, q ≤ N ∧ k ≤ M ∧ i = .int .i64 q ∧ kk = .int .i64 k ∧ Hid ((onlyR (l.take q) [a, b]).length = k) ∧ ∃ z, wr = w2.drewN z) (fun _ i _ => N - (intOf i).toNat)
    case atStart => exact ⟨0, 0, Nat.zero_le _, Nat.zero_le _, rfl, rfl, Lib.hid rfl, 0, rfl⟩
    case round =>
      obtain ⟨q, k, hq, hkM, rfl, rfl, HK, z, rfl⟩ := hrel
      by_cases hlt : q < N
      · have hqI : (q : Int) < (N : Int) := by omega
        have q1 := HV.out.below hb
        have q2 := HRM.out
        rcases q1 with ⟨_, _, e, _, e2⟩ | ⟨b1, o1, d1, e, _, _, _, hc1⟩
        · have := HN.out; rw [e2] at this; simp at this; omega
        · obtain ⟨rfl, _, rfl⟩ := Value.slice.inj e
          clear e
          obtain ⟨x1, x2⟩ := hc1 q (by rw [HN.out]; exact hlt)
          have hat := onlyR_at (l := l) (q := q) (ns := [a, b]) (by rw [HN.out]; exact hlt)
          have hnt := onlyR_not (l := l) (q := q) (ns := [a, b]) (by rw [HN.out]; exact hlt)
          rw [HK.out, HM.out] at hat
          rw [HK.out] at hnt
          have hany : ([a, b].any fun n => decide (n = (l[q]!).1)) = (((l[q]!).1.toList == a.toList) || ((l[q]!).1.toList == b.toList)) := by
            rw [str_eq, str_eq]
            simp [eq_comm]
          rw [hany] at hat hnt
          obtain ⟨A, hA⟩ : ∃ A, (l[q]!).1 = A := ⟨_, rfl⟩
          obtain ⟨B, hB⟩ : ∃ B, (l[q]!).2 = B := ⟨_, rfl⟩
          have hAB : l[q]! = (A, B) := by rw [← hA, ← hB]
          rw [hA] at x1 hat hnt
          rw [hB] at x2
          rw [hAB] at hat
          clear hany hA hB hAB hc1 HK
          by_cases hyes : ((A.toList == a.toList) || (A.toList == b.toList)) = true
          · obtain ⟨g1, g2, g3⟩ := hat hyes
            have HK2 := Lib.hid g3
            clear hat hnt g3
            have gI : ¬ (M : Int) ≤ (k : Int) := by omega
            have gI2 : (k : Int) < (M : Int) := by omega
            have gD : decide ((M : Int) ≤ (k : Int)) = false := decide_eq_false gI
            have gD2 : decide (M ≤ k) = false := decide_eq_false (by omega)
            have gS : (A.toList == A.toList) = true := by simp
            have gS2 : (B.toList == B.toList) = true := by simp
            rcases q2 with ⟨_, _, e, _, e2⟩ | ⟨b2, o2, d2, e, _, _, _, hc2⟩
            · have := HM.out; rw [e2] at this; simp at this; omega
            · have hML := HM.out
              obtain ⟨y1, y2⟩ := hc2 k (by rw [hML]; exact g1)
              rw [g2] at y1 y2
              simp only at y1 y2
              obtain ⟨rfl, _, rfl⟩ := Value.slice.inj e
              clear e hc2 hML g2
              have HY := Lib.hid hyes
              clear hyes
              cases ga : A.toList == a.toList with
              | true =>
                clear HY
                go_wp2_with fail
                go_quiet (fail)
                go_wp2
                go_roundw
                case rel => exact ⟨q + 1, k + 1, hlt, by omega, by go_num, by go_num, HK2, _, rfl⟩
                case measure => simp [intOf]; omega
              | false =>
                have gb : (A.toList == b.toList) = true := by have := HY.out; rw [ga] at this; simpa using this
                clear HY
                go_wp2_with fail
                go_quiet (fail)
                go_wp2
                go_roundw
                case rel => exact ⟨q + 1, k + 1, hlt, by omega, by go_num, by go_num, HK2, _, rfl⟩
                case measure => simp [intOf]; omega
          · have hno : ((A.toList == a.toList) || (A.toList == b.toList)) = false := by simpa using hyes
            have HK2 := Lib.hid (hnt hno)
            rw [Bool.or_eq_false_iff] at hno
            obtain ⟨ga, gb⟩ := hno
            clear hat hnt hyes q2
            go_wp2
            go_roundw
            case rel => exact ⟨q + 1, k, hlt, hkM, by go_num, rfl, HK2, _, rfl⟩
            case measure => simp [intOf]; omega
      · have hqN : N = q := by omega
        have hkk : M = k := by rw [← HM.out, ← HK.out, List.take_of_length_le (by rw [HN.out]; omega)]
        subst hqN
        subst hkk
        replace hb := hb.trans ((below_draws w2 z).mono hb.size)
        clear HK hlt HRM
        obtain ⟨w3, hw3⟩ : ∃ w3, w2.drewN z = w3 := ⟨_, rfl⟩
        rw [hw3] at hb ⊢
        clear hw3
        have hvl := HV.out
        have cO0 : ∀ wx, RowAt wx (.slice a1 l.length c1) l → Calls Tryd.prog 25 #[.slice a1 N c1, .slice none 0 0] wx fun e w' => (∃ am cm, e = .returned (.slice am 0 cm)) ∧ Below wx.heap.size wx w' := fun wx hx => by
          have h := only_len _ _ l [] wx hx (.inl ⟨rfl, rfl⟩) (by rw [HN.out]; omega) (by simp)
          rw [HN.out, onlyR_none] at h
          refine h.mono ?_
          rintro e w' ⟨am, cm, rfl, _, hbb⟩
          exact ⟨⟨am, cm, rfl⟩, hbb⟩
        obtain ⟨K, hK⟩ : ∃ K, (onlyR l [a]).length = K := ⟨_, rfl⟩
        have cO1 : ∀ wx, RowAt wx (.slice a1 l.length c1) l → Calls Tryd.prog 25 #[.slice a1 N c1, .slice (some ⟨wx.heap.size, 0, none⟩) 1 1] (wx.alloc (.cells #[.string a] 9)) fun e w' => (∃ am cm, e = .returned (.slice am K cm)) ∧ Below wx.heap.size wx w' := fun wx hx => by
          have hba := (Below.refl wx.heap.size wx).alloc (Nat.le_refl _) (.cells #[.string a] 9)
          have h := only_len _ _ l [a] _ (hx.below hba) (texts_one' wx a 9) (by rw [HN.out]; omega) (by simp)
          rw [HN.out] at h
          refine h.mono ?_
          rintro e w' ⟨am, cm, rfl, _, hbb⟩
          exact ⟨⟨am, cm, by rw [hK]⟩, hba.trans (hbb.mono hba.size)⟩
        have cM : ∀ wx, Env wx → RowAt wx (.slice a1 l.length c1) l → Calls Tryd.prog 19 #[.slice a1 N c1] wx fun e w' => e = .returned (.bool (mayR l)) ∧ Below wx.heap.size wx w' := fun wx hx hy => by
          have h := mayRow_any _ l wx hx hy HSH.out
          rwa [HN.out] at h
        have hK1 : mayR l = true → K ≤ 1 := fun h => by
          rw [← hK]
          unfold mayR at h
          rw [Bool.and_eq_true] at h
          exact filter_two l h.2
        obtain ⟨Y, hY⟩ : ∃ Y, mayR l = Y := ⟨_, rfl⟩
        rw [hY] at hK1
        simp only [hY] at cM
        clear hY hK
        cases Y with
        | false =>
          clear hK1
          go_wp2_with (first
            | (go_at_call 25; ((with_reducible refine (cO0 _ (hvl.below hb)).mono ?_); rintro e wn ⟨⟨am1, cm1, rfl⟩, hbn⟩; replace hb := hb.trans (hbn.mono hb.size)))
            | (go_at_call 19; ((with_reducible refine (cM _ (hE.below hb) (hvl.below hb)).mono ?_); rintro e wn ⟨rfl, hbn⟩; replace hb := hb.trans (hbn.mono hb.size)))
            | (go_at_call 9; ((with_reducible refine (cW _ (hE.below hb)).mono ?_); rintro e wn ⟨rfl, hbn⟩; replace hb := hb.trans (hbn.mono hb.size))))
          go_ret
          exact ⟨rfl, hb⟩
        | true =>
          have hK2 := hK1 rfl
          have hK3 : (K : Int) ≤ 1 := by omega
          clear hK1
          go_wp2_with (first
            | (go_at_call 25; ((with_reducible refine (cO0 _ (hvl.below hb)).mono ?_); rintro e wn ⟨⟨am1, cm1, rfl⟩, hbn⟩; replace hb := hb.trans (hbn.mono hb.size)))
            | (go_at_call 25; ((with_reducible refine (cO1 _ (hvl.below hb)).mono ?_); rintro e wn ⟨⟨am2, cm2, rfl⟩, hbn⟩; replace hb := hb.trans (hbn.mono hb.size)))
            | (go_at_call 19; ((with_reducible refine (cM _ (hE.below hb) (hvl.below hb)).mono ?_); rintro e wn ⟨rfl, hbn⟩; replace hb := hb.trans (hbn.mono hb.size)))
            | (go_at_call 9; ((with_reducible refine (cW _ (hE.below hb)).mono ?_); rintro e wn ⟨rfl, hbn⟩; replace hb := hb.trans (hbn.mono hb.size))))
          go_ret
          exact ⟨rfl, hb⟩

end Go.Proofs.YtcccaaleekednaaDoor
