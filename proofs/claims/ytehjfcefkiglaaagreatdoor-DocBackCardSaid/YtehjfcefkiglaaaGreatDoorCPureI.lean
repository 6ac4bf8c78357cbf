/-
  What is put in, split, deleted, and taken back: plain.
-/
import Derived.Test.YtehjfcefkiglaaaGreatDoorCDocZ
import Derived.Test.YtehjfcefkiglaaaGreatDoorCPureH

namespace Go.Proofs.YtehjfcefkiglaaaGreatDoor
open Go.RowKit Go.Lib

theorem lnWith_self (x : Ln) : lnWith x x.cs = x := by cases x; rfl
theorem take_len {d : Doc} {i : Nat} (hi : i < d.length) : (d.take i).length = i := by rw [List.length_take]; omega
theorem put_back {d : Doc} {i : Nat} (hi : i < d.length) : d.take i ++ [d[i]!] ++ d.drop (i + 1) = d := by
  rw [List.append_assoc, List.singleton_append, ← drop_split hi, List.take_append_drop]
theorem app_at {A B : Doc} {x : Ln} {i : Nat} (hA : A.length = i) : (A ++ x :: B)[i]! = x := by
  subst hA
  rw [List.getElem!_eq_getElem?_getD, List.getElem?_append_right (Nat.le_refl _), Nat.sub_self]; rfl
theorem app_at1 {A B : Doc} {x y : Ln} {i : Nat} (hA : A.length = i) : (A ++ x :: y :: B)[i + 1]! = y := by
  subst hA
  rw [List.getElem!_eq_getElem?_getD, List.getElem?_append_right (by omega), show A.length + 1 - A.length = 1 by omega]; rfl
theorem insert_cons (d : Doc) (i k : Nat) (m : Row) : insertD d i k m = d.take i ++ lnWith d[i]! ((d[i]!).cs.take k ++ m ++ (d[i]!).cs.drop k) :: d.drop (i + 1) := by
  unfold insertD replaceD
  rw [List.append_assoc]; rfl
theorem split_cons (d : Doc) (i k : Nat) : splitD d i k = d.take i ++ splA d[i]! k :: splB d[i]! k :: d.drop (i + 1) := by
  unfold splitD replaceD
  rw [List.append_assoc]; rfl
theorem drop_app {A B : Doc} {i : Nat} (j : Nat) (hA : A.length = i) : (A ++ B).drop (i + j) = B.drop j := by
  subst hA
  rw [List.drop_append, List.drop_eq_nil_of_le (by omega), List.nil_append, show A.length + j - A.length = j by omega]
theorem insert_back {d : Doc} {i k : Nat} (m : Row) (hi : i < d.length) (hk : k ≤ cnt d i) : deleteD (insertD d i k m) i k i (k + m.length) = d := by
  have hl := take_len hi
  rw [delete_eq]
  unfold midL
  rw [insert_cons, app_at hl, List.take_left' hl, drop_app 1 hl, List.drop_succ_cons, List.drop_zero]
  have e : (lnWith d[i]! ((d[i]!).cs.take k ++ m ++ (d[i]!).cs.drop k)).cs = (d[i]!).cs.take k ++ m ++ (d[i]!).cs.drop k := rfl
  have h1 : ((d[i]!).cs.take k).length = k := by rw [List.length_take]; unfold cnt at hk; omega
  have h2 : ((d[i]!).cs.take k ++ m).length = k + m.length := by rw [List.length_append, h1]
  have eX : ((d[i]!).cs.take k ++ m ++ (d[i]!).cs.drop k).take k ++ ((d[i]!).cs.take k ++ m ++ (d[i]!).cs.drop k).drop (k + m.length) = (d[i]!).cs := by
    rw [List.drop_left' h2, List.append_assoc, List.take_left' h1, List.take_append_drop]
  rw [e, eX]
  have e2 : lnWith (lnWith d[i]! ((d[i]!).cs.take k ++ m ++ (d[i]!).cs.drop k)) (d[i]!).cs = d[i]! := lnWith_self (d[i]!)
  rw [e2, put_back hi]
theorem split_back {d : Doc} {i k : Nat} (hi : i < d.length) (_hk : k ≤ cnt d i) : deleteD (splitD d i k) i k (i + 1) 0 = d := by
  have hl := take_len hi
  rw [delete_eq]
  unfold midL
  rw [split_cons, app_at hl, app_at1 hl, List.take_left' hl, show i + 1 + 1 = i + 2 from rfl, drop_app 2 hl, List.drop_succ_cons, List.drop_succ_cons, List.drop_zero (l := List.drop (i + 1) d)]
  have e : (splA d[i]! k).cs.take k ++ (splB d[i]! k).cs.drop 0 = (d[i]!).cs := by
    show ((d[i]!).cs.take k).take k ++ ((d[i]!).cs.drop k).drop 0 = _
    rw [List.take_take, Nat.min_self, List.drop_zero, List.take_append_drop]
  rw [e]
  have e2 : lnWith (splA d[i]! k) (d[i]!).cs = d[i]! := lnWith_self (d[i]!)
  rw [e2, put_back hi]
theorem insert_mem {d : Doc} {i k : Nat} {m : Row} {x : Ln} (hx : x ∈ insertD d i k m) : x ∈ d ∨ x = lnWith d[i]! ((d[i]!).cs.take k ++ m ++ (d[i]!).cs.drop k) := by
  rw [insert_cons] at hx
  rcases List.mem_append.1 hx with hx | hx
  · exact .inl (List.mem_of_mem_take hx)
  · rcases List.mem_cons.1 hx with hx | hx
    · exact .inr hx
    · exact .inl (List.mem_of_mem_drop hx)
theorem split_mem {d : Doc} {i k : Nat} {x : Ln} (hx : x ∈ splitD d i k) : x ∈ d ∨ x = splA d[i]! k ∨ x = splB d[i]! k := by
  rw [split_cons] at hx
  rcases List.mem_append.1 hx with hx | hx
  · exact .inl (List.mem_of_mem_take hx)
  · rcases List.mem_cons.1 hx with hx | hx
    · exact .inr (.inl hx)
    · rcases List.mem_cons.1 hx with hx | hx
      · exact .inr (.inr hx)
      · exact .inl (List.mem_of_mem_drop hx)
theorem insert_length {d : Doc} {i k : Nat} {m : Row} (hi : i < d.length) : (insertD d i k m).length = d.length := by
  rw [insert_cons, List.length_append, List.length_cons, List.length_drop, take_len hi]; omega
theorem split_length {d : Doc} {i k : Nat} (hi : i < d.length) : (splitD d i k).length = d.length + 1 := by
  rw [split_cons, List.length_append, List.length_cons, List.length_cons, List.length_drop, take_len hi]; omega
theorem size_at {d : Doc} {i : Nat} (hi : i < d.length) : sizeD d = sizeD (d.take i) + (cnt d i + sizeD (d.drop (i + 1))) := by
  have h1 := congrArg sizeD (put_back hi)
  rw [sizeD_append, sizeD_append] at h1
  have h2 : sizeD [d[i]!] = cnt d i := by rw [sizeD_cons]; rfl
  omega
theorem insert_size {d : Doc} {i k : Nat} {m : Row} (hi : i < d.length) (hk : k ≤ cnt d i) : sizeD (insertD d i k m) = sizeD d + m.length := by
  rw [insert_cons, sizeD_append, sizeD_cons, size_at hi]
  have e : (lnWith d[i]! ((d[i]!).cs.take k ++ m ++ (d[i]!).cs.drop k)).cs.length = cnt d i + m.length := by
    show ((d[i]!).cs.take k ++ m ++ (d[i]!).cs.drop k).length = _
    unfold cnt at hk ⊢
    rw [List.length_append, List.length_append, List.length_take, List.length_drop]; omega
  rw [e]; omega
theorem split_size {d : Doc} {i k : Nat} (hi : i < d.length) (hk : k ≤ cnt d i) : sizeD (splitD d i k) = sizeD d := by
  rw [split_cons, sizeD_append, sizeD_cons, sizeD_cons, size_at hi]
  have e1 : (splA d[i]! k).cs.length = k := by
    show ((d[i]!).cs.take k).length = k
    unfold cnt at hk
    rw [List.length_take]; omega
  have e2 : (splB d[i]! k).cs.length = cnt d i - k := by
    show ((d[i]!).cs.drop k).length = _
    rw [List.length_drop]; rfl
  rw [e1, e2]; omega
theorem mayR_part {r s : Row} (h : ∀ c ∈ s, c ∈ r) (hr : mayR r = true) : mayR s = true := by
  unfold mayR at hr ⊢
  rw [List.all_eq_true] at hr ⊢
  exact fun c hc => hr c (h c hc)
theorem may_of {e : Doc} (h1 : 1 ≤ e.length) (h2 : e.length ≤ 200) (h3 : sizeD e ≤ 4000) (h4 : ∀ x ∈ e, mayS x = true) : mayD e = true := by
  unfold mayD
  rw [decide_eq_true (show 1 ≤ e.length ∧ e.length ≤ 200 from ⟨h1, h2⟩), decide_eq_true h3, Bool.true_and, Bool.true_and, List.all_eq_true]
  exact h4
theorem mayS_with {x : Ln} {r : Row} (hx : mayS x = true) (hr : mayR r = true) : mayS (lnWith x r) = true := by
  unfold mayS at hx ⊢
  simp only [Bool.and_eq_true] at hx ⊢
  exact ⟨hx.1, hr⟩
theorem mayS_row {x : Ln} (hx : mayS x = true) : mayR x.cs = true := by
  unfold mayS at hx
  simp only [Bool.and_eq_true] at hx
  exact hx.2
theorem insert_may {d : Doc} {i k : Nat} {m : Row} (hi : i < d.length) (hk : k ≤ cnt d i) (hm : mayD d = true) (hr : mayR m = true) (hs : sizeD d + m.length ≤ 4000) : mayD (insertD d i k m) = true := by
  obtain ⟨m1, m2, m3⟩ := mayD_len hm
  refine may_of (by rw [insert_length hi]; exact m1) (by rw [insert_length hi]; exact m2) (by rw [insert_size hi hk]; exact hs) (fun x hx => ?_)
  rcases insert_mem hx with hx | rfl
  · exact mayD_mem hm hx
  · have h0 := mayD_mem hm (at_mem hi)
    refine mayS_with h0 ?_
    have h1 := mayS_row h0
    unfold mayR at h1 hr ⊢
    rw [List.all_append, List.all_append, Bool.and_eq_true, Bool.and_eq_true]
    exact ⟨⟨mayR_part (fun c hc => List.mem_of_mem_take hc) h1, hr⟩, mayR_part (fun c hc => List.mem_of_mem_drop hc) h1⟩
theorem split_may {d : Doc} {i k : Nat} (hi : i < d.length) (hk : k ≤ cnt d i) (hm : mayD d = true) (hn : d.length ≠ 200) : mayD (splitD d i k) = true := by
  obtain ⟨m1, m2, m3⟩ := mayD_len hm
  refine may_of (by rw [split_length hi]; omega) (by rw [split_length hi]; omega) (by rw [split_size hi hk]; exact m3) (fun x hx => ?_)
  rcases split_mem hx with hx | rfl | rfl
  · exact mayD_mem hm hx
  · have h0 := mayD_mem hm (at_mem hi)
    exact mayS_with h0 (mayR_part (fun c hc => List.mem_of_mem_take hc) (mayS_row h0))
  · have h0 := mayD_mem hm (at_mem hi)
    have hr : mayR ((d[i]!).cs.drop k) = true := mayR_part (fun c hc => List.mem_of_mem_drop hc) (mayS_row h0)
    unfold mayS at h0 ⊢
    simp only [Bool.and_eq_true] at h0 ⊢
    refine ⟨⟨h0.1.1, ?_⟩, hr⟩
    show kindB (d[i]!).ls (if k = (d[i]!).cs.length then 0 else (d[i]!).k) = true
    split
    · unfold kindB
      split <;> rfl
    · exact h0.1.2
theorem fair_app {l m : Row} (hl : Fair l) (hm : Fair m) : Fair (l ++ m) := fun k hk => by
  have hmem : (l ++ m)[k]! ∈ l ++ m := by rw [List.getElem!_eq_getElem?_getD, List.getElem?_eq_getElem hk]; exact List.getElem_mem hk
  rcases List.mem_append.1 hmem with h3 | h3
  · obtain ⟨j, hj, e⟩ := List.mem_iff_getElem.1 h3
    have := hl j hj
    rw [List.getElem!_eq_getElem?_getD, List.getElem?_eq_getElem hj] at this
    rw [← e]; exact this
  · obtain ⟨j, hj, e⟩ := List.mem_iff_getElem.1 h3
    have := hm j hj
    rw [List.getElem!_eq_getElem?_getD, List.getElem?_eq_getElem hj] at this
    rw [← e]; exact this
theorem insert_fine {d : Doc} {i k : Nat} {m : Row} (hi : i < d.length) (hk : k ≤ cnt d i) (hf : Fine d) (hm : mayD d = true) (hs : sizeD d + m.length ≤ 4000) (hfm : Fair m) : Fine (insertD d i k m) := by
  obtain ⟨m1, m2, m3⟩ := mayD_len hm
  refine ⟨by rw [insert_length hi]; omega, fun x hx => ?_, by rw [insert_size hi hk]; omega⟩
  rcases insert_mem hx with hx | rfl
  · exact hf.z x hx
  · have h0 := hf.z _ (at_mem hi)
    have hc := cnt_le hi
    unfold cnt at hc
    refine ⟨h0.1, ?_, ?_⟩
    · show ((d[i]!).cs.take k ++ m ++ (d[i]!).cs.drop k).length ≤ 50000
      rw [List.length_append, List.length_append, List.length_take, List.length_drop]; omega
    · exact fair_app (fair_app (fair_of_mem (fun c hc => List.mem_of_mem_take hc) h0.2.2) hfm) (fair_of_mem (fun c hc => List.mem_of_mem_drop hc) h0.2.2)
theorem split_fine {d : Doc} {i k : Nat} (hi : i < d.length) (hk : k ≤ cnt d i) (hf : Fine d) (hm : mayD d = true) : Fine (splitD d i k) := by
  obtain ⟨m1, m2, m3⟩ := mayD_len hm
  refine ⟨by rw [split_length hi]; omega, fun x hx => ?_, by rw [split_size hi hk]; omega⟩
  rcases split_mem hx with hx | rfl | rfl
  · exact hf.z x hx
  · have h0 := hf.z _ (at_mem hi)
    exact ⟨h0.1, by show ((d[i]!).cs.take k).length ≤ 50000; have := h0.2.1; rw [List.length_take]; omega, fair_of_mem (fun c hc => List.mem_of_mem_take hc) h0.2.2⟩
  · have h0 := hf.z _ (at_mem hi)
    exact ⟨h0.1, by show ((d[i]!).cs.drop k).length ≤ 50000; have := h0.2.1; rw [List.length_drop]; omega, fair_of_mem (fun c hc => List.mem_of_mem_drop hc) h0.2.2⟩
theorem insert_span {d : Doc} {i k : Nat} (m : Row) (hi : i < d.length) (hk : k ≤ cnt d i) : Span (insertD d i k m) i k i (k + m.length) := by
  have hc : k + m.length ≤ cnt (insertD d i k m) i := by
    unfold cnt at hk ⊢
    rw [insert_cons, app_at (take_len hi)]
    show _ ≤ ((d[i]!).cs.take k ++ m ++ (d[i]!).cs.drop k).length
    rw [List.length_append, List.length_append, List.length_take, List.length_drop]; omega
  exact ⟨by rw [insert_length hi]; exact hi, Nat.le_refl _, by omega, hc, fun _ => by omega⟩
theorem split_span {d : Doc} {i k : Nat} (hi : i < d.length) (hk : k ≤ cnt d i) : Span (splitD d i k) i k (i + 1) 0 := by
  have hc : k ≤ cnt (splitD d i k) i := by
    unfold cnt at hk ⊢
    rw [split_cons, app_at (take_len hi)]
    show k ≤ ((d[i]!).cs.take k).length
    rw [List.length_take]; omega
  exact ⟨by rw [split_length hi]; omega, by omega, hc, Nat.zero_le _, fun h => by omega⟩
/-- Nothing of a place stands alone. -/
theorem delP_mk {d : Doc} {al aa bl ba : Nat} (h : Span d al aa bl ba) (hm : mayD d = true) : delP d ((al : Int), (aa : Int)) ((bl : Int), (ba : Int)) = (deleteD d al aa bl ba, 0) := by
  unfold delP; rw [askedD_mk h hm]; rfl
theorem partP_mk {d : Doc} {al aa bl ba : Nat} (h : Span d al aa bl ba) (hm : mayD d = true) : partP d ((al : Int), (aa : Int)) ((bl : Int), (ba : Int)) = (eachD d partU (strs d al aa bl ba), 0) := by
  unfold partP; rw [askedD_mk h hm]; rfl
theorem span_head {d : Doc} {al aa bl ba : Nat} (h : Span d al aa bl ba) : Span d 0 0 al aa :=
  ⟨by have := h.hb; have := h.hab; omega, Nat.zero_le _, Nat.zero_le _, h.hka, fun _ => Nat.zero_le _⟩
theorem span_tail {d : Doc} {al aa bl ba : Nat} (h : Span d al aa bl ba) : Span d bl ba (d.length - 1) (cnt d (d.length - 1)) :=
  ⟨by have := h.hb; omega, by have := h.hb; omega, h.hkb, Nat.le_refl _, fun e => by rw [← e]; exact h.hkb⟩
theorem each_at {d : Doc} {al aa bl ba : Nat} (j : Nat) (hj : j < bl + 1 - al) : (eachD d partU (strs d al aa bl ba))[j]! = atS d partU (stN d al aa bl ba (al + j)) := by
  rw [List.getElem!_eq_getElem?_getD]
  unfold eachD strs strsF
  rw [List.getElem?_map, List.getElem?_map, List.getElem?_range' hj, Nat.one_mul]
  rfl
theorem each_length (d : Doc) (al aa bl ba : Nat) : (eachD d partU (strs d al aa bl ba)).length = bl + 1 - al := by unfold eachD; rw [List.length_map, strs_length]
theorem partU_all (r : Row) : partU r 0 r.length = r := by unfold partU; rw [List.drop_zero, Nat.sub_zero, List.take_length]
/-- What is left, a line at a time. -/
theorem left_low {d : Doc} {al aa bl ba i : Nat} (h : Span d al aa bl ba) (hi : i < al) : (deleteD d al aa bl ba)[i]! = (eachD d partU (strs d 0 0 al aa))[i]! := by
  rw [delete_low h hi, each_at i (by omega), Nat.zero_add]
  show _ = lnWith d[i]! (partU (d[i]!).cs (frN 0 0 i) (toN d al aa i))
  have h1 : frN 0 0 i = 0 := by unfold frN; split <;> rfl
  have h2 : toN d al aa i = cnt d i := if_neg (by omega)
  rw [h1, h2]
  unfold cnt
  rw [partU_all, lnWith_self]
theorem left_mid {d : Doc} {al aa bl ba : Nat} (h : Span d al aa bl ba) : (deleteD d al aa bl ba)[al]! = lnWith (eachD d partU (strs d 0 0 al aa))[al]! ((eachD d partU (strs d 0 0 al aa))[al]!.cs ++ (eachD d partU (strs d bl ba (d.length - 1) (cnt d (d.length - 1))))[0]!.cs) := by
  rw [delete_line h, each_at al (by omega), each_at 0 (by have := h.hb; omega), Nat.zero_add, Nat.add_zero]
  have e1 : atS d partU (stN d 0 0 al aa al) = lnWith d[al]! ((d[al]!).cs.take aa) := by
    show lnWith d[al]! (partU (d[al]!).cs (frN 0 0 al) (toN d al aa al)) = _
    have h1 : frN 0 0 al = 0 := by unfold frN; split <;> rfl
    have h2 : toN d al aa al = aa := if_pos rfl
    rw [h1, h2]
    unfold partU
    rw [List.drop_zero, Nat.sub_zero]
  have e2 : atS d partU (stN d bl ba (d.length - 1) (cnt d (d.length - 1)) bl) = lnWith d[bl]! ((d[bl]!).cs.drop ba) := by
    show lnWith d[bl]! (partU (d[bl]!).cs (frN bl ba bl) (toN d (d.length - 1) (cnt d (d.length - 1)) bl)) = _
    have h1 : frN bl ba bl = ba := if_pos rfl
    have h2 : toN d (d.length - 1) (cnt d (d.length - 1)) bl = cnt d bl := by
      unfold toN; split
      · next e => rw [e]
      · rfl
    rw [h1, h2]
    unfold partU cnt
    rw [List.take_of_length_le (by rw [List.length_drop]; exact Nat.le_refl _)]
  rw [e1, e2]
  rfl
theorem left_high {d : Doc} {al aa bl ba i : Nat} (h : Span d al aa bl ba) (hi : al < i) (hl : i < (deleteD d al aa bl ba).length) : (deleteD d al aa bl ba)[i]! = (eachD d partU (strs d bl ba (d.length - 1) (cnt d (d.length - 1))))[i - al]! := by
  have hn := delete_length h
  have hab := h.hab
  have hb := h.hb
  rw [each_at (i - al) (by omega)]
  have e1 : (deleteD d al aa bl ba)[i]! = d[bl + (i - al)]! := by
    rw [delete_eq, List.getElem!_eq_getElem?_getD, List.getElem!_eq_getElem?_getD]
    have hl2 : (d.take al ++ [midL d al aa bl ba]).length = al + 1 := by rw [List.length_append, take_len (by omega)]; rfl
    rw [List.getElem?_append_right (by omega), hl2, List.getElem?_drop, show bl + 1 + (i - (al + 1)) = bl + (i - al) by omega]
  rw [e1]
  show _ = lnWith d[bl + (i - al)]! (partU (d[bl + (i - al)]!).cs (frN bl ba (bl + (i - al))) (toN d (d.length - 1) (cnt d (d.length - 1)) (bl + (i - al))))
  have h1 : frN bl ba (bl + (i - al)) = 0 := if_neg (by omega)
  have h2 : toN d (d.length - 1) (cnt d (d.length - 1)) (bl + (i - al)) = cnt d (bl + (i - al)) := by
    unfold toN; split
    · next e => rw [e]
    · rfl
  rw [h1, h2]
  unfold cnt
  rw [partU_all, lnWith_self]
theorem count_co {d : Doc} {al aa bl ba : Nat} (h : Span d al aa bl ba) (hm : mayD d = true) : countA d ((al : Int), (aa : Int)) ((bl : Int), (ba : Int)) = co d bl ba - co d al aa := by
  rw [← cells_count h hm, cells_is h hm, List.length_take, List.length_drop, flatD_length]
  have h1 := co_le h
  have h2 : co d bl ba ≤ sizeD d := by
    have a := cnt_le h.hb
    have b := h.hkb
    unfold co; omega
  omega
theorem size_less {d : Doc} {al aa bl ba : Nat} (h : Span d al aa bl ba) (hm : mayD d = true) : sizeD (deleteD d al aa bl ba) + countA d ((al : Int), (aa : Int)) ((bl : Int), (ba : Int)) = sizeD d := by
  rw [count_co h hm]; exact size_delete h

end Go.Proofs.YtehjfcefkiglaaaGreatDoor
