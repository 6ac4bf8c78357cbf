/-
  What stands between places; what is deleted in two steps: plain.
-/
import Derived.Test.YtehjfcefkiglaaaGreatDoorCDocY
import Derived.Test.YtehjfcefkiglaaaGreatDoorCPureG

namespace Go.Proofs.YtehjfcefkiglaaaGreatDoor
open Go.RowKit Go.Lib

theorem drop_split {d : Doc} {i : Nat} (h : i < d.length) : d.drop i = d[i]! :: d.drop (i + 1) := by
  rw [List.drop_eq_getElem_cons h, List.getElem!_eq_getElem?_getD, List.getElem?_eq_getElem h]; rfl
theorem flat_drop (d : Doc) (i : Nat) : (flatD d).drop (sizeD (d.take i)) = flatD (d.drop i) := by
  have e : flatD d = flatD (d.take i) ++ flatD (d.drop i) := by rw [← flatD_append, List.take_append_drop]
  rw [e, ← flatD_length, List.drop_append, List.drop_eq_nil_of_le (Nat.le_refl _), List.nil_append, Nat.sub_self, List.drop_zero]
theorem flat_at {d : Doc} {i f : Nat} (h : i < d.length) (hf : f ≤ cnt d i) : (flatD d).drop (sizeD (d.take i) + f) = (d[i]!).cs.drop f ++ flatD (d.drop (i + 1)) := by
  have e := flat_drop d i
  rw [← List.drop_drop, e, drop_split h, flatD_cons, List.drop_append]
  have hz : f - (d[i]!).cs.length = 0 := by unfold cnt at hf; omega
  rw [hz, List.drop_zero]
/-- So many cells stand ahead of a place. -/
def co (d : Doc) (i k : Nat) : Nat := sizeD (d.take i) + k
theorem co_le {d : Doc} {al aa bl ba : Nat} (h : Span d al aa bl ba) : co d al aa ≤ co d bl ba := by
  unfold co
  by_cases e : al = bl
  · subst e; have := h.one rfl; omega
  · have hab := h.hab
    have h1 := sizeD_take_mono d (show al + 1 ≤ bl by omega)
    rw [sizeD_next (by have := h.hb; omega)] at h1
    have := h.hka
    omega
theorem between_flat {d : Doc} {al aa bl ba : Nat} (h : Span d al aa bl ba) : ∀ n i, al ≤ i → i ≤ bl → bl - i ≤ n →
    flatD (eachD d partU (strsF d al aa bl ba i)) = ((flatD d).drop (sizeD (d.take i) + frN al aa i)).take (co d bl ba - (sizeD (d.take i) + frN al aa i))
  | n, i, hi, hb, hn => by
    have hbl := h.hb
    have hil : i < d.length := by omega
    obtain ⟨f1, f2⟩ := h.fit hi hb
    rw [strsF_step _ _ _ _ _ _ hb, flat_at hil (by omega)]
    have hats : atS d partU (stN d al aa bl ba i) = lnWith d[i]! (partU (d[i]!).cs (frN al aa i) (toN d bl ba i)) := rfl
    have hun : eachD d partU (stN d al aa bl ba i :: strsF d al aa bl ba (i + 1)) = lnWith d[i]! (partU (d[i]!).cs (frN al aa i) (toN d bl ba i)) :: eachD d partU (strsF d al aa bl ba (i + 1)) := rfl
    rw [hun, flatD_cons]
    show partU (d[i]!).cs (frN al aa i) (toN d bl ba i) ++ _ = _
    by_cases e : i = bl
    · subst e
      rw [strsF_end _ _ _ _ _ _ (by omega)]
      have ht : toN d i ba i = ba := if_pos rfl
      rw [ht] at f1 f2 ⊢
      have hz : co d i ba - (sizeD (d.take i) + frN al aa i) = ba - frN al aa i := by unfold co; omega
      rw [hz, List.take_append_of_le_length (by rw [List.length_drop]; unfold cnt at f2; omega)]
      show _ ++ [] = _
      rw [List.append_nil]
      rfl
    · have ht : toN d bl ba i = cnt d i := if_neg e
      have hf : frN al aa (i + 1) = 0 := if_neg (by omega)
      cases n with
      | zero => omega
      | succ n =>
        have ih := between_flat h n (i + 1) (by omega) (by omega) (by omega)
        simp only [hf, Nat.add_zero] at ih
        rw [flat_drop] at ih
        rw [ht] at f1 ⊢
        rw [ih]
        have hp : partU (d[i]!).cs (frN al aa i) (cnt d i) = (d[i]!).cs.drop (frN al aa i) := by
          unfold partU cnt
          rw [List.take_of_length_le (by rw [List.length_drop]; exact Nat.le_refl _)]
        rw [hp]
        have h1 := sizeD_take_mono d (show i + 1 ≤ bl by omega)
        have h2 := sizeD_next hil
        have hl : ((d[i]!).cs.drop (frN al aa i)).length = cnt d i - frN al aa i := by rw [List.length_drop]; rfl
        have ht2 : ((d[i]!).cs.drop (frN al aa i)).take (co d bl ba - (sizeD (d.take i) + frN al aa i)) = (d[i]!).cs.drop (frN al aa i) := List.take_of_length_le (by rw [hl]; unfold co; omega)
        rw [List.take_append, ht2, hl, show co d bl ba - (sizeD (d.take i) + frN al aa i) - (cnt d i - frN al aa i) = co d bl ba - sizeD (d.take (i + 1)) by unfold co; omega]
theorem cells_is {d : Doc} {al aa bl ba : Nat} (h : Span d al aa bl ba) (hm : mayD d = true) : cellsB d ((al : Int), (aa : Int)) ((bl : Int), (ba : Int)) = ((flatD d).drop (co d al aa)).take (co d bl ba - co d al aa) := by
  unfold cellsB partP
  rw [askedD_mk h hm]
  have := between_flat h bl al (Nat.le_refl _) h.hab (by omega)
  have hf : frN al aa al = aa := if_pos rfl
  rw [hf] at this
  exact this
theorem cells_split {d : Doc} {al aa bl ba cl ca : Nat} (h1 : Span d al aa bl ba) (h2 : Span d bl ba cl ca) (h3 : Span d al aa cl ca) (hm : mayD d = true) :
    cellsB d ((al : Int), (aa : Int)) ((cl : Int), (ca : Int)) = cellsB d ((al : Int), (aa : Int)) ((bl : Int), (ba : Int)) ++ cellsB d ((bl : Int), (ba : Int)) ((cl : Int), (ca : Int)) := by
  rw [cells_is h1 hm, cells_is h2 hm, cells_is h3 hm]
  have a := co_le h1
  have b := co_le h2
  obtain ⟨m, hm1⟩ : ∃ m, co d bl ba = co d al aa + m := ⟨co d bl ba - co d al aa, by omega⟩
  obtain ⟨k, hk⟩ : ∃ k, co d cl ca = co d bl ba + k := ⟨co d cl ca - co d bl ba, by omega⟩
  rw [hk, hm1, show co d al aa + m + k - co d al aa = m + k by omega, show co d al aa + m - co d al aa = m by omega, show co d al aa + m + k - (co d al aa + m) = k by omega, List.take_add, List.drop_drop]
theorem Span.join {d : Doc} {al aa bl ba cl ca : Nat} (h1 : Span d al aa bl ba) (h2 : Span d bl ba cl ca) : Span d al aa cl ca :=
  ⟨h2.hb, Nat.le_trans h1.hab h2.hab, h1.hka, h2.hkb, fun e => by
    have a := h1.hab
    have b := h2.hab
    have e1 : al = bl := by omega
    have e2 : bl = cl := by omega
    exact Nat.le_trans (h1.one e1) (h2.one e2)⟩
theorem flat_count (d : Doc) : ∀ ss : List St, (∀ s ∈ ss, s.2.2 ≤ (d[s.1]!).cs.length) → (flatD (eachD d partU ss)).length = countL ss
  | [], _ => rfl
  | s :: ss, h => by
    have ih := flat_count d ss (fun x hx => h x (List.mem_cons_of_mem _ hx))
    have h0 := h s List.mem_cons_self
    have e : eachD d partU (s :: ss) = atS d partU s :: eachD d partU ss := rfl
    rw [e, flatD_cons, List.length_append, ih]
    show (partU (d[s.1]!).cs s.2.1 s.2.2).length + _ = _
    unfold countL partU
    rw [List.map_cons, List.sum_cons, List.length_take, List.length_drop]
    omega
theorem cells_count {d : Doc} {al aa bl ba : Nat} (h : Span d al aa bl ba) (hm : mayD d = true) : (cellsB d ((al : Int), (aa : Int)) ((bl : Int), (ba : Int))).length = countA d ((al : Int), (aa : Int)) ((bl : Int), (ba : Int)) := by
  unfold cellsB partP countA
  rw [askedD_mk h hm]
  refine flat_count d _ (fun s hs => ?_)
  obtain ⟨m1, m2, m3⟩ := strs_mem hs
  have := (h.fit m1 m2).2
  have e : s.2.2 = toN d bl ba s.1 := congrArg (·.2.2) m3
  rw [e]
  exact this
theorem part_size {d : Doc} {al aa bl ba : Nat} (h : Span d al aa bl ba) (hm : mayD d = true) : sizeD (partP d ((al : Int), (aa : Int)) ((bl : Int), (ba : Int))).1 ≤ sizeD d := by
  have h1 := cells_count h hm
  unfold cellsB at h1
  rw [flatD_length] at h1
  rw [h1]
  unfold countA
  rw [askedD_mk h hm]
  exact countD_le h

/-! ### Delete -/
theorem at_mid (A D : Doc) (x : Ln) : (A ++ [x] ++ D)[A.length]! = x := by
  rw [List.append_assoc, List.getElem!_eq_getElem?_getD, List.getElem?_append_right (Nat.le_refl _), Nat.sub_self]; rfl
theorem at_low (A D : Doc) (i : Nat) (h : i < A.length) : (A ++ D)[i]! = A[i]! := by
  rw [List.getElem!_eq_getElem?_getD, List.getElem!_eq_getElem?_getD, List.getElem?_append_left h]
theorem take_at (d : Doc) (i k : Nat) (h : i < k) : (d.take k)[i]! = d[i]! := by
  rw [List.getElem!_eq_getElem?_getD, List.getElem!_eq_getElem?_getD, List.getElem?_take_of_lt h]
def midL (d : Doc) (bl ba cl ca : Nat) : Ln := lnWith d[bl]! ((d[bl]!).cs.take ba ++ (d[cl]!).cs.drop ca)
theorem delete_eq (d : Doc) (bl ba cl ca : Nat) : deleteD d bl ba cl ca = d.take bl ++ [midL d bl ba cl ca] ++ d.drop (cl + 1) := rfl
theorem delete_line {d : Doc} {bl ba cl ca : Nat} (h : Span d bl ba cl ca) : (deleteD d bl ba cl ca)[bl]! = midL d bl ba cl ca := by
  have hl : (d.take bl).length = bl := by rw [List.length_take]; have := h.hab; have := h.hb; omega
  have := at_mid (d.take bl) (d.drop (cl + 1)) (midL d bl ba cl ca)
  rw [hl] at this
  exact this
theorem delete_low {d : Doc} {bl ba cl ca : Nat} (h : Span d bl ba cl ca) {i : Nat} (hi : i < bl) : (deleteD d bl ba cl ca)[i]! = d[i]! := by
  have hl : (d.take bl).length = bl := by rw [List.length_take]; have := h.hab; have := h.hb; omega
  rw [delete_eq, List.append_assoc, at_low _ _ _ (by omega), take_at _ _ _ hi]
theorem delete_length {d : Doc} {bl ba cl ca : Nat} (h : Span d bl ba cl ca) : (deleteD d bl ba cl ca).length + (cl - bl) = d.length := by
  have h1 := h.hab
  have h2 := h.hb
  rw [delete_eq, List.length_append, List.length_append, List.length_take, List.length_drop, List.length_singleton]
  omega
theorem span_delete {d : Doc} {al aa bl ba cl ca : Nat} (h1 : Span d al aa bl ba) (h2 : Span d bl ba cl ca) : Span (deleteD d bl ba cl ca) al aa bl ba := by
  have hl := delete_length h2
  have hb2 := h2.hb
  have hab2 := h2.hab
  have hkb := h1.hkb
  have hbc : ba ≤ cnt (deleteD d bl ba cl ca) bl := by
    unfold cnt
    rw [delete_line h2]
    show ba ≤ (_ ++ _ : Row).length
    rw [List.length_append, List.length_take]
    unfold cnt at hkb
    omega
  refine ⟨by omega, h1.hab, ?_, hbc, h1.one⟩
  by_cases e : al = bl
  · subst e; exact Nat.le_trans (h1.one rfl) hbc
  · have := h1.hab
    unfold cnt
    rw [delete_low h2 (by omega)]
    exact h1.hka
theorem delete_two {d : Doc} {al aa bl ba cl ca : Nat} (h1 : Span d al aa bl ba) (h2 : Span d bl ba cl ca) : deleteD (deleteD d bl ba cl ca) al aa bl ba = deleteD d al aa cl ca := by
  have hab := h1.hab
  have hbc := h2.hab
  have hcl := h2.hb
  have hl : (d.take bl).length = bl := by rw [List.length_take]; omega
  have hkb := h1.hkb
  rw [delete_eq (deleteD d bl ba cl ca), delete_eq d al]
  have e1 : (deleteD d bl ba cl ca).take al = d.take al := by
    rw [delete_eq, List.append_assoc, List.take_append_of_le_length (by omega), List.take_take, Nat.min_eq_left hab]
  have e2 : (deleteD d bl ba cl ca).drop (bl + 1) = d.drop (cl + 1) := by
    have hl2 : (d.take bl ++ [midL d bl ba cl ca]).length = bl + 1 := by rw [List.length_append, hl]; rfl
    rw [delete_eq, List.drop_append, List.drop_eq_nil_of_le (by rw [hl2]; exact Nat.le_refl _), List.nil_append, hl2, Nat.sub_self, List.drop_zero]
  have e3 : midL (deleteD d bl ba cl ca) al aa bl ba = midL d al aa cl ca := by
    unfold midL
    rw [delete_line h2]
    have eb : (midL d bl ba cl ca).cs.drop ba = (d[cl]!).cs.drop ca := by
      show ((d[bl]!).cs.take ba ++ (d[cl]!).cs.drop ca).drop ba = _
      have hz : ((d[bl]!).cs.take ba).length = ba := by rw [List.length_take]; unfold cnt at hkb; omega
      rw [List.drop_append, List.drop_eq_nil_of_le (by rw [hz]; exact Nat.le_refl _), List.nil_append, hz, Nat.sub_self, List.drop_zero]
    rw [eb]
    by_cases e : al = bl
    · subst e
      rw [delete_line h2]
      have h3 := h1.one rfl
      show lnWith (midL d al ba cl ca) (((d[al]!).cs.take ba ++ (d[cl]!).cs.drop ca).take aa ++ _) = _
      rw [List.take_append_of_le_length (by rw [List.length_take]; unfold cnt at hkb; omega), List.take_take, Nat.min_eq_left h3]
      rfl
    · rw [delete_low h2 (by omega)]
  rw [e1, e2, e3]
theorem mem_drop_ln {d : Doc} {i : Nat} {x : Ln} (h : x ∈ d.drop i) : x ∈ d := List.mem_of_mem_drop h
theorem at_mem {d : Doc} {i : Nat} (h : i < d.length) : d[i]! ∈ d := by
  rw [List.getElem!_eq_getElem?_getD, List.getElem?_eq_getElem h]; exact List.getElem_mem h
theorem delete_mem {d : Doc} {bl ba cl ca : Nat} {x : Ln} (hx : x ∈ deleteD d bl ba cl ca) : x ∈ d ∨ x = midL d bl ba cl ca := by
  rw [delete_eq] at hx
  rcases List.mem_append.1 hx with hx | hx
  · rcases List.mem_append.1 hx with hx | hx
    · exact .inl (List.mem_of_mem_take hx)
    · exact .inr (List.mem_singleton.1 hx)
  · exact .inl (List.mem_of_mem_drop hx)
theorem mid_cell {d : Doc} {bl ba cl ca : Nat} {c : Ce} (hc : c ∈ (midL d bl ba cl ca).cs) : c ∈ (d[bl]!).cs ∨ c ∈ (d[cl]!).cs := by
  rcases List.mem_append.1 (show c ∈ (d[bl]!).cs.take ba ++ (d[cl]!).cs.drop ca from hc) with h | h
  · exact .inl (List.mem_of_mem_take h)
  · exact .inr (List.mem_of_mem_drop h)
theorem size_delete {d : Doc} {bl ba cl ca : Nat} (h : Span d bl ba cl ca) : sizeD (deleteD d bl ba cl ca) + (co d cl ca - co d bl ba) = sizeD d := by
  have hab := h.hab
  have hcl := h.hb
  have hle := co_le h
  have h1 := sizeD_next hcl
  have h2 : sizeD d = sizeD (d.take (cl + 1)) + sizeD (d.drop (cl + 1)) := by rw [← sizeD_append, List.take_append_drop]
  have hka := h.hka
  have hkb := h.hkb
  rw [delete_eq, sizeD_append, sizeD_append]
  have e : sizeD [midL d bl ba cl ca] = ba + (cnt d cl - ca) := by
    show (((d[bl]!).cs.take ba ++ (d[cl]!).cs.drop ca).length + 0 : Nat) = _
    unfold cnt at hka ⊢
    rw [List.length_append, List.length_take, List.length_drop]
    omega
  rw [e]
  unfold co at hle ⊢
  omega
theorem may_delete {d : Doc} {bl ba cl ca : Nat} (h : Span d bl ba cl ca) (hm : mayD d = true) : mayD (deleteD d bl ba cl ca) = true := by
  obtain ⟨m1, m2, m3⟩ := mayD_len hm
  have hl := delete_length h
  have hs := size_delete h
  have hab := h.hab
  have hcl := h.hb
  unfold mayD
  rw [decide_eq_true (show 1 ≤ (deleteD d bl ba cl ca).length ∧ (deleteD d bl ba cl ca).length ≤ 200 by omega), decide_eq_true (show sizeD (deleteD d bl ba cl ca) ≤ 4000 by omega), Bool.true_and, Bool.true_and, List.all_eq_true]
  intro x hx
  rcases delete_mem hx with hx | rfl
  · exact mayD_mem hm hx
  · have hb := mayD_mem hm (at_mem (show bl < d.length by omega))
    have hc := mayD_mem hm (at_mem hcl)
    unfold mayS at hb hc ⊢
    simp only [Bool.and_eq_true] at hb hc ⊢
    refine ⟨hb.1, ?_⟩
    unfold mayR
    rw [List.all_eq_true]
    intro c hcc
    rcases mid_cell hcc with h1 | h1
    · exact List.all_eq_true.1 hb.2 c h1
    · exact List.all_eq_true.1 hc.2 c h1
theorem fair_of_mem {l m : Row} (h : ∀ c ∈ m, c ∈ l) (hf : Fair l) : Fair m := fun k hk => by
  have hm : m[k]! ∈ m := by rw [List.getElem!_eq_getElem?_getD, List.getElem?_eq_getElem hk]; exact List.getElem_mem hk
  obtain ⟨j, hj, e⟩ := List.mem_iff_getElem.1 (h _ hm)
  have := hf j hj
  rw [List.getElem!_eq_getElem?_getD, List.getElem?_eq_getElem hj] at this
  rw [← e]
  exact this
theorem fine_delete {d : Doc} {bl ba cl ca : Nat} (h : Span d bl ba cl ca) (hf : Fine d) (hm : mayD d = true) : Fine (deleteD d bl ba cl ca) := by
  have hl := delete_length h
  have hs := size_delete h
  have hab := h.hab
  have hcl := h.hb
  obtain ⟨m1, m2, m3⟩ := mayD_len hm
  refine ⟨by omega, fun x hx => ?_, by omega⟩
  rcases delete_mem hx with hx | rfl
  · exact hf.z x hx
  · have h1 := hf.z _ (at_mem (show bl < d.length by omega))
    have h2 := hf.z _ (at_mem hcl)
    refine ⟨h1.1, ?_, ?_⟩
    · show ((d[bl]!).cs.take ba ++ (d[cl]!).cs.drop ca).length ≤ 50000
      have a1 := cnt_le (d := d) (i := bl) (by omega)
      have a2 := cnt_le hcl
      unfold cnt at a1 a2
      rw [List.length_append, List.length_take, List.length_drop]
      omega
    · have f1 := h1.2.2
      have f2 := h2.2.2
      intro k hk
      have hmem : (midL d bl ba cl ca).cs[k]! ∈ (midL d bl ba cl ca).cs := by rw [List.getElem!_eq_getElem?_getD, List.getElem?_eq_getElem hk]; exact List.getElem_mem hk
      rcases mid_cell hmem with h3 | h3
      · obtain ⟨j, hj, e⟩ := List.mem_iff_getElem.1 h3
        have := f1 j hj
        rw [List.getElem!_eq_getElem?_getD, List.getElem?_eq_getElem hj] at this
        rw [← e]; exact this
      · obtain ⟨j, hj, e⟩ := List.mem_iff_getElem.1 h3
        have := f2 j hj
        rw [List.getElem!_eq_getElem?_getD, List.getElem?_eq_getElem hj] at this
        rw [← e]; exact this

end Go.Proofs.YtehjfcefkiglaaaGreatDoor
