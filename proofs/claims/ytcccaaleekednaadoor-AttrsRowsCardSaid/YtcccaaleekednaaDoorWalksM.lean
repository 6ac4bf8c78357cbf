/-
  The contract of the program's May over a row: names told apart by a map.
-/
import Derived.Test.YtcccaaleekednaaDoorWalksD
import Derived.Maps.OwnSet
import Derived.Maps.OwnOps
import Derived.Maps.Views
namespace Go.Proofs.YtcccaaleekednaaDoor
open Go.RowKit Go.Lib Go.Maps Go.WideMaps

theorem lawS : Keyed Tryd.prog 9 := string_keyed Tryd.underlying9
/-- How an entry's value reads: it says nothing. -/
def noneR (_ : Value) : Option (DataW Unit × List MemPlace) := some (.agg [], [])
def keyL (s : ByteArray) : Lit := .string s.data.toList
theorem keyL_isKey (s : ByteArray) : WideAt.IsKeyLit (keyL s) := by simp [WideAt.IsKeyLit, keyL]
theorem keyL_ne {s t : ByteArray} (h : ¬ s = t) : keyL s ≠ keyL t := by
  intro e
  apply h
  unfold keyL at e
  cases s with | mk a => cases t with | mk b =>
  congr 1
  apply Array.toList_inj.1
  simpa using e

/-- The map's names are the row's. -/
def Named (D : DataW Unit) (l : Row) : Prop := Tidy D ∧ (∀ s, has D (keyL s) = hasR l s) ∧ size D = kindsR l
theorem Named.none : Named (.map []) [] := ⟨tidy_empty, fun _ => rfl, rfl⟩
theorem Named.step {D : DataW Unit} {l : Row} {a : At} (h : Named D l) : Named (D.put (keyL a.1) (.agg [])) (l ++ [a]) := by
  obtain ⟨h1, h2, h3⟩ := h
  refine ⟨h1.put (keyL_isKey _) _, fun s => ?_, ?_⟩
  · rw [hasR_append]
    by_cases e : a.1 = s
    · subst e
      rw [has_put_same h1.isMap (keyL_isKey _)]
      simp [hasR]
    · rw [has_put_other (keyL_ne (Ne.symm e)), h2]
      simp [hasR, e]
  · rw [size_put h1, h2, h3, kindsR_snoc]

theorem take_snocR {l : Row} {k : Nat} (h : k < l.length) : l.take (k + 1) = l.take k ++ [l[k]!] := by
  rw [List.take_succ_eq_append_getElem h, List.getElem!_eq_getElem?_getD, List.getElem?_eq_getElem h]; rfl
theorem okR_cons {l : Row} {k : Nat} (h : k < l.length) : okR (l.drop k) = ((nameS (l[k]!).1 && valueS (l[k]!).2) && okR (l.drop (k + 1))) := by
  have e : l.drop k = l[k]! :: l.drop (k + 1) := by
    rw [List.drop_eq_getElem_cons h, List.getElem!_eq_getElem?_getD, List.getElem?_eq_getElem h]; rfl
  rw [e]; rfl

theorem ownsMap_below {w w' : World} {P : Program} {k : TypeId} {R : Value → Option (DataW Unit × List MemPlace)} {b n : Nat} {D : DataW Unit} (h : w.ownsMap P k R b n D) (hb : Below w.heap.size w w') : w'.ownsMap P k R b n D := by
  have hlt := h.lt
  obtain ⟨es, clock, h1, h2⟩ := h
  exact ⟨es, clock, (hb.block b hlt).trans h1, h2⟩

/-- All is short. -/
def Short (l : Row) : Prop := l.length ≤ 1000 ∧ ∀ j, j < l.length → (l[j]!).1.size ≤ 100000 ∧ (l[j]!).2.size ≤ 100000

set_option maxHeartbeats 8000000 in
theorem mayRow_any (v : Value) (l : Row) (w : World) (hE : Env w) (hv : RowAt w v l) (hsh : Short l) :
    Calls Tryd.prog 19 #[v] w fun e w' => e = .returned (.bool (mayR l)) ∧ Below w.heap.size w w' := by
  obtain ⟨hl, hsz⟩ := hsh
  obtain ⟨a1, c1, e1⟩ := hv.len
  have HV := Lib.hid hv
  have HS := Lib.hid hsz
  clear hv hsz
  subst e1
  have hmm := @run_makeMap Tryd.prog
  have hown0 := World.ownsMap_made (H := Unit) w Tryd.prog 9 noneR
  have hb0 : Below w.heap.size w (w.alloc (.map #[] 0)) := (Below.refl _ _).alloc (Nat.le_refl _) _
  have hmay : mayR l = (okR l && distR l) := rfl
  obtain ⟨M, hM⟩ : ∃ M, mayR l = M := ⟨_, rfl⟩
  rw [hM] at hmay ⊢
  have HM := Lib.hid hmay
  clear hM hmay
  obtain ⟨N, hN⟩ : ∃ N, l.length = N := ⟨_, rfl⟩
  rw [hN] at hl ⊢
  have HN := Lib.hid hN
  clear hN
  go_enter Tryd.func19, Tryd.ntmps19
  go_wp2
  go_loopw [5, 9] (fun v5 i wr => ∃ (k : Nat) (D : DataW Unit), k ≤ N ∧ i = .int .i64 k ∧ wr.ownsMap Tryd.prog 9 noneR w.heap.size k D ∧ Hid (Named D (l.take k)) ∧ Hid (okR (l.drop k) = okR l) ∧ Below w.heap.size w wr)
    (fun _ i _ => N - (intOf i).toNat)
  case atStart => exact ⟨0, _, Nat.zero_le _, rfl, hown0, Lib.hid Named.none, Lib.hid rfl, hb0⟩
  case round =>
    obtain ⟨k, D, hk, rfl, hown, HD, HO, hb⟩ := hrel
    by_cases hlt : k < N
    · have hkI : (k : Int) < (N : Int) := by omega
      have q1 := HV.out.below hb
      rcases q1 with ⟨_, _, e, _, e2⟩ | ⟨b, o, d, e, _, _, hbb, hc⟩
      · have := HN.out; rw [e2] at this; simp at this; omega
      · obtain ⟨rfl, _, rfl⟩ := Value.slice.inj e
        clear e
        obtain ⟨x1, x2⟩ := hc k (by rw [HN.out]; exact hlt)
        obtain ⟨z1, z2⟩ := HS.out k (by rw [HN.out]; exact hlt)
        have hst := okR_cons (l := l) (k := k) (by rw [HN.out]; exact hlt)
        have htk := take_snocR (l := l) (k := k) (by rw [HN.out]; exact hlt)
        rw [HO.out] at hst
        have hnm := HD.out.step (a := l[k]!)
        rw [← htk] at hnm
        obtain ⟨A, hA⟩ : ∃ A, (l[k]!).1 = A := ⟨_, rfl⟩
        obtain ⟨B, hB⟩ : ∃ B, (l[k]!).2 = B := ⟨_, rfl⟩
        rw [hA] at x1 z1 hst hnm
        rw [hB] at x2 z2 hst
        have HD2 := Lib.hid hnm
        have hbz := hb.size
        have hblt : b < wr.heap.size := hbb
        clear hA hB hc htk hnm HO HD
        have cN := fun wx => name_any A wx (by omega)
        have cV := fun wx hx => value_any B wx (by omega) hx
        obtain ⟨P1, hP1⟩ : ∃ P1, nameS A = P1 := ⟨_, rfl⟩
        obtain ⟨P2, hP2⟩ : ∃ P2, valueS B = P2 := ⟨_, rfl⟩
        rw [hP1, hP2] at hst
        simp only [hP1] at cN
        simp only [hP2] at cV
        clear hP1 hP2
        have hkey : keyOf Tryd.prog 9 (.string A) = some (keyL A) := keyOf_string_mk Tryd.underlying9 (by unfold maxLen; omega)
        have HK := Lib.hid hkey
        clear hkey
        have hba : Below w.heap.size w (wr.alloc (.cells #[.string A, .string B] 32)) := hb.alloc hbz _
        cases P1 with
        | false =>
          simp only [Bool.false_and] at hst
          have HF := Lib.hid hst
          clear hst
          go_wp2_with (go_at_call 10; ((with_reducible refine (cN _).mono ?_); rintro e w1 ⟨rfl, hb1⟩))
          go_ret
          exact ⟨ret_bool (by rw [HM.out, HF.out]; rfl), hba.trans (hb1.mono hba.size)⟩
        | true =>
          cases P2 with
          | false =>
            simp only [Bool.and_false, Bool.false_and] at hst
            have HF := Lib.hid hst
            clear hst
            go_wp2_with (first
              | (go_at_call 10; ((with_reducible refine (cN _).mono ?_); rintro e w1 ⟨rfl, hb1⟩; have hba1 := hba.trans (hb1.mono hba.size); have hE1 := hE.below hba1; have hq1 : w1.cell? ⟨wr.heap.size, 1, none⟩ = some (.string B) := (hb1.cell (p := ⟨wr.heap.size, 1, none⟩) (by simp)).trans (by simp)))
              | (go_at_call 12; ((with_reducible refine (cV _ hE1).mono ?_); rintro e w2 ⟨rfl, hb2⟩)))
            go_ret
            exact ⟨ret_bool (by rw [HM.out, HF.out]; rfl), hba1.trans (hb2.mono hba1.size)⟩
          | true =>
            simp only [Bool.true_and] at hst
            have HF := Lib.hid hst
            clear hst
            go_wp2_with (first
              | (go_at_call 10; ((with_reducible refine (cN _).mono ?_); rintro e w1 ⟨rfl, hb1⟩; have hba1 := hba.trans (hb1.mono hba.size); have hE1 := hE.below hba1; have hq0 : w1.cell? ⟨wr.heap.size, 0, none⟩ = some (.string A) := (hb1.cell (p := ⟨wr.heap.size, 0, none⟩) (by simp)).trans (by simp); have hq1 : w1.cell? ⟨wr.heap.size, 1, none⟩ = some (.string B) := (hb1.cell (p := ⟨wr.heap.size, 1, none⟩) (by simp)).trans (by simp)))
              | (go_at_call 12; ((with_reducible refine (cV _ hE1).mono ?_); rintro e w2 ⟨rfl, hb2⟩; have hba2 := hba1.trans (hb2.mono hba1.size); have hs1 := hb1.size; have hq2 : w2.cell? ⟨wr.heap.size, 0, none⟩ = some (.string A) := (hb2.cell (p := ⟨wr.heap.size, 0, none⟩) (by simp at hs1; show wr.heap.size < _; omega)).trans hq0))
              | (at_mapUpdate; refine wpList_mapUpdate_own _ rfl _ _ _ 51 rfl 9 52 lawS Tryd.underlying51 _ w.heap.size k D rfl (ownsMap_below (ownsMap_below (hown.alloc _) hb1) hb2) (by unfold maxLen; omega) _ _ _ rfl rfl HK.out (.agg []) [] rfl ?_; intro w3 hown1 hgrow1))
            go_roundw
            case rel => exact ⟨k + 1, _, hlt, by go_num, hown1, HD2, Lib.hid HF.out.symm, hba2.grown hgrow1 hba2.size (fun j hj => by cases hj; exact Nat.le_refl _)⟩
            case measure => simp [intOf]; omega
    · have hkN : k = N := by omega
      subst hkN
      have hO : okR l = true := by rw [← HO.out, List.drop_eq_nil_of_le (by rw [HN.out]; omega)]; rfl
      have hD := HD.out
      rw [List.take_of_length_le (by rw [HN.out]; omega)] at hD
      have HD2 := Lib.hid hD
      have HO2 := Lib.hid hO
      clear hO hD HD HO hlt
      go_wp2_with (at_len; refine wpList_len_own _ rfl _ 51 rfl 9 52 Tryd.underlying51 _ w.heap.size k D rfl hown ?_)
      go_ret
      refine ⟨ret_bool ?_, hb⟩
      rw [HM.out, HO2.out, HD2.out.2.2, ← kindsR_eq, HN.out, Bool.true_and, Bool.eq_iff_iff]
      simp
      omega

end Go.Proofs.YtcccaaleekednaaDoor
