/-
  The document's Anew and Size.
-/
import Derived.Test.YtdegkcibadjogaaDoorCPn
import Derived.Test.YtdegkcibadjogaaDoorCPlant

namespace Go.Proofs.YtdegkcibadjogaaDoor
open Go.RowKit Go.Lib

set_option maxRecDepth 20000 in
set_option maxHeartbeats 4000000 in
theorem ranew_any (s : ByteArray) (w : World) (h : s.size ≤ 1000000) :
    Calls Tryd.prog 86 #[.string s] w fun e w' => e = .returned (.string (anewS s)) ∧ Below w.heap.size w w' := by
  have hL := runesI_len s s.size 0
  have hR := runesFrom_eq s s.size 0 #[]
  rw [Array.empty_append] at hR
  have h1 := run_runes_of_string (P := Tryd.prog) w 9 106 21 s Tryd.underlying9 Tryd.underlying106 Tryd.underlying21 (by rw [hR]; simp; omega)
  have hcap := grownCap_ge w (Conv.runesFrom s s.size 0 #[]).size 0 21
  rw [hR] at h1 hcap
  have hz : ((runesI s s.size 0).map (Value.int .i32)).toArray.size = (runesI s s.size 0).length := by simp
  rw [hz] at h1 hcap
  obtain ⟨C, hC⟩ : ∃ C, runesI s s.size 0 = C := ⟨_, rfl⟩
  rw [hC] at h1 hcap hL
  obtain ⟨cp, hcp⟩ : ∃ cp, grownCap w C.length 0 21 = cp := ⟨_, rfl⟩
  rw [hcp] at h1 hcap
  obtain ⟨o, ho⟩ : ∃ o, Obj.cells ((C.map (Value.int .i32)).toArray ++ Array.replicate (cp - C.length) (.int .i32 0)) 21 = o := ⟨_, rfl⟩
  rw [ho] at h1
  have h2 := run_convert_runes (P := Tryd.prog) (w.drew.alloc o) 106 9 21 ⟨w.heap.size, 0, none⟩ C.length cp C (Nat.le_refl _) Tryd.underlying106 Tryd.underlying21 Tryd.underlying9 (fun j hj => by
    rw [← ho, Addr.add_lit, Nat.zero_add]
    have := World.cell?_alloc_mark w.drew ((C.map (Value.int .i32)).toArray ++ Array.replicate (cp - C.length) (.int .i32 0)) 21 (0, 0) j
    refine Eq.trans this ?_
    rw [Array.getElem?_append_left (by simpa using hj)]
    simp [List.getD_eq_getElem?_getD, List.getElem?_eq_getElem hj])
  rw [List.take_of_length_le (Nat.le_refl _)] at h2
  have hS : anewS s = runesBytes C := by unfold anewS; rw [hC]
  rw [hS]
  obtain ⟨S, hS2⟩ : ∃ S, runesBytes C = S := ⟨_, rfl⟩
  rw [hS2] at h2 ⊢
  have h3 : (convert 106 9 (.slice (some ⟨w.heap.size, 0, none⟩) C.length cp)).run Tryd.prog (w.alloc o).drew = .ok (.string S) (w.alloc o).drew := h2
  have hSz := runesBytes_size_le C
  rw [hS2] at hSz
  have HBo : Hid (Below w.heap.size w (w.alloc o).drew) := Lib.hid (((Below.refl _ w).alloc (Nat.le_refl _) _).drew)
  have HBo2 : Hid (Below w.heap.size w (w.drew.alloc o)) := Lib.hid (((Below.refl _ w).drew).alloc (by simp) _)
  clear hR hz hC ho hcp hS hS2 hSz hL hcap h
  go_enter Tryd.func86, Tryd.ntmps86
  go_wp2
  go_ret
  first | exact ⟨rfl, HBo.out⟩ | exact ⟨rfl, HBo2.out⟩

set_option maxRecDepth 20000 in
set_option maxHeartbeats 8000000 in
theorem rsize_any : ∀ (n : Nat) (t : Pn), sizeP t ≤ n → n ≤ 1000000 → ∀ w : World, PrAt w t →
    Calls Tryd.prog 26 #[t.v] w fun e w' => e = .returned (.int .i64 (sizeP t : Int)) ∧ Below w.heap.size w w'
  | 0, t, hn, _, _, _ => by have := sizeP_pos t; omega
  | n + 1, t, hn, hn6, w, hP => by
    obtain ⟨_, pkn, pk1, pkr, pks⟩ := hP.parts
    have hsz := sizeP_eq t
    obtain ⟨tag, h1⟩ : ∃ z, t.tag = z := ⟨_, rfl⟩
    obtain ⟨aa, h2⟩ : ∃ z, t.aa = z := ⟨_, rfl⟩
    obtain ⟨an, h3⟩ : ∃ z, t.an = z := ⟨_, rfl⟩
    obtain ⟨ac, h4⟩ : ∃ z, t.ac = z := ⟨_, rfl⟩
    obtain ⟨tx, h5⟩ : ∃ z, t.tx = z := ⟨_, rfl⟩
    obtain ⟨ka, h6⟩ : ∃ z, t.ka = z := ⟨_, rfl⟩
    obtain ⟨kn, h7⟩ : ∃ z, t.kn = z := ⟨_, rfl⟩
    obtain ⟨kc, h8⟩ : ∃ z, t.kc = z := ⟨_, rfl⟩
    have hv : t.v = .agg #[.int .i64 tag, .slice aa an ac, .string tx, .slice ka kn kc] := by unfold Pn.v; rw [h1, h2, h3, h4, h5, h6, h7, h8]
    rw [hv]
    rw [h7] at pkn pk1
    rw [h6] at pkr
    unfold maxLen at pk1
    obtain ⟨R, hR⟩ : ∃ R, sizeP t = R := ⟨_, rfl⟩
    rw [hR] at hn hsz ⊢
    have HK := Lib.hid (And.intro pkn (And.intro pkr (And.intro pks (And.intro hsz hn))))
    have ih := rsize_any n
    have hn5 : n ≤ 1000000 := by omega
    have hR6 : R ≤ 1000001 := by omega
    clear hP pkn pkr pks h1 h2 h3 h4 h5 h6 h7 h8 hv hR hsz hn
    go_enter Tryd.func26, Tryd.ntmps26
    go_wp2
    obtain ⟨W, hW⟩ : ∃ W, w.alloc (.cells #[.int .i64 tag, .slice aa an ac, .string tx, .slice ka kn kc] 34) = W := ⟨_, rfl⟩
    obtain ⟨bx, hbx⟩ : ∃ z, w.heap.size = z := ⟨_, rfl⟩
    have hbW : Below w.heap.size w W := by rw [← hW]; exact (Below.refl _ _).alloc (Nat.le_refl _) _
    have x3 : W.cell? ⟨bx, 3, none⟩ = some (.slice ka kn kc) := by rw [← hW, ← hbx]; simp [go_sem]
    have HW := Lib.hid (And.intro hbW x3)
    rw [hW, hbx]
    clear hW hbW x3 hbx
    go_loopw [3, 4] (fun c i wr => ∃ k z : Nat, k ≤ kn ∧ z ≤ R ∧ i = .int .i64 k ∧ c = .int .i64 (z : Int) ∧ Hid (Below W.heap.size W wr) ∧ Hid (z = 1 + sizePs (t.kids.take k))) (fun _ i _ => kn - (RowKit.intOf i).toNat)
    case atStart => exact ⟨0, 1, Nat.zero_le _, by have := HK.out.2.2.2.1; omega, rfl, rfl, Lib.hid (Below.refl _ _), Lib.hid (by rw [List.take_zero, sizePs])⟩
    case round =>
      obtain ⟨k, z, hk, hz, rfl, rfl, HB, HZ⟩ := hrel
      have hbx2 := (HB.out.cell (p := ⟨bx, 3, none⟩) (lt_of_cell' HW.out.2)).trans HW.out.2
      by_cases hlt : k < kn
      · have hkl : k < t.kids.length := by rw [← HK.out.1]; exact hlt
        have hkI : (k : Int) < (kn : Int) := by omega
        have hget : t.kids[k]? = some t.kids[k] := List.getElem?_eq_getElem hkl
        have hmem : t.kids[k] ∈ t.kids := List.getElem_mem hkl
        obtain ⟨s, hs⟩ : ∃ s, t.kids[k] = s := ⟨_, rfl⟩
        rw [hs] at hget hmem
        have hrow := HK.out.2.1
        have hks := HK.out.2.2.1
        have hbr : Below w.heap.size w wr := HW.out.1.trans (HB.out.mono HW.out.1.size)
        obtain ⟨b, o, eka, hbl, hcells⟩ : ∃ b o, ka = some ⟨b, o, none⟩ ∧ b < w.heap.size ∧ ∀ (j : Nat) (t_1 : Pn), t.kids[j]? = some t_1 → w.cell? ⟨b, o + j * 4, none⟩ = some (.int .i64 t_1.tag) ∧ w.cell? ⟨b, o + j * 4 + 1, none⟩ = some (.slice t_1.aa t_1.an t_1.ac) ∧ w.cell? ⟨b, o + j * 4 + 2, none⟩ = some (.string t_1.tx) ∧ w.cell? ⟨b, o + j * 4 + 3, none⟩ = some (.slice t_1.ka t_1.kn t_1.kc) := by
          rcases hrow with h0 | h0
          · rw [h0] at hkl; simp at hkl
          · exact h0
        obtain ⟨y0, y1, y2, y3⟩ := hcells k s hget
        replace y0 := (hbr.cell (p := ⟨b, o + k * 4, none⟩) hbl).trans y0
        replace y1 := (hbr.cell (p := ⟨b, o + k * 4 + 1, none⟩) hbl).trans y1
        replace y2 := (hbr.cell (p := ⟨b, o + k * 4 + 2, none⟩) hbl).trans y2
        replace y3 := (hbr.cell (p := ⟨b, o + k * 4 + 3, none⟩) hbl).trans y3
        have hss := sizePs_mem t.kids s hmem
        have htk := sizePs_take hget
        have htl := sizePs_take_le t.kids (k + 1)
        have hR2 := HK.out.2.2.2.1
        have hn2 := HK.out.2.2.2.2
        have cO := ih s (by omega) hn5 wr ((hks s hmem).stay hbr)
        have hv : s.v = .agg #[.int .i64 s.tag, .slice s.aa s.an s.ac, .string s.tx, .slice s.ka s.kn s.kc] := rfl
        rw [hv] at cO
        have hz2 : z + sizeP s ≤ R := by have := HZ.out; omega
        have HZ2 : Hid (z + sizeP s = 1 + sizePs (t.kids.take (k + 1))) := Lib.hid (by have := HZ.out; omega)
        obtain ⟨q, hq⟩ : ∃ z, sizeP s = z := ⟨_, rfl⟩
        rw [hq] at cO hz2 HZ2
        have hwk : IntKind.i64.wrap ((z : Int) + (q : Int)) = ((z + q : Nat) : Int) := by rw [IntWalk.i64_in _ (by omega)]; omega
        subst eka
        clear ih hkl hget hmem hs hrow hks hbr hcells hss hv hbl htk htl hR2 hn2 hq
        go_wp2_with (go_at_call 26; ((with_reducible refine (cO).mono ?_); rintro e w5 ⟨rfl, b5⟩; have HB5 := Lib.hid (HB.out.trans (b5.mono HB.out.size)); clear b5))
        go_roundw
        case rel => exact ⟨k + 1, z + q, hlt, hz2, by go_num, by first | rfl | (congr 1; omega), HB5, HZ2⟩
        case measure => simp [RowKit.intOf]; omega
      · have hkn : k = kn := by omega
        subst hkn
        have hzR : z = R := by have h1 := HZ.out; have h2 := HK.out.1; have h3 := HK.out.2.2.2.1; rw [h2, List.take_length] at h1; omega
        subst hzR
        have HF := Lib.hid (HW.out.1.trans (HB.out.mono HW.out.1.size))
        clear ih
        go_wp2
        go_ret
        exact ⟨rfl, HF.out⟩

end Go.Proofs.YtdegkcibadjogaaDoor
