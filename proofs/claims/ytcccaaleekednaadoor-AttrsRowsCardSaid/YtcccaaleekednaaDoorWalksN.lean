/-
  The contract of the program's Only.
-/
import Derived.Test.YtcccaaleekednaaDoorWalksH
namespace Go.Proofs.YtcccaaleekednaaDoor
open Go.RowKit Go.Lib

theorem TextsAt.below {w w' : World} {v : Value} {ts : List ByteArray} (h : TextsAt w v ts) (hb : Below w.heap.size w w') : TextsAt w' v ts := by
  rcases h with h | ⟨g, c, h1, h2, h3, h4⟩
  · exact .inl h
  · exact .inr ⟨g, c, h1, h2, Nat.lt_of_lt_of_le h3 hb.size, fun j hj => (hb.cell (p := ⟨g, j, none⟩) h3).trans (h4 j hj)⟩
theorem contains_any_eq (ts : List ByteArray) (x : ByteArray) : Lib.containsS ts x = ts.any fun n => decide (n = x) := by
  rw [Bool.eq_iff_iff, Lib.containsS_iff]
  simp

theorem contains_any (tv : Value) (ts : List ByteArray) (x : ByteArray) (w : World) (ht : TextsAt w tv ts) (hl : ts.length ≤ 1000) :
    Calls Tryd.prog 43 #[tv, .string x] w fun e w' => e = .returned (.bool (ts.any fun n => decide (n = x))) ∧ w = w' := by
  rcases ht with ⟨rfl, rfl⟩ | ⟨g, c, rfl, _, _, h4⟩
  · refine (Tryd.slices_Contains_string_empty none 0 x w).mono ?_
    rintro e w' ⟨rfl, rfl⟩
    exact ⟨rfl, rfl⟩
  · have h := Tryd.slices_Contains_string g 0 ts.length c ts x w (Nat.le_refl _) (by omega) (fun j hj => by
      rw [Nat.zero_add, h4 j hj, List.getElem!_eq_getElem?_getD, List.getD_eq_getElem?_getD, List.getElem?_eq_getElem hj]
      rfl)
    rw [List.take_length, contains_any_eq] at h
    refine h.mono ?_
    rintro e w' ⟨rfl, rfl⟩
    exact ⟨rfl, rfl⟩

theorem news_new (w : World) (A B : ByteArray) (t : TypeId) : ∀ j u, [Value.string A, Value.string B][j]? = some u → (w.alloc (.cells #[.string A, .string B] t)).cell? ((⟨w.heap.size, 0, none⟩ : Addr).add j) = some u := by
  intro j u h
  rw [Addr.add_lit, Nat.zero_add]
  have h1 := World.cell?_alloc_mark w #[.string A, .string B] t (0, 0) j
  refine h1.trans ?_
  rw [← h]
  simp
theorem take_snocR' {l : Row} {k : Nat} (h : k < l.length) : l.take (k + 1) = l.take k ++ [l[k]!] := by
  rw [List.take_succ_eq_append_getElem h, List.getElem!_eq_getElem?_getD, List.getElem?_eq_getElem h]; rfl
theorem onlyR_snoc {l : Row} {k : Nat} (h : k < l.length) (ns : List ByteArray) : onlyR (l.take (k + 1)) ns = onlyR (l.take k) ns ++ (if (ns.any fun n => decide (n = (l[k]!).1)) then [l[k]!] else []) := by
  rw [take_snocR' h]
  unfold onlyR
  rw [List.filter_append]
  congr 1
  rw [List.filter_cons]
  split <;> simp
theorem onlyR_le (l : Row) (ns : List ByteArray) : (onlyR l ns).length ≤ l.length := List.length_filter_le _ _

set_option maxHeartbeats 8000000 in
theorem only_any (v tv : Value) (l : Row) (ns : List ByteArray) (w : World) (hv : RowAt w v l) (ht : TextsAt w tv ns) (hl : l.length ≤ 1000) (hn : ns.length ≤ 1000) :
    Calls Tryd.prog 25 #[v, tv] w (OwnPost (onlyR l ns) w) := by
  obtain ⟨i0, hi, hz0, hz1, hz2⟩ := info_parts infoAttr
  obtain ⟨a1, c1, e1⟩ := hv.len
  have HV := Lib.hid hv
  have HT := Lib.hid ht
  clear hv ht
  subst e1
  obtain ⟨N, hN⟩ : ∃ N, l.length = N := ⟨_, rfl⟩
  rw [hN] at hl ⊢
  have HN := Lib.hid hN
  clear hN
  go_enter Tryd.func25, Tryd.ntmps25
  go_wp2
  go_loopw [5, 7, 10] (fun vr v7 i wr => ∃ (k : Nat) (m : Row), k ≤ N ∧ i = .int .i64 k ∧ Hid (m = onlyR (l.take k) ns) ∧ m.length ≤ k ∧ wr.ownsRow w.heap.size 32 2 vr m.length (cellsR m) ∧ Below w.heap.size w wr)
    (fun _ _ i _ => N - (intOf i).toNat)
  case atStart => exact ⟨0, [], Nat.zero_le _, rfl, Lib.hid rfl, Nat.le_refl _, World.ownsRow_nil _ _ _ _, Below.refl _ _⟩
  case round =>
    obtain ⟨k, m, hk, rfl, HM, hmk, hown, hb⟩ := hrel
    by_cases hlt : k < N
    · have hkI : (k : Int) < (N : Int) := by omega
      have hbz := hb.size
      have q1 := HV.out.below hb
      rcases q1 with ⟨_, _, e, _, e2⟩ | ⟨b, o, d, e, _, _, hbb, hc⟩
      · have := HN.out; rw [e2] at this; simp at this; omega
      · obtain ⟨rfl, _, rfl⟩ := Value.slice.inj e
        clear e
        obtain ⟨x1, x2⟩ := hc k (by rw [HN.out]; exact hlt)
        have hsn := onlyR_snoc (l := l) (k := k) (by rw [HN.out]; exact hlt) ns
        rw [← HM.out] at hsn
        have cC := fun x wx hx => contains_any tv ns x wx hx hn
        obtain ⟨A, hA⟩ : ∃ A, (l[k]!).1 = A := ⟨_, rfl⟩
        obtain ⟨B, hB⟩ : ∃ B, (l[k]!).2 = B := ⟨_, rfl⟩
        have hAB : l[k]! = (A, B) := by rw [← hA, ← hB]
        rw [hA] at x1 hsn
        rw [hB] at x2
        rw [hAB] at hsn
        obtain ⟨C, hC⟩ : ∃ C, (ns.any fun n => decide (n = A)) = C := ⟨_, rfl⟩
        rw [hC] at hsn
        have cA : ∀ wx, TextsAt wx tv ns → Calls Tryd.prog 43 #[tv, .string A] wx fun e w' => e = .returned (.bool C) ∧ wx = w' := fun wx hx => by
          have h := cC A wx hx
          rwa [hC] at h
        have HSN := Lib.hid hsn
        have hta := HT.out.below (hb.alloc hbz (.cells #[.string A, .string B] 32))
        clear hA hB hAB hC hc hsn cC HM
        cases C with
        | false =>
          go_wp2_with (go_at_call 43; ((with_reducible refine (cA _ hta).mono ?_); rintro e w1 ⟨rfl, rfl⟩))
          go_roundw
          case rel => exact ⟨k + 1, m, hlt, by go_num, Lib.hid (by rw [HSN.out]; simp), by omega, hown.alloc _, hb.alloc hbz _⟩
          case measure => simp [intOf]; omega
        | true =>
          go_wp2_with (first
            | (go_at_call 43; ((with_reducible refine (cA _ hta).mono ?_); rintro e w1 ⟨rfl, rfl⟩))
            | (at_builtin; refine wpList_append_own _ rfl _ _ 25 rfl w.heap.size 32 i0 _ 2 32 Tryd.underlying25 hi hz0 hz1 hz2 rfl (by decide) _ _ _ rfl ((hown.alloc (.cells #[.string A, .string B] 32)).alloc (.cells #[.string A, .string B] 32)) ⟨wr.heap.size + 1, 0, none⟩ 1 1 [.string A, .string B] rfl rfl (by have h := news_new (wr.alloc (.cells #[.string A, .string B] 32)) A B 32; simpa using h) (by simp [Value.oneCell']) (by unfold maxLen; omega) (by omega) (by simp; omega) ?_; intro v' w2 hown' hgrow _))
          go_roundw
          case rel => exact ⟨k + 1, m ++ [(A, B)], hlt, by go_num, Lib.hid (by rw [HSN.out]; simp), by simp; omega, own_app (m := [(A, B)]) hown' rfl rfl, below_grown ((hb.alloc hbz _).alloc (by simp; omega) _) (by simp; omega) ((hown.alloc (.cells #[.string A, .string B] 32)).alloc (.cells #[.string A, .string B] 32)) hgrow⟩
          case measure => simp [intOf]; omega
    · have hkN : k = N := by omega
      subst hkN
      have hm := HM.out
      rw [List.take_of_length_le (by rw [HN.out]; omega)] at hm
      have HM2 := Lib.hid hm
      clear hm HM hlt
      go_wp2
      go_ret
      exact ⟨_, rfl, by rw [← HM2.out]; exact hown, hb⟩

end Go.Proofs.YtcccaaleekednaaDoor
