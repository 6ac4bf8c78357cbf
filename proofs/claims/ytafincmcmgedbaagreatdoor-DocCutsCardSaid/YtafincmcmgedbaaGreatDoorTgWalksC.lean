/-
  The contracts of the program's Value and Target.
-/
import Derived.Test.YtafincmcmgedbaaGreatDoorTgWalksB
import Derived.Test.YtafincmcmgedbaaGreatDoorShelfT
namespace Go.Proofs.YtafincmcmgedbaaGreatDoor.Tg
open Go.RowKit Go.Lib

/-- What of Go's library lies in memory: its tables of UTF-8, the search's number. -/
def Env (w : World) : Prop := Lib.Utf8Tabs 0 1 w ∧ ∃ m : Int, w.cell? ⟨2, 0, none⟩ = some (.int .i64 m)
theorem Env.below {w w' : World} (h : Env w) (hb : Below w.heap.size w w') : Env w' := by
  obtain ⟨hT, m, hm⟩ := h
  exact ⟨Utf8Tabs_below hT hb, m, (hb.cell (p := ⟨2, 0, none⟩) (World.block_lt_of_cell? w _ hm)).trans hm⟩

theorem valid_any (s : ByteArray) (w : World) (hs : s.size ≤ 1000000000) (hE : Env w) :
    Calls Tryz.prog 145 #[.string s] w fun e w' => e = .returned (.bool (validD s.data.toList)) ∧ Below w.heap.size w w' :=
  Any.utf8_ValidString Tryz.laysValid s w (by omega) hE.1

set_option maxHeartbeats 2000000 in
theorem value_any (s : ByteArray) (w : World) (hs : s.size ≤ 1000000000) (hE : Env w) :
    Calls Tryz.prog 139 #[.string s] w fun e w' => e = .returned (.bool (valueS s)) ∧ Below w.heap.size w w' := by
  by_cases h200 : 200 < s.size
  · have h200' : (200 : Int) < (s.size : Int) := by omega
    have e0 : valueS s = false := by
      unfold valueS; rw [decide_eq_false (by omega)]; rfl
    rw [e0]
    clear e0
    go_enter Tryz.func139, Tryz.ntmps139
    go_wp2
    go_ret
    exact ⟨rfl, Below.refl _ _⟩
  · have h200' : ¬ (200 : Int) < (s.size : Int) := by omega
    have e0 : valueS s = (validD s.data.toList && mayL' s.data.toList) := by
      unfold valueS; rw [decide_eq_true (by omega)]; rfl
    rw [e0]
    clear e0
    have hc := valid_any s w hs hE
    obtain ⟨V, hV⟩ : ∃ V, validD s.data.toList = V := ⟨_, rfl⟩
    rw [hV] at hc ⊢
    clear hV
    cases V with
    | false =>
      rw [Bool.false_and]
      go_enter Tryz.func139, Tryz.ntmps139
      go_wp2_with (go_at_call 145; ((with_reducible refine hc.mono ?_); rintro e w1 ⟨rfl, hb1⟩))
      go_ret
      exact ⟨rfl, hb1⟩
    | true =>
      rw [Bool.true_and]
      obtain ⟨A, hA⟩ : ∃ A, mayL' s.data.toList = A := ⟨_, rfl⟩
      rw [hA]
      have HA := Lib.hid hA
      clear hA
      go_enter Tryz.func139, Tryz.ntmps139
      go_wp2_with (go_at_call 145; ((with_reducible refine hc.mono ?_); rintro e w1 ⟨rfl, hb1⟩))
      have hz1 := hb1.size
      go_loopg [4] s.size (fun gk s4 wx => ∃ pos : Nat, wx.heap[w1.heap.size]? = some (.stringIter s pos) ∧ Below w.heap.size w wx ∧ mayL' (s.data.toList.drop pos) = A ∧ s.size ≤ pos + gk ∧ pos ≤ s.size)
      case atStart =>
        refine ⟨0, ?_, hb1.alloc hz1 _, by simpa using HA.out, by omega, by omega⟩
        exact World.iter_heap w1 s 0
      case round =>
        obtain ⟨pos, hit, hbw, hsp, hfu, hps⟩ := hrel
        by_cases hlt : pos < s.size
        · obtain ⟨g', rfl⟩ : ∃ g', gk = g' + 1 := ⟨gk - 1, by omega⟩
          have hnx : ∀ ty, (Instr.next (.pointer (some ⟨w1.heap.size, 0, none⟩)) true ty).run Tryz.prog wr = _ := fun ty => Lib.run_next_any_at wr w1.heap.size s pos ty hit hlt
          have hwd := Lib.width_pos s pos
          have hwn := width_in hlt
          have hstep := mayL'_step _ (drop_ne hlt)
          rw [decodeL_drop, List.drop_drop, hsp] at hstep
          obtain ⟨R, hR⟩ : ∃ R, (Utf8.decode s pos).1 = R := ⟨_, rfl⟩
          obtain ⟨K, hK⟩ : ∃ K, (Utf8.decode s pos).2 = K := ⟨_, rfl⟩
          rw [hR, hK] at hnx hstep
          rw [hK] at hwd hwn
          have hit2 := Lib.iterAt_heap wr w1.heap.size s pos (pos + K) hit
          have hbw2 := Lib.below_iterAt hbw (k := w1.heap.size) hz1 s (pos + K)
          obtain ⟨W, hWd⟩ : ∃ W, wr.iterAt w1.heap.size s (pos + K) = W := ⟨_, rfl⟩
          rw [hWd] at hnx hit2 hbw2
          obtain ⟨M, hM⟩ : ∃ M, mayZ (R : Int) = M := ⟨_, rfl⟩
          have hco := may_any (R : Int)
          rw [hM] at hco
          rw [← mayZ_nat, hM] at hstep
          have HS := Lib.hid hstep
          clear hit hbw hWd hstep hsp hM hR hK
          cases M with
          | true =>
            go_wp2_with (go_at_call 132; ((with_reducible refine (hco _).mono ?_); rintro e w1 ⟨rfl, rfl⟩))
            go_roundg g'
            case measure => omega
            case rel => exact ⟨pos + K, hit2, hbw2, by have := HS.out; simpa using this.symm, by omega, hwn⟩
          | false =>
            go_wp2_with (go_at_call 132; ((with_reducible refine (hco _).mono ?_); rintro e w1 ⟨rfl, rfl⟩))
            go_ret
            exact ⟨ret_bool (by have := HS.out; simpa using this.symm), hbw2⟩
        · have hnx : ∀ ty, (Instr.next (.pointer (some ⟨w1.heap.size, 0, none⟩)) true ty).run Tryz.prog wr = _ := fun ty => Lib.run_next_end_at wr w1.heap.size s pos ty hit hlt
          rw [drop_end hlt] at hsp
          have HS := Lib.hid hsp
          clear hsp hit
          go_wp2
          go_ret
          exact ⟨ret_bool (by rw [← HS.out]; rfl), hbw⟩

/-! ### Target -/
theorem below_draws (w : World) (n : Nat) : Below w.heap.size w (w.drewN n) := below_drewNm w n

theorem cut_any (s : ByteArray) (w : World) (hs : s.size ≤ 1000000000) (hE : Env w) :
    Calls Tryz.prog 142 #[.string s, .string ⟨#[58]⟩] w fun e w' => (∃ (b : ByteArray) (c : Bool), e = .returned (.tuple #[.string ⟨(aheadL s.data.toList).toArray⟩, .string b, .bool c])) ∧ Below w.heap.size w w' := by
  obtain ⟨hT, m, hm⟩ := hE
  refine (Tryz.strings_Cut s ⟨#[58]⟩ m w (by omega) hm).mono ?_
  rintro e w' ⟨he, n, rfl⟩
  have hcc : (cut s.data.toList (⟨#[58]⟩ : ByteArray).data.toList).1 = aheadL s.data.toList := cut_colon _
  rw [hcc] at he
  exact ⟨⟨_, _, he⟩, below_draws w n⟩

set_option maxHeartbeats 1000000 in
theorem smallFn_any (c : Int) (w : World) (h0 : 0 ≤ c) (h1 : c ≤ 1114111) :
    Calls Tryz.prog 150 #[.int .i32 c] w fun e w' => e = .returned (.int .i32 (smallZ c)) ∧ w = w' := by
  by_cases h : 65 ≤ c ∧ c ≤ 90
  · have e0 : smallZ c = c + 32 := by unfold smallZ; rw [if_pos h]
    rw [e0]
    obtain ⟨h2, h3⟩ := h
    clear e0
    go_enter Tryz.func150, Tryz.ntmps150
    go_wp2
    go_ret
    exact ⟨ret_int (by omega), rfl⟩
  · have e0 : smallZ c = c := by unfold smallZ; rw [if_neg h]
    rw [e0]
    clear e0
    by_cases h2 : 65 ≤ c
    · have h3 : ¬ c ≤ 90 := fun h3 => h ⟨h2, h3⟩
      clear h
      go_enter Tryz.func150, Tryz.ntmps150
      go_wp2
      go_ret
      exact ⟨rfl, rfl⟩
    · clear h
      go_enter Tryz.func150, Tryz.ntmps150
      go_wp2
      go_ret
      exact ⟨rfl, rfl⟩

theorem map_any (s : ByteArray) (w : World) (hs : s.size ≤ 1000000000) (hE : Env w) :
    Calls Tryz.prog 149 #[.func (.func 150) #[] #[], .string s] w fun e w' => e = .returned (.string ⟨(mapD smallZ s.data.toList).toArray⟩) ∧ Below w.heap.size w w' := by
  have eg : ∀ args w, (callFunc 150 args).run Tryz.prog w = .ok (.enter 150 args) w := enters_of Tryz.func150 (by kernel_rfl) rfl
  refine Tryz.strings_Map_grows 150 #[] eg smallZ s w (by omega) (fun W x hx hb => ?_) (fun x hx => ?_) hE.1
  · refine (smallFn_any (x : Int) W (by omega) (by omega)).mono ?_
    rintro e w' ⟨rfl, rfl⟩
    exact ⟨rfl, Below.refl _ _⟩
  · unfold smallZ; split <;> omega

set_option maxHeartbeats 1000000 in
theorem small_any (s : ByteArray) (w : World) (hs : s.size ≤ 1000000000) (hE : Env w) :
    Calls Tryz.prog 143 #[.string s] w fun e w' => e = .returned (.string ⟨(mapD smallZ s.data.toList).toArray⟩) ∧ Below w.heap.size w w' := by
  have hc := map_any s w hs hE
  obtain ⟨T, hT⟩ : ∃ T : ByteArray, ⟨(mapD smallZ s.data.toList).toArray⟩ = T := ⟨_, rfl⟩
  rw [hT] at hc ⊢
  clear hT
  go_enter Tryz.func143, Tryz.ntmps143
  go_wp2_with (go_at_call 149; ((with_reducible refine hc.mono ?_); rintro e w1 ⟨rfl, hb1⟩))
  go_ret
  exact ⟨rfl, hb1⟩

theorem prefix_blank : ∀ l : List UInt8, l ≠ [] → Lib.hasPrefix l [32] = (l.getD 0 0 == 32)
  | [], h => absurd rfl h
  | b :: t, _ => by
    unfold Lib.hasPrefix
    simp only [List.isPrefixOf, List.getD_cons_zero, Bool.and_true]
    rw [Bool.eq_iff_iff]
    simp only [beq_iff_eq]
    exact eq_comm
theorem suffix_blank (l : List UInt8) (h : l ≠ []) : Lib.hasSuffix l [32] = (l.getD (l.length - 1) 0 == 32) := by
  have h1 := prefix_blank l.reverse (by simpa using h)
  unfold Lib.hasSuffix
  unfold Lib.hasPrefix at h1
  have hl : 0 < l.length := List.length_pos_iff.2 h
  have h2 : l.reverse.getD 0 0 = l.getD (l.length - 1) 0 := by
    rw [List.getD_eq_getElem?_getD, List.getD_eq_getElem?_getD, List.getElem?_reverse hl]
    simp
  rw [← h2, ← h1]
  rfl

theorem not_js {l : List UInt8} (h : ¬ mapD smallZ l = jsL) : ¬ (⟨(mapD smallZ l).toArray⟩ : ByteArray) = ⟨jsL.toArray⟩ := by
  intro e
  apply h
  have := congrArg (fun b : ByteArray => b.data.toList) e
  simpa using this

set_option maxHeartbeats 4000000 in
theorem target_any (s : ByteArray) (w : World) (hs : s.size ≤ 1000000) (hE : Env w) :
    Calls Tryz.prog 134 #[.string s] w fun e w' => e = .returned (.bool (targetS s)) ∧ Below w.heap.size w w' := by
  by_cases h0 : s.size = 0
  · obtain rfl := eq_empty h0
    have e0 : targetS ⟨#[]⟩ = false := by decide
    rw [e0]
    clear e0 h0 hs
    go_enter Tryz.func134, Tryz.ntmps134
    go_wp2
    go_ret
    exact ⟨rfl, Below.refl _ _⟩
  · have hp : 0 < s.size := by omega
    have hne := isEmpty_of_pos hp
    have hl : s.data.toList ≠ [] := by
      have := drop_ne hp
      simpa using this
    have e0 : targetS s = (valueS s && !Lib.hasPrefix s.data.toList [32] && !Lib.hasSuffix s.data.toList [32] && !((aheadL s.data.toList).map smallB == jsL)) := by
      unfold targetS
      rw [decide_eq_true hp, prefix_blank _ hl, suffix_blank _ hl, ← size_eq]
      rfl
    rw [e0]
    clear e0 h0 hl
    have cV := value_any s w (by omega) hE
    obtain ⟨V, hV⟩ : ∃ V, valueS s = V := ⟨_, rfl⟩
    rw [hV] at cV ⊢
    clear hV
    have cP := fun w => Tryz.strings_HasPrefix s ⟨#[32]⟩ w
    obtain ⟨Pf, hPf⟩ : ∃ Pf, Lib.hasPrefix s.data.toList [32] = Pf := ⟨_, rfl⟩
    have hPf' : Lib.hasPrefix s.data.toList (⟨#[32]⟩ : ByteArray).data.toList = Pf := hPf
    rw [hPf'] at cP
    rw [hPf]
    have cS := fun w => Tryz.strings_HasSuffix s ⟨#[32]⟩ w (by omega)
    obtain ⟨Sf, hSf⟩ : ∃ Sf, Lib.hasSuffix s.data.toList [32] = Sf := ⟨_, rfl⟩
    have hSf' : Lib.hasSuffix s.data.toList (⟨#[32]⟩ : ByteArray).data.toList = Sf := hSf
    rw [hSf'] at cS
    rw [hSf]
    clear hPf hPf' hSf hSf'
    cases V with
    | false =>
      simp only [Bool.false_and]
      go_enter Tryz.func134, Tryz.ntmps134
      go_wp2_with (go_at_call 139; ((with_reducible refine cV.mono ?_); rintro e w1 ⟨rfl, hb1⟩))
      go_ret
      exact ⟨rfl, hb1⟩
    | true =>
      cases Pf with
      | true =>
        simp only [Bool.not_true, Bool.and_false, Bool.false_and]
        go_enter Tryz.func134, Tryz.ntmps134
        go_wp2_with (first
          | (go_at_call 139; ((with_reducible refine cV.mono ?_); rintro e w1 ⟨rfl, hb1⟩))
          | (go_at_call 140; ((with_reducible refine (cP _).mono ?_); rintro e w2 ⟨rfl, rfl⟩)))
        go_ret
        exact ⟨rfl, hb1⟩
      | false =>
        cases Sf with
        | true =>
          simp only [Bool.not_true, Bool.and_false, Bool.false_and]
          go_enter Tryz.func134, Tryz.ntmps134
          go_wp2_with (first
            | (go_at_call 139; ((with_reducible refine cV.mono ?_); rintro e w1 ⟨rfl, hb1⟩))
            | (go_at_call 140; ((with_reducible refine (cP _).mono ?_); rintro e w2 ⟨rfl, rfl⟩))
            | (go_at_call 141; ((with_reducible refine (cS _).mono ?_); rintro e w2 ⟨rfl, rfl⟩)))
          go_ret
          exact ⟨rfl, hb1⟩
        | false =>
          simp only [Bool.not_false, Bool.and_true, Bool.true_and]
          have hal := ahead_length s.data.toList
          rw [← size_eq] at hal
          have hasz : (⟨(aheadL s.data.toList).toArray⟩ : ByteArray).size ≤ 1000000000 := by
            show (aheadL s.data.toList).toArray.size ≤ _
            simp; omega
          have hm := map_small _ (aheadL s.data.toList) jsL (Nat.le_refl _) js_ascii
          have cM : ∀ wx, Env wx → _ := fun wx hEx => small_any ⟨(aheadL s.data.toList).toArray⟩ wx hasz hEx
          have cC : ∀ wx, Env wx → _ := fun wx hEx => cut_any s wx (by omega) hEx
          obtain ⟨J, hJ⟩ : ∃ J, ((aheadL s.data.toList).map smallB == jsL) = J := ⟨_, rfl⟩
          rw [hJ]
          have hJ2 : (mapD smallZ (aheadL s.data.toList) = jsL) ↔ J = true := by rw [hm, ← hJ]; simp
          have e1 : (⟨(mapD smallZ (⟨(aheadL s.data.toList).toArray⟩ : ByteArray).data.toList).toArray⟩ : ByteArray) = ⟨(mapD smallZ (aheadL s.data.toList)).toArray⟩ := by simp
          rw [e1] at cM
          clear e1 hJ hm hasz hal
          cases J with
          | true =>
            have h1 := hJ2.2 rfl
            rw [h1] at cM
            clear hJ2 h1
            go_enter Tryz.func134, Tryz.ntmps134
            go_wp2_with (first
              | (go_at_call 139; ((with_reducible refine cV.mono ?_); rintro e w1 ⟨rfl, hb1⟩; have hE1 := hE.below hb1))
              | (go_at_call 140; ((with_reducible refine (cP _).mono ?_); rintro e w2 ⟨rfl, rfl⟩))
              | (go_at_call 141; ((with_reducible refine (cS _).mono ?_); rintro e w2 ⟨rfl, rfl⟩))
              | (go_at_call 142; ((with_reducible refine (cC _ hE1).mono ?_); rintro e w2 ⟨⟨b, c, rfl⟩, hb2⟩; have hE2 := hE1.below hb2))
              | (go_at_call 143; ((with_reducible refine (cM _ hE2).mono ?_); rintro e w3 ⟨rfl, hb3⟩)))
            go_ret
            exact ⟨rfl, (hb1.trans (hb2.mono hb1.size)).trans (hb3.mono (Nat.le_trans hb1.size hb2.size))⟩
          | false =>
            have h1 : ¬ mapD smallZ (aheadL s.data.toList) = jsL := fun h => by simpa using hJ2.1 h
            have h2 := not_js h1
            obtain ⟨T, hT⟩ : ∃ T : ByteArray, (⟨(mapD smallZ (aheadL s.data.toList)).toArray⟩ : ByteArray) = T := ⟨_, rfl⟩
            rw [hT] at cM h2
            have H2 := Lib.hid h2
            clear hJ2 h1 h2 hT
            go_enter Tryz.func134, Tryz.ntmps134
            go_wp2_with (first
              | (go_at_call 139; ((with_reducible refine cV.mono ?_); rintro e w1 ⟨rfl, hb1⟩; have hE1 := hE.below hb1))
              | (go_at_call 140; ((with_reducible refine (cP _).mono ?_); rintro e w2 ⟨rfl, rfl⟩))
              | (go_at_call 141; ((with_reducible refine (cS _).mono ?_); rintro e w2 ⟨rfl, rfl⟩))
              | (go_at_call 142; ((with_reducible refine (cC _ hE1).mono ?_); rintro e w2 ⟨⟨b, c, rfl⟩, hb2⟩; have hE2 := hE1.below hb2))
              | (go_at_call 143; ((with_reducible refine (cM _ hE2).mono ?_); rintro e w3 ⟨rfl, hb3⟩)))
            go_ret
            refine ⟨ret_bool ?_, (hb1.trans (hb2.mono hb1.size)).trans (hb3.mono (Nat.le_trans hb1.size hb2.size))⟩
            have h3 := H2.out
            have h4 : (T.toList == [106, 97, 118, 97, 115, 99, 114, 105, 112, 116]) = false := by
              rw [ByteArray.toList_eq]
              apply Bool.eq_false_iff.2
              intro hh
              apply h3
              have h5 := eq_of_beq hh
              cases T with | mk a =>
              congr 1
              apply Array.toList_inj.1
              simpa [jsL] using h5
            rw [h4]

end Go.Proofs.YtafincmcmgedbaaGreatDoor.Tg
