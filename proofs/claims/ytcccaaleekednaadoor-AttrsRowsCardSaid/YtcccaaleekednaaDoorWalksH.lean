/-
  The contract of the statements' long: what is not long is short.
-/
import Derived.Test.YtcccaaleekednaaDoorWalksG
import Derived.Deep.QuietTactic
import Derived.BigQuiet
namespace Go.Proofs.YtcccaaleekednaaDoor
open Go.RowKit Go.Lib

def tot : List ByteArray → Nat
  | [] => 0
  | s :: r => s.size + tot r
def totR : Row → Nat
  | [] => 0
  | a :: r => a.1.size + a.2.size + totR r
theorem tot_take : ∀ (l : List ByteArray) (k : Nat), k < l.length → tot (l.take (k + 1)) = tot (l.take k) + (l[k]!).size
  | [], k, h => by simp at h
  | s :: r, 0, _ => by simp [tot]
  | s :: r, k + 1, h => by
    have ih := tot_take r k (by simpa using h)
    simp only [List.take_succ_cons, tot, ih, List.getElem!_cons_succ]
    omega
theorem tot_take_le : ∀ (l : List ByteArray) (k : Nat), tot (l.take k) ≤ tot l
  | [], k => by simp
  | s :: r, 0 => by simp [tot]
  | s :: r, k + 1 => by
    have ih := tot_take_le r k
    simp only [List.take_succ_cons, tot]
    omega
theorem totR_take : ∀ (l : Row) (k : Nat), k < l.length → totR (l.take (k + 1)) = totR (l.take k) + ((l[k]!).1.size + (l[k]!).2.size)
  | [], k, h => by simp at h
  | s :: r, 0, _ => by simp [totR]
  | s :: r, k + 1, h => by
    have ih := totR_take r k (by simpa using h)
    simp only [List.take_succ_cons, totR, ih, List.getElem!_cons_succ]
    omega
theorem tot_mem : ∀ (l : List ByteArray) (s : ByteArray), s ∈ l → s.size ≤ tot l
  | [], _, h => by simp at h
  | t :: r, s, h => by
    rcases List.mem_cons.1 h with rfl | h
    · simp [tot]
    · have := tot_mem r s h
      simp only [tot]; omega
theorem totR_mem : ∀ (l : Row) (a : At), a ∈ l → a.1.size + a.2.size ≤ totR l
  | [], _, h => by simp at h
  | t :: r, s, h => by
    rcases List.mem_cons.1 h with rfl | h
    · simp [totR]
    · have := totR_mem r s h
      simp only [totR]; omega

/-- The slice v holds the texts. -/
def TextsAt (w : World) (v : Value) (ts : List ByteArray) : Prop :=
  (v = .slice none 0 0 ∧ ts = []) ∨ ∃ g c, v = .slice (some ⟨g, 0, none⟩) ts.length c ∧ ts.length ≤ c ∧ g < w.heap.size ∧ ∀ j, j < ts.length → w.cell? ⟨g, j, none⟩ = some (.string ts[j]!)

/-- What long says: where it says no, all is short. -/
def LongPost (l : Row) (ts : List ByteArray) (w : World) (e : Ending) (w' : World) : Prop := ∃ b, e = .returned (.bool b) ∧ (b = false → l.length ≤ 200 ∧ totR l + tot ts ≤ 20000) ∧ Below w.heap.size w w'

set_option maxHeartbeats 4000000 in
theorem long_nn (a0 : Option Addr) (c0 : Nat) (w : World) :
    Calls Tryd.prog 8 #[.slice a0 0 c0, .slice none 0 0] w (LongPost [] [] w) := by
  go_enter Tryd.func8, Tryd.ntmps8
  go_wp2
  go_loop [5, 6] (fun n i => n = .int .i64 0 ∧ i = .int .i64 0) (fun _ _ => 0)
  case atStart => exact ⟨rfl, rfl⟩
  case round =>
    obtain ⟨rfl, rfl⟩ := hrel
    go_wp2
    go_loopw [5, 7] (fun n i wr => n = .int .i64 0 ∧ i = .int .i64 0 ∧ wr = w) (fun _ _ _ => 0)
    case atStart => exact ⟨rfl, rfl, rfl⟩
    case round =>
      obtain ⟨rfl, rfl, rfl⟩ := hrel
      go_wp2
      go_ret
      exact ⟨_, rfl, fun _ => ⟨by simp, by simp [totR, tot]⟩, Below.refl _ _⟩

set_option maxHeartbeats 4000000 in
theorem long_nt (a0 : Option Addr) (c0 : Nat) (ts : List ByteArray) (g d : Nat) (w : World) (hgc : ∀ j, j < ts.length → w.cell? ⟨g, j, none⟩ = some (.string ts[j]!)) (hts : tot ts ≤ 1125899906842624) (htl : ts.length ≤ 1000) :
    Calls Tryd.prog 8 #[.slice a0 0 c0, .slice (some ⟨g, 0, none⟩) ts.length d] w (LongPost [] ts w) := by
  obtain ⟨M, hM⟩ : ∃ M, ts.length = M := ⟨_, rfl⟩
  rw [hM] at hgc htl ⊢
  have HM := Lib.hid hM
  clear hM
  have HG := Lib.hid hgc
  clear hgc
  obtain ⟨T, hT⟩ : ∃ T, tot ts = T := ⟨_, rfl⟩
  rw [hT] at hts
  have HT := Lib.hid hT
  clear hT
  go_enter Tryd.func8, Tryd.ntmps8
  go_wp2
  go_loop [5, 6] (fun n i => ∃ k m : Nat, k ≤ M ∧ i = .int .i64 k ∧ n = .int .i64 m ∧ m ≤ T ∧ Hid (tot (ts.take k) = m)) (fun _ i => M - (intOf i).toNat)
  case atStart => exact ⟨0, 0, Nat.zero_le _, rfl, rfl, Nat.zero_le _, Lib.hid rfl⟩
  case round =>
    obtain ⟨k, m, hk, rfl, rfl, hm, Hm⟩ := hrel
    by_cases hlt : k < M
    · have h1 := HG.out k hlt
      have h2 := tot_take ts k (by rw [HM.out]; exact hlt)
      have h3 := tot_take_le ts (k + 1)
      rw [Hm.out] at h2
      rw [h2, HT.out] at h3
      obtain ⟨S, hS⟩ : ∃ S, ts[k]! = S := ⟨_, rfl⟩
      rw [hS] at h1 h2 h3
      have H2 := Lib.hid h2
      clear h2 hS
      go_wp2
      go_round
      case rel => exact ⟨k + 1, m + S.size, hlt, by go_num, by go_num, h3, H2⟩
      case measure => simp [intOf]; omega
    · have hkM : k = M := by omega
      subst hkM
      have hmT : m = T := by rw [← Hm.out, ← HT.out, List.take_of_length_le (by rw [HM.out]; omega)]
      subst hmT
      clear hlt Hm
      go_wp2
      go_loopw [5, 7] (fun n i wr => n = .int .i64 m ∧ i = .int .i64 0 ∧ wr = w) (fun _ _ _ => 0)
      case atStart => exact ⟨rfl, rfl, rfl⟩
      case round =>
        obtain ⟨rfl, rfl, rfl⟩ := hrel
        go_wp2
        go_ret
        refine ⟨_, rfl, fun hb => ⟨by simp, ?_⟩, Below.refl _ _⟩
        have hb' : ¬ (20000 : Int) < (m : Int) := by simpa using hb
        rw [HT.out]
        show 0 + m ≤ 20000
        omega

set_option maxHeartbeats 4000000 in
theorem long_ln (l : Row) (b o c : Nat) (w : World) (hlc : l.length ≤ c) (hcs : Cells w b o l) (hsz : ∀ j, j < l.length → (l[j]!).1.size ≤ 140737488355328 ∧ (l[j]!).2.size ≤ 140737488355328) :
    Calls Tryd.prog 8 #[.slice (some ⟨b, o, none⟩) l.length c, .slice none 0 0] w (LongPost l [] w) := by
  obtain ⟨N, hN⟩ : ∃ N, l.length = N := ⟨_, rfl⟩
  rw [hN] at hlc hsz ⊢
  have HN := Lib.hid hN
  clear hN
  have HC := Lib.hid hcs
  have HS := Lib.hid hsz
  clear hcs hsz
  go_enter Tryd.func8, Tryd.ntmps8
  go_wp2
  go_loop [5, 6] (fun n i => n = .int .i64 0 ∧ i = .int .i64 0) (fun _ _ => 0)
  case atStart => exact ⟨rfl, rfl⟩
  case round =>
    obtain ⟨rfl, rfl⟩ := hrel
    by_cases h200 : (200 : Int) < (N : Int)
    · go_wp2
      go_ret
      exact ⟨true, rfl, (fun h => by cases h), Below.refl _ _⟩
    · go_wp2
      go_loopw [5, 7] (fun n i wr => ∃ k q : Nat, k ≤ N ∧ i = .int .i64 k ∧ n = .int .i64 q ∧ Hid (0 + totR (l.take k) = q) ∧ ∃ z, wr = w.drewN z) (fun _ i _ => N - (intOf i).toNat)
      case atStart => exact ⟨0, 0, Nat.zero_le _, rfl, rfl, Lib.hid (by simp [totR]), 0, rfl⟩
      case round =>
        obtain ⟨k, q, hk, rfl, rfl, Hq, z, rfl⟩ := hrel
        by_cases hlt : k < N
        · have hkI : (k : Int) < (N : Int) := by omega
          by_cases hq : (q : Int) ≤ 20000
          · obtain ⟨c1, c2⟩ := HC.out k (by rw [HN.out]; exact hlt)
            have h2 := totR_take l k (by rw [HN.out]; exact hlt)
            obtain ⟨s1, s2⟩ := HS.out k hlt
            obtain ⟨A, hA⟩ : ∃ A, (l[k]!).1 = A := ⟨_, rfl⟩
            obtain ⟨B, hB⟩ : ∃ B, (l[k]!).2 = B := ⟨_, rfl⟩
            rw [hA] at c1 h2 s1
            rw [hB] at c2 h2 s2
            have H2 : Hid (0 + totR (l.take (k + 1)) = q + (A.size + B.size)) := Lib.hid (by rw [h2, ← Nat.add_assoc, Hq.out])
            clear h2 hA hB
            go_wp2_with fail
            have hw1 : IntKind.i64.wrap ((A.size : Int) + (B.size : Int)) = (A.size : Int) + (B.size : Int) := IntWalk.i64_in _ (by omega)
            have hw2 : IntKind.i64.wrap ((q : Int) + ((A.size : Int) + (B.size : Int))) = (q : Int) + ((A.size : Int) + (B.size : Int)) := IntWalk.i64_in _ (by omega)
            go_quiet (fail)
            clear hw1 hw2
            go_wp2
            go_roundw
            case rel => exact ⟨k + 1, q + (A.size + B.size), hlt, by go_num, by go_num, H2, _, rfl⟩
            case measure => simp [intOf]; omega
          · go_wp2
            go_ret
            refine ⟨_, rfl, fun h => ?_, below_draws w z⟩
            simp at h
        · have hkN : k = N := by omega
          subst hkN
          have hql : 0 + totR l = q := by rw [← Hq.out, List.take_of_length_le (by rw [HN.out]; omega)]
          have HQ := Lib.hid hql
          clear hql Hq hlt
          go_wp2
          go_ret
          refine ⟨_, rfl, fun h => ⟨by rw [HN.out]; omega, ?_⟩, below_draws w z⟩
          have hb' : ¬ (20000 : Int) < (q : Int) := by simpa using h
          have := HQ.out
          show totR l + 0 ≤ 20000
          omega

set_option maxHeartbeats 4000000 in
theorem long_lt (l : Row) (b o c : Nat) (ts : List ByteArray) (g d : Nat) (w : World) (hlc : l.length ≤ c) (hcs : Cells w b o l) (hsz : ∀ j, j < l.length → (l[j]!).1.size ≤ 140737488355328 ∧ (l[j]!).2.size ≤ 140737488355328) (hgc : ∀ j, j < ts.length → w.cell? ⟨g, j, none⟩ = some (.string ts[j]!)) (hts : tot ts ≤ 1125899906842624) (htl : ts.length ≤ 1000) :
    Calls Tryd.prog 8 #[.slice (some ⟨b, o, none⟩) l.length c, .slice (some ⟨g, 0, none⟩) ts.length d] w (LongPost l ts w) := by
  obtain ⟨N, hN⟩ : ∃ N, l.length = N := ⟨_, rfl⟩
  rw [hN] at hlc hsz ⊢
  have HN := Lib.hid hN
  clear hN
  have HC := Lib.hid hcs
  have HS := Lib.hid hsz
  clear hcs hsz
  obtain ⟨M, hM⟩ : ∃ M, ts.length = M := ⟨_, rfl⟩
  rw [hM] at hgc htl ⊢
  have HM := Lib.hid hM
  clear hM
  have HG := Lib.hid hgc
  clear hgc
  obtain ⟨T, hT⟩ : ∃ T, tot ts = T := ⟨_, rfl⟩
  rw [hT] at hts
  have HT := Lib.hid hT
  clear hT
  go_enter Tryd.func8, Tryd.ntmps8
  go_wp2
  go_loop [5, 6] (fun n i => ∃ k m : Nat, k ≤ M ∧ i = .int .i64 k ∧ n = .int .i64 m ∧ m ≤ T ∧ Hid (tot (ts.take k) = m)) (fun _ i => M - (intOf i).toNat)
  case atStart => exact ⟨0, 0, Nat.zero_le _, rfl, rfl, Nat.zero_le _, Lib.hid rfl⟩
  case round =>
    obtain ⟨k, m, hk, rfl, rfl, hm, Hm⟩ := hrel
    by_cases hlt : k < M
    · have h1 := HG.out k hlt
      have h2 := tot_take ts k (by rw [HM.out]; exact hlt)
      have h3 := tot_take_le ts (k + 1)
      rw [Hm.out] at h2
      rw [h2, HT.out] at h3
      obtain ⟨S, hS⟩ : ∃ S, ts[k]! = S := ⟨_, rfl⟩
      rw [hS] at h1 h2 h3
      have H2 := Lib.hid h2
      clear h2 hS
      go_wp2
      go_round
      case rel => exact ⟨k + 1, m + S.size, hlt, by go_num, by go_num, h3, H2⟩
      case measure => simp [intOf]; omega
    · have hkM : k = M := by omega
      subst hkM
      have hmT : m = T := by rw [← Hm.out, ← HT.out, List.take_of_length_le (by rw [HM.out]; omega)]
      subst hmT
      clear hlt Hm
      by_cases h200 : (200 : Int) < (N : Int)
      · go_wp2
        go_ret
        exact ⟨true, rfl, (fun h => by cases h), Below.refl _ _⟩
      · go_wp2
        go_loopw [5, 7] (fun n i wr => ∃ k q : Nat, k ≤ N ∧ i = .int .i64 k ∧ n = .int .i64 q ∧ Hid (m + totR (l.take k) = q) ∧ ∃ z, wr = w.drewN z) (fun _ i _ => N - (intOf i).toNat)
        case atStart => exact ⟨0, m, Nat.zero_le _, rfl, rfl, Lib.hid (by simp [totR]), 0, rfl⟩
        case round =>
          obtain ⟨k, q, hk, rfl, rfl, Hq, z, rfl⟩ := hrel
          by_cases hlt : k < N
          · have hkI : (k : Int) < (N : Int) := by omega
            by_cases hq : (q : Int) ≤ 20000
            · obtain ⟨c1, c2⟩ := HC.out k (by rw [HN.out]; exact hlt)
              have h2 := totR_take l k (by rw [HN.out]; exact hlt)
              obtain ⟨s1, s2⟩ := HS.out k hlt
              obtain ⟨A, hA⟩ : ∃ A, (l[k]!).1 = A := ⟨_, rfl⟩
              obtain ⟨B, hB⟩ : ∃ B, (l[k]!).2 = B := ⟨_, rfl⟩
              rw [hA] at c1 h2 s1
              rw [hB] at c2 h2 s2
              have H2 : Hid (m + totR (l.take (k + 1)) = q + (A.size + B.size)) := Lib.hid (by rw [h2, ← Nat.add_assoc, Hq.out])
              clear h2 hA hB
              go_wp2_with fail
              have hw1 : IntKind.i64.wrap ((A.size : Int) + (B.size : Int)) = (A.size : Int) + (B.size : Int) := IntWalk.i64_in _ (by omega)
              have hw2 : IntKind.i64.wrap ((q : Int) + ((A.size : Int) + (B.size : Int))) = (q : Int) + ((A.size : Int) + (B.size : Int)) := IntWalk.i64_in _ (by omega)
              go_quiet (fail)
              clear hw1 hw2
              go_wp2
              go_roundw
              case rel => exact ⟨k + 1, q + (A.size + B.size), hlt, by go_num, by go_num, H2, _, rfl⟩
              case measure => simp [intOf]; omega
            · go_wp2
              go_ret
              refine ⟨_, rfl, fun h => ?_, below_draws w z⟩
              simp at h
          · have hkN : k = N := by omega
            subst hkN
            have hql : m + totR l = q := by rw [← Hq.out, List.take_of_length_le (by rw [HN.out]; omega)]
            have HQ := Lib.hid hql
            clear hql Hq hlt
            go_wp2
            go_ret
            refine ⟨_, rfl, fun h => ⟨by rw [HN.out]; omega, ?_⟩, below_draws w z⟩
            have hb' : ¬ (20000 : Int) < (q : Int) := by simpa using h
            have := HQ.out
            rw [HT.out]
            omega

theorem long_any (v tv : Value) (l : Row) (ts : List ByteArray) (w : World) (hv : RowAt w v l) (htv : TextsAt w tv ts) (hsz : ∀ a ∈ l, a.1.size ≤ 140737488355328 ∧ a.2.size ≤ 140737488355328) (hts : tot ts ≤ 1125899906842624) (htl : ts.length ≤ 1000) :
    Calls Tryd.prog 8 #[v, tv] w (LongPost l ts w) := by
  have hsz' : ∀ j, j < l.length → (l[j]!).1.size ≤ 140737488355328 ∧ (l[j]!).2.size ≤ 140737488355328 := fun j hj => by
    have e : l[j]! = l[j] := by rw [List.getElem!_eq_getElem?_getD, List.getElem?_eq_getElem hj]; rfl
    rw [e]; exact hsz _ (List.getElem_mem hj)
  rcases hv with ⟨a0, c0, rfl, _, rfl⟩ | ⟨b, o, c, rfl, h1, _, _, h4⟩
  · rcases htv with ⟨rfl, rfl⟩ | ⟨g, d, rfl, _, _, h7⟩
    · exact long_nn a0 c0 w
    · exact long_nt a0 c0 ts g d w h7 hts htl
  · rcases htv with ⟨rfl, rfl⟩ | ⟨g, d, rfl, _, _, h7⟩
    · exact long_ln l b o c w h1 h4 hsz'
    · exact long_lt l b o c ts g d w h1 h4 hsz' h7 hts htl

end Go.Proofs.YtcccaaleekednaaDoor
