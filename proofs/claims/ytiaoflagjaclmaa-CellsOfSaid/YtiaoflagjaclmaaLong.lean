/-
  Are there more cells, or longer links, than are gone through?
-/
import Derived.Test.YtiaoflagjaclmaaWithin
namespace Go.Proofs.Ytiaoflagjaclmaa
open Go.RowKit Go.Lib

/-- What is known of a row that came in: its texts have lengths that Go gives. -/
def Sized (l : Row) : Prop := ∀ c ∈ l, c.2.2.size ≤ 140737488355328
theorem Sized.at {l : Row} (h : Sized l) {k : Nat} (hk : k < l.length) : (l[k]!).2.2.size ≤ 140737488355328 := by
  rw [List.getElem!_eq_getElem?_getD, List.getElem?_eq_getElem hk]
  exact h _ (List.getElem_mem hk)
def LongPost (l : Row) (w : World) (e : Ending) (w' : World) : Prop := ∃ B : Bool, e = .returned (.bool B) ∧ w = w' ∧ (B = false → l.length ≤ 20000)

set_option maxHeartbeats 4000000 in
theorem long_any (v : Value) (l : Row) (w : World) (hv : RowAt w v l) (hs : Sized l) :
    Calls Try.prog 13 #[v] w (LongPost l w) := by
  obtain ⟨a, c, rfl, hc1, hc2⟩ := hv.cap
  unfold maxLen at hc2
  obtain ⟨n, hn⟩ : ∃ n, l.length = n := ⟨_, rfl⟩
  have V := Lib.hid hv
  rw [hn] at hc1 V ⊢
  have N := Lib.hid hn
  have S := Lib.hid hs
  clear hv hn hs
  by_cases hbig : 20000 < n
  · have h1 : ¬ (n : Int) ≤ 20000 := by omega
    have h2 : (20000 : Int) < (n : Int) := by omega
    go_enter Try.func13, Try.ntmps13
    go_wp2
    go_loop [3, 4] (fun m i => i = .int .i64 0 ∧ m = .int .i64 n) (fun _ _ => 0)
    case atStart => exact ⟨rfl, rfl⟩
    case round =>
      obtain ⟨rfl, rfl⟩ := hrel
      go_wp2
      all_goals go_ret
      all_goals exact ⟨true, rfl, rfl, fun h => by cases h⟩
  · have hnn : n ≤ 20000 := by omega
    go_enter Try.func13, Try.ntmps13
    go_wp2
    go_loop [3, 4] (fun m i => ∃ (k M : Nat), k ≤ n ∧ i = .int .i64 k ∧ m = .int .i64 M ∧ M ≤ 20000 + 140737488355328) (fun _ i => n - (RowKit.intOf i).toNat)
    case atStart => exact ⟨0, n, Nat.zero_le _, rfl, rfl, by omega⟩
    case round =>
      obtain ⟨k, M, hk, rfl, rfl, hM⟩ := hrel
      by_cases hlt : k < n
      · have hkI : (k : Int) < (n : Int) := by omega
        by_cases hMs : M ≤ 20000
        · have hMI : (M : Int) ≤ 20000 := by omega
          have hkl : k < l.length := by rw [N.out]; exact hlt
          obtain ⟨b, o, c2, e, hlc, hcm, hbl, hcs⟩ := V.out.lies (by omega)
          rw [N.out] at e
          obtain ⟨rfl, _, rfl⟩ := Value.slice.inj e
          obtain ⟨_, _, x3⟩ := hcs k hkl
          have hsz := S.out.at hkl
          obtain ⟨X, hX⟩ : ∃ X, (l[k]!).2.2 = X := ⟨_, rfl⟩
          rw [hX] at x3 hsz
          have hq0 : (0 : Int) ≤ (X.size : Int) / 8 := by omega
          have hq1 : (X.size : Int) / 8 ≤ 140737488355328 := by omega
          clear hX hcs e hkl
          go_wp2
          go_round
          case rel => exact ⟨k + 1, M + X.size / 8, hlt, by go_num, by go_num, by omega⟩
          case measure => simp [RowKit.intOf]; omega
        · have hMI : ¬ (M : Int) ≤ 20000 := by omega
          go_wp2
          all_goals go_ret
          all_goals exact ⟨_, rfl, rfl, fun _ => by have := N.out; omega⟩
      · go_wp2
        all_goals go_ret
        all_goals exact ⟨_, rfl, rfl, fun _ => by have := N.out; omega⟩

end Go.Proofs.Ytiaoflagjaclmaa
