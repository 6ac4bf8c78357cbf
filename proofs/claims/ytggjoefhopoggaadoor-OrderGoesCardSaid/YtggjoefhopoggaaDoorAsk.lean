/-
  What a tree asks ahead of a change: ask, element, loose, takes.
-/
import Derived.Test.YtggjoefhopoggaaDoorMem
namespace Go.Proofs.YtggjoefhopoggaaDoor
open Go.RowKit Go.Lib

theorem KidsAt.same {w w' : World} {ka : Option Addr} {kids : List Int} (h : KidsAt w ka kids) (hb : Below w.heap.size w w') : KidsAt w' ka kids := h.below hb
theorem NodeAt.below {w w' : World} {x : Nd} (h : NodeAt w x) (hb : Below w.heap.size w w') : NodeAt w' x := by
  have hl := lt_of_cell' h.c0
  exact ⟨(hb.cell (p := ⟨x.ab, 0, none⟩) hl).trans h.c0, (hb.cell (p := ⟨x.ab, 1, none⟩) hl).trans h.c1, (hb.cell (p := ⟨x.ab, 2, none⟩) hl).trans h.c2, (hb.cell (p := ⟨x.ab, 3, none⟩) hl).trans h.c3, (hb.cell (p := ⟨x.ab, 4, none⟩) hl).trans h.c4, (hb.cell (p := ⟨x.ab, 5, none⟩) hl).trans h.c5, fun j => (hb.frozen (p := ⟨x.ab, j, none⟩) hl).trans (h.f j), h.ks.below hb, h.kl⟩
theorem TreeAt.below {w w' : World} {p nb : Nat} {deep : Int} {l : List (Option Nd)} (h : TreeAt w p nb deep l) (hn : nb < w.heap.size) (hb : Below w.heap.size w w') : TreeAt w' p nb deep l := by
  have hl := lt_of_cell' h.c0
  refine ⟨(hb.cell (p := ⟨p, 0, none⟩) hl).trans h.c0, (hb.cell (p := ⟨p, 1, none⟩) hl).trans h.c1, (hb.cell (p := ⟨p, 2, none⟩) hl).trans h.c2, h.le, fun i hi => (hb.cell (p := ⟨nb, i, none⟩) hn).trans (h.no i hi), fun i x hi => ⟨(hb.cell (p := ⟨nb, i, none⟩) hn).trans (h.yes i x hi).1, (h.yes i x hi).2.below hb⟩, fun i => (hb.frozen (p := ⟨nb, i, none⟩) hn).trans (h.f i)⟩

def askT (l : List (Option Nd)) (ids : List Int) : Int := if ids.all (hasT l) then 0 else 2
set_option maxRecDepth 20000 in
set_option maxHeartbeats 4000000 in
theorem ask_any (w : World) (p nb : Nat) (deep : Int) (l : List (Option Nd)) (h : TreeAt w p nb deep l) (b : Nat) (ids : List Int) (hl : ids.length ≤ 1000) (hi : ∀ j, j < ids.length → w.cell? ⟨b, j, none⟩ = some (.int .i64 (ids[j]!))) :
    Calls Tryd.prog 73 #[.pointer (some ⟨p, 0, none⟩), .slice (some ⟨b, 0, none⟩) ids.length ids.length] w fun e w' => e = .returned (.int .i64 (askT l ids)) ∧ w = w' := by
  have cI := is_any w p nb deep l h
  have cH := fun id => has_any w p nb deep id l h
  have HI := Lib.hid hi
  obtain ⟨R, hR⟩ : ∃ R, askT l ids = R := ⟨_, rfl⟩
  rw [hR]
  have HR := Lib.hid hR
  obtain ⟨n, hn⟩ : ∃ n, ids.length = n := ⟨_, rfl⟩
  rw [hn] at hl ⊢
  have HN := Lib.hid hn
  clear h hi hR hn
  go_enter Tryd.func73, Tryd.ntmps73
  go_wp2_with (go_at_call 47; ((with_reducible refine (cI).mono ?_); rintro e w1 ⟨rfl, rfl⟩))
  go_loop [6, 12] (fun _ i => ∃ k : Nat, k ≤ n ∧ i = .int .i64 k ∧ Hid ((ids.take k).all (hasT l) = true)) (fun _ i => n - (RowKit.intOf i).toNat)
  case atStart => exact ⟨0, Nat.zero_le _, rfl, Lib.hid rfl⟩
  case round =>
    obtain ⟨k, hk, rfl, HA⟩ := hrel
    by_cases hlt : k < n
    · have hkl : k < ids.length := by rw [HN.out]; exact hlt
      have hc := HI.out k hkl
      have hnx : ids.take (k + 1) = ids.take k ++ [ids[k]!] := by rw [List.getElem!_eq_getElem?_getD, List.getElem?_eq_getElem hkl, List.take_add_one, List.getElem?_eq_getElem hkl]; rfl
      have hin : ids[k]! ∈ ids := by rw [List.getElem!_eq_getElem?_getD, List.getElem?_eq_getElem hkl]; exact List.getElem_mem hkl
      obtain ⟨z, hz⟩ : ∃ z, ids[k]! = z := ⟨_, rfl⟩
      rw [hz] at hc hnx hin
      have cZ := cH z
      have HX := Lib.hid hnx
      have HM := Lib.hid hin
      have hkI : (k : Int) < (n : Int) := by omega
      cases hh : hasT l z with
      | true =>
        rw [hh] at cZ
        have HH := Lib.hid hh
        clear hz hnx hin hkl hh cH
        go_wp2_with (go_at_call 22; ((with_reducible refine (cZ).mono ?_); rintro e w2 ⟨rfl, rfl⟩))
        go_round
        case rel => exact ⟨k + 1, hlt, by go_num, Lib.hid (by rw [HX.out, List.all_append, HA.out, List.all_cons, HH.out]; rfl)⟩
        case measure => simp [RowKit.intOf]; omega
      | false =>
        rw [hh] at cZ
        have HE : R = 2 := by
          rw [← HR.out]
          unfold askT
          rw [if_neg]
          intro ha
          rw [List.all_eq_true.1 ha z hin] at hh
          cases hh
        subst HE
        clear hz hnx hin hkl hh cH
        go_wp2_with (go_at_call 22; ((with_reducible refine (cZ).mono ?_); rintro e w2 ⟨rfl, rfl⟩))
        go_ret
        exact ⟨rfl, rfl⟩
    · have hkn : k = n := by omega
      subst hkn
      have HE : R = 0 := by
        rw [← HR.out]
        unfold askT
        have := HA.out
        rw [List.take_of_length_le (by rw [HN.out]; omega)] at this
        rw [if_pos this]
      subst HE
      clear HA
      go_wp2
      go_ret
      exact ⟨rfl, rfl⟩

/-- element's answer: the node, or why not. -/
def elemT (l : List (Option Nd)) (id : Int) : Option Nd × Int := match ndAt l id with
  | none => (none, 2)
  | some x => if x.tag = 0 then (none, 6) else (some x, 0)
set_option maxRecDepth 20000 in
set_option maxHeartbeats 4000000 in
theorem element_any (w : World) (p nb : Nat) (deep : Int) (l : List (Option Nd)) (h : TreeAt w p nb deep l) (id : Int) (hn : nb < w.heap.size) :
    Calls Tryd.prog 64 #[.pointer (some ⟨p, 0, none⟩), .int .i64 id] w fun e w' => e = .returned (.tuple #[ndV (elemT l id).1, .int .i64 (elemT l id).2]) ∧ Below w.heap.size w w' := by
  have hb := (Below.refl _ w).alloc (Nat.le_refl _) (.cells #[.int .i64 id] 3)
  have hT := h.below hn hb
  have cA := ask_any _ p nb deep l hT w.heap.size [id] (by simp) (fun j hj => by
    obtain rfl : j = 0 := by simpa using hj
    simp [go_sem])
  have hlen : [id].length = 1 := rfl
  rw [hlen] at cA
  unfold askT at cA
  cases hx : ndAt l id with
  | none =>
    have e1 : elemT l id = (none, 2) := by unfold elemT; rw [hx]
    have e2 : [id].all (hasT l) = false := by simp [hasT, hx]
    rw [e2, if_neg (by decide)] at cA
    rw [e1]
    unfold ndV
    dsimp only
    have HB := Lib.hid hb
    clear h hT hx e1 e2 hlen hn hb
    go_enter Tryd.func64, Tryd.ntmps64
    go_wp2_with (go_at_call 73; ((with_reducible refine (cA).mono ?_); rintro e w1 ⟨rfl, rfl⟩))
    go_ret2
    exact ⟨rfl, HB.out⟩
  | some x =>
    have e2 : [id].all (hasT l) = true := by simp [hasT, hx]
    rw [e2, if_pos rfl] at cA
    obtain ⟨i0, hy⟩ := ndAt_some hx
    obtain ⟨k, rfl⟩ : ∃ k : Nat, id = k := ⟨id.toNat, by omega⟩
    rw [Int.toNat_natCast] at hy
    obtain ⟨y1, y2⟩ := hT.yes _ _ hy
    have hkl : k < l.length := (List.getElem?_eq_some_iff.1 hy).1
    have c1 := hT.c1
    have d0 := y2.c0
    have hle := h.le
    by_cases ht : x.tag = 0
    · have e1 : elemT l (k : Int) = (none, 6) := by unfold elemT; rw [hx]; exact if_pos ht
      rw [e1]
      unfold ndV
      dsimp only
      rw [ht] at d0
      obtain ⟨n, hn2⟩ : ∃ n, l.length = n := ⟨_, rfl⟩
      rw [hn2] at c1 hkl hle
      have hkI : (k : Int) < (n : Int) := by omega
      have HB := Lib.hid hb
      clear h hT hx e1 e2 hlen hn hb hy ht hn2 y2
      go_enter Tryd.func64, Tryd.ntmps64
      go_wp2_with (go_at_call 73; ((with_reducible refine (cA).mono ?_); rintro e w1 ⟨rfl, rfl⟩))
      go_ret2
      exact ⟨rfl, HB.out⟩
    · have e1 : elemT l (k : Int) = (some x, 0) := by unfold elemT; rw [hx]; exact if_neg ht
      rw [e1]
      unfold ndV
      dsimp only
      have htb : (x.tag == 0) = false := by simpa using ht
      obtain ⟨n, hn2⟩ : ∃ n, l.length = n := ⟨_, rfl⟩
      rw [hn2] at c1 hkl hle
      have hkI : (k : Int) < (n : Int) := by omega
      have HB := Lib.hid hb
      clear h hT hx e1 e2 hlen hn hb hy hn2 y2
      go_enter Tryd.func64, Tryd.ntmps64
      go_wp2_with (go_at_call 73; ((with_reducible refine (cA).mono ?_); rintro e w1 ⟨rfl, rfl⟩))
      go_ret2
      exact ⟨rfl, HB.out⟩

def looseT (l : List (Option Nd)) (id : Int) : Bool := decide (id ≠ 0) && decide (upT l id = -1)
set_option maxRecDepth 20000 in
theorem loose_any (w : World) (p nb : Nat) (deep : Int) (l : List (Option Nd)) (h : TreeAt w p nb deep l) (id : Int) :
    Calls Tryd.prog 74 #[.pointer (some ⟨p, 0, none⟩), .int .i64 id] w fun e w' => e = .returned (.bool (looseT l id)) ∧ w = w' := by
  have cP := parent_any w p nb deep id l h
  unfold looseT
  obtain ⟨u, hu⟩ : ∃ u, upT l id = u := ⟨_, rfl⟩
  rw [hu] at cP ⊢
  clear h hu
  by_cases h0 : id = 0
  · subst h0
    go_enter Tryd.func74, Tryd.ntmps74
    go_wp2
    go_ret
    exact ⟨rfl, rfl⟩
  · have e0 : (id == 0) = false := by simpa using h0
    rw [decide_eq_true (show id ≠ 0 from h0), Bool.true_and]
    have e3 : (u == -1) = decide (u = -1) := rfl
    go_enter Tryd.func74, Tryd.ntmps74
    go_wp2_with (go_at_call 23; ((with_reducible refine (cP).mono ?_); rintro e w1 ⟨rfl, rfl⟩))
    go_ret
    exact ⟨rfl, rfl⟩

def takesT (x : Nd) (at_ : Int) : Bool := decide (0 ≤ at_) && decide (at_ ≤ x.kids.length)
set_option maxRecDepth 20000 in
theorem takes_any (w : World) (x : Nd) (at_ : Int) (h : NodeAt w x) :
    Calls Tryd.prog 66 #[.pointer (some ⟨x.ab, 0, none⟩), .int .i64 at_] w fun e w' => e = .returned (.bool (takesT x at_)) ∧ w = w' := by
  have c5 := h.c5
  unfold takesT
  obtain ⟨n, hn⟩ : ∃ n, x.kids.length = n := ⟨_, rfl⟩
  obtain ⟨b, hb⟩ : ∃ b, x.ab = b := ⟨_, rfl⟩
  rw [hn, hb] at c5
  rw [hn, hb]
  clear h hn hb
  by_cases h0 : 0 ≤ at_
  · rw [decide_eq_true h0, Bool.true_and]
    go_enter Tryd.func66, Tryd.ntmps66
    go_wp2
    go_ret
    exact ⟨rfl, rfl⟩
  · rw [decide_eq_false h0, Bool.false_and]
    go_enter Tryd.func66, Tryd.ntmps66
    go_wp2
    go_ret
    exact ⟨rfl, rfl⟩

end Go.Proofs.YtggjoefhopoggaaDoor
