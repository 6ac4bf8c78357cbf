/-
  What a tree tells of where its nodes stand: root, Depth, Height, fits, Live, Count.
  What makes a node: isElement, slices.Index over the nodes, own of nothing, anew, bare, New.
-/
import Derived.Test.YtggjoefhopoggaaDoorAsk
import Derived.Deep.QuietTactic
import Derived.BigQuiet
import Derived.Laws.IdiomStrings
import Derived.Laws.Cover4

namespace Go.Proofs.YtggjoefhopoggaaDoor
open Go.RowKit Go.Lib

def rootF (l : List (Option Nd)) : Nat → Int → Int
  | 0, id => id
  | n + 1, id => if upT l id = -1 then id else rootF l n (upT l id)
def endsR (l : List (Option Nd)) : Nat → Int → Bool
  | 0, id => decide (upT l id = -1)
  | n + 1, id => if upT l id = -1 then true else endsR l n (upT l id)
set_option maxRecDepth 20000 in
set_option maxHeartbeats 4000000 in
theorem root_any (w : World) (p nb : Nat) (deep : Int) (l : List (Option Nd)) (h : TreeAt w p nb deep l) (id : Int) (n : Nat) (he : endsR l n id = true) :
    Calls Tryd.prog 44 #[.pointer (some ⟨p, 0, none⟩), .int .i64 id] w fun e w' => e = .returned (.int .i64 (rootF l n id)) ∧ w = w' := by
  have cP := fun z => parent_any w p nb deep z l h
  obtain ⟨R, hR⟩ : ∃ R, rootF l n id = R := ⟨_, rfl⟩
  rw [hR]
  have H0 : Hid (endsR l n id = true ∧ rootF l n id = R) := Lib.hid ⟨he, hR⟩
  clear h he hR
  go_enter Tryd.func44, Tryd.ntmps44
  go_wp2
  go_loopg [1] n (fun gk v wx => ∃ z : Int, v = .int .i64 z ∧ Hid (endsR l gk z = true ∧ rootF l gk z = R) ∧ w = wx)
  case atStart => exact ⟨id, rfl, H0, rfl⟩
  case round =>
    obtain ⟨z, rfl, HZ, rfl⟩ := hrel
    have cZ := cP z
    obtain ⟨u, hu⟩ : ∃ u, upT l z = u := ⟨_, rfl⟩
    rw [hu] at cZ
    have HU := Lib.hid hu
    clear cP hu
    by_cases h1 : u = -1
    · subst h1
      have HF : Hid (z = R) := Lib.hid (by
        have h2 := HZ.out.2
        cases gk with
        | zero => exact h2
        | succ g => unfold rootF at h2; rw [HU.out, if_pos rfl] at h2; exact h2)
      go_wp2_with (go_at_call 23; ((with_reducible refine (cZ).mono ?_); rintro e w1 ⟨rfl, rfl⟩))
      go_ret
      have e9 := HF.out
      subst e9
      exact ⟨rfl, rfl⟩
    · have hb : (u == -1) = false := by simpa using h1
      obtain ⟨g, hg⟩ : ∃ g, gk = g + 1 := by
        cases gk with
        | zero => have h2 := HZ.out.1; unfold endsR at h2; rw [HU.out] at h2; exact absurd (of_decide_eq_true h2) h1
        | succ g => exact ⟨g, rfl⟩
      have HN : Hid (endsR l g u = true ∧ rootF l g u = R) := Lib.hid (by
        have h2 := HZ.out
        rw [hg] at h2
        unfold endsR rootF at h2
        rw [HU.out, if_neg h1, if_neg h1] at h2
        exact h2)
      go_wp2_with (first
        | (go_at_call 23; ((with_reducible refine (cZ).mono ?_); rintro e w1 ⟨rfl, rfl⟩)))
      go_roundg g
      case measure => omega
      case rel => exact ⟨u, rfl, HN, rfl⟩

def depthF (l : List (Option Nd)) : Nat → Int → Int
  | 0, _ => -1
  | n + 1, id => if hasT l id then depthF l n (upT l id) + 1 else -1
def endsD (l : List (Option Nd)) : Nat → Int → Bool
  | 0, id => !hasT l id
  | n + 1, id => if hasT l id then endsD l n (upT l id) else true
theorem depthF_le (l : List (Option Nd)) : ∀ (n : Nat) (id : Int), -1 ≤ depthF l n id ∧ depthF l n id ≤ n
  | 0, _ => by simp [depthF]
  | n + 1, id => by
    have ih := depthF_le l n (upT l id)
    unfold depthF
    split <;> omega
set_option maxRecDepth 20000 in
set_option maxHeartbeats 4000000 in
theorem depth_any (w : World) (p nb : Nat) (deep : Int) (l : List (Option Nd)) (h : TreeAt w p nb deep l) (id : Int) (n : Nat) (hn : n ≤ 100000) (he : endsD l n id = true) :
    Calls Tryd.prog 24 #[.pointer (some ⟨p, 0, none⟩), .int .i64 id] w fun e w' => e = .returned (.int .i64 (depthF l n id)) ∧ w = w' := by
  have cP := fun z => parent_any w p nb deep z l h
  have cH := fun z => has_any w p nb deep z l h
  obtain ⟨R, hR⟩ : ∃ R, depthF l n id = R := ⟨_, rfl⟩
  rw [hR]
  have H0 : Hid (endsD l n id = true ∧ (-1 : Int) + (depthF l n id + 1) = R) := Lib.hid ⟨he, by omega⟩
  clear h he hR
  go_enter Tryd.func24, Tryd.ntmps24
  go_wp2
  go_loopg [1, 5] n (fun gk v d wx => ∃ z m : Int, v = .int .i64 z ∧ d = .int .i64 m ∧ -1 ≤ m ∧ m + (gk : Int) ≤ 100000 ∧ Hid (endsD l gk z = true ∧ m + (depthF l gk z + 1) = R) ∧ w = wx)
  case atStart => exact ⟨id, -1, rfl, rfl, by omega, by omega, H0, rfl⟩
  case round =>
    obtain ⟨z, m, rfl, rfl, hm1, hm2, HZ, rfl⟩ := hrel
    have cZ := cH z
    have cU := cP z
    obtain ⟨u, hu⟩ : ∃ u, upT l z = u := ⟨_, rfl⟩
    rw [hu] at cU
    have HU := Lib.hid hu
    clear cP cH hu
    cases hh : hasT l z with
    | false =>
      rw [hh] at cZ
      have HF : Hid (m = R) := Lib.hid (by
        have h2 := HZ.out.2
        cases gk with
        | zero => unfold depthF at h2; omega
        | succ g => unfold depthF at h2; rw [hh, if_neg (by decide)] at h2; omega)
      clear hh
      go_wp2_with (go_at_call 22; ((with_reducible refine (cZ).mono ?_); rintro e w1 ⟨rfl, rfl⟩))
      go_ret
      have e9 := HF.out
      subst e9
      exact ⟨rfl, rfl⟩
    | true =>
      rw [hh] at cZ
      obtain ⟨g, hg⟩ : ∃ g, gk = g + 1 := by
        cases gk with
        | zero => have h2 := HZ.out.1; unfold endsD at h2; rw [hh] at h2; cases h2
        | succ g => exact ⟨g, rfl⟩
      have HN : Hid (endsD l g u = true ∧ (m + 1) + (depthF l g u + 1) = R) := Lib.hid (by
        have h2 := HZ.out
        rw [hg] at h2
        unfold endsD depthF at h2
        rw [hh, if_pos rfl, if_pos rfl, HU.out] at h2
        exact ⟨h2.1, by omega⟩)
      have hwk : IntKind.i64.wrap (m + 1) = m + 1 := IntWalk.i64_in _ (by omega)
      clear hh
      go_wp2_with (first
        | (go_at_call 22; ((with_reducible refine (cZ).mono ?_); rintro e w1 ⟨rfl, rfl⟩))
        | (go_at_call 23; ((with_reducible refine (cU).mono ?_); rintro e w2 ⟨rfl, rfl⟩)))
      go_roundg g
      case measure => omega
      case rel => exact ⟨u, m + 1, rfl, by first | rfl | go_num, by omega, by omega, HN, rfl⟩

def heightF (l : List (Option Nd)) : Nat → Int → Int
  | 0, _ => -1
  | n + 1, id => match ndAt l id with
    | none => -1
    | some x => x.kids.foldl (fun h k => max h (heightF l n k + 1)) 0
def endsH (l : List (Option Nd)) : Nat → Int → Prop
  | 0, id => ndAt l id = none
  | n + 1, id => ∀ x, ndAt l id = some x → ∀ k ∈ x.kids, endsH l n k
theorem fold_max (f : Int → Int) (M : Int) (hf : ∀ z, f z ≤ M) : ∀ (ks : List Int) (h0 : Int), 0 ≤ h0 → h0 ≤ M → 0 ≤ ks.foldl (fun h k => max h (f k)) h0 ∧ ks.foldl (fun h k => max h (f k)) h0 ≤ M
  | [], h0, a, b => ⟨a, b⟩
  | k :: ks, h0, a, b => fold_max f M hf ks (max h0 (f k)) (by omega) (by have := hf k; omega)
theorem heightF_le (l : List (Option Nd)) : ∀ (n : Nat) (id : Int), -1 ≤ heightF l n id ∧ heightF l n id ≤ n
  | 0, _ => by simp [heightF]
  | n + 1, id => by
    unfold heightF
    cases ndAt l id with
    | none => exact ⟨by dsimp only; omega, by dsimp only; omega⟩
    | some x =>
      have := fold_max (fun k => heightF l n k + 1) ((n : Int) + 1) (fun z => by have := (heightF_le l n z).2; omega) x.kids 0 (Int.le_refl _) (by omega)
      exact ⟨by dsimp only; omega, by dsimp only; omega⟩
set_option maxRecDepth 20000 in
set_option maxHeartbeats 8000000 in
theorem height_any (w : World) (p nb : Nat) (deep : Int) (l : List (Option Nd)) (h : TreeAt w p nb deep l) : ∀ (n : Nat) (_ : n ≤ 100000) (id : Int) (_ : endsH l n id),
    Calls Tryd.prog 75 #[.pointer (some ⟨p, 0, none⟩), .int .i64 id] w fun e w' => e = .returned (.int .i64 (heightF l n id)) ∧ w = w' := by
  intro n
  induction n with
  | zero =>
    intro hn id he
    have hx : ndAt l id = none := he
    have cN := node_any w p nb deep id l h
    rw [hx] at cN
    unfold ndV at cN
    have e1 : heightF l 0 id = -1 := rfl
    rw [e1]
    clear h hx e1 he
    go_enter Tryd.func75, Tryd.ntmps75
    go_wp2_with (go_at_call 43; ((with_reducible refine (cN).mono ?_); rintro e w1 ⟨rfl, rfl⟩))
    go_ret
    exact ⟨rfl, rfl⟩
  | succ n ih =>
    intro hn id he
    have cN := node_any w p nb deep id l h
    cases hx : ndAt l id with
    | none =>
      rw [hx] at cN
      unfold ndV at cN
      have e1 : heightF l (n + 1) id = -1 := by unfold heightF; rw [hx]
      rw [e1]
      clear h hx e1 he ih
      go_enter Tryd.func75, Tryd.ntmps75
      go_wp2_with (go_at_call 43; ((with_reducible refine (cN).mono ?_); rintro e w1 ⟨rfl, rfl⟩))
      go_ret
      exact ⟨rfl, rfl⟩
    | some x =>
      rw [hx] at cN
      unfold ndV at cN
      dsimp only at cN
      have e1 : heightF l (n + 1) id = x.kids.foldl (fun h k => max h (heightF l n k + 1)) 0 := by show (match ndAt l id with | none => -1 | some x => x.kids.foldl (fun h k => max h (heightF l n k + 1)) 0) = _; rw [hx]
      rw [e1]
      have hk := h.node hx
      have c5 := hk.c5
      have KS := Lib.hid hk.ks
      have hkl := hk.kl
      have cK : ∀ z ∈ x.kids, _ := fun z hz => ih (by omega) z (he x hx z hz)
      have CK := Lib.hid cK
      have BD : Hid (∀ j, 0 ≤ (x.kids.take j).foldl (fun h k => max h (heightF l n k + 1)) 0 ∧ (x.kids.take j).foldl (fun h k => max h (heightF l n k + 1)) 0 ≤ (n : Int) + 1) := Lib.hid (fun j => fold_max (fun k => heightF l n k + 1) ((n : Int) + 1) (fun z => by have := (heightF_le l n z).2; omega) (x.kids.take j) 0 (Int.le_refl _) (by omega))
      obtain ⟨R, hR⟩ : ∃ R, x.kids.foldl (fun h k => max h (heightF l n k + 1)) 0 = R := ⟨_, rfl⟩
      rw [hR]
      have HR := Lib.hid hR
      obtain ⟨m, hm⟩ : ∃ m, x.kids.length = m := ⟨_, rfl⟩
      rw [hm] at c5 hkl
      have HM := Lib.hid hm
      obtain ⟨b, hb⟩ : ∃ b, x.ab = b := ⟨_, rfl⟩
      rw [hb] at c5 cN
      clear h hx e1 he ih hk cK hR hm hb
      go_enter Tryd.func75, Tryd.ntmps75
      go_wp2_with (go_at_call 43; ((with_reducible refine (cN).mono ?_); rintro e w1 ⟨rfl, rfl⟩))
      go_loop [6, 8, 19] (fun t _ i => ∃ (j : Nat) (z : Int), j ≤ m ∧ i = .int .i64 j ∧ t = .int .i64 z ∧ Hid ((x.kids.take j).foldl (fun h k => max h (heightF l n k + 1)) 0 = z)) (fun _ _ i => m - (RowKit.intOf i).toNat)
      case atStart => exact ⟨0, 0, Nat.zero_le _, rfl, rfl, Lib.hid rfl⟩
      case round =>
        obtain ⟨j, z, hj, rfl, rfl, HZ⟩ := hrel
        by_cases hlt : j < m
        · have hjl : j < x.kids.length := by rw [HM.out]; exact hlt
          obtain ⟨kb, ko, ek, hkc⟩ : ∃ b o, x.ka = some ⟨b, o, none⟩ ∧ ∀ j, j < x.kids.length → w.cell? ⟨b, o + j, none⟩ = some (.int .i64 (x.kids[j]!)) := by
            rcases KS.out with h0 | h0
            · rw [h0] at hjl; simp at hjl
            · exact h0
          have hc := hkc j hjl
          have hin : x.kids[j]! ∈ x.kids := by rw [List.getElem!_eq_getElem?_getD, List.getElem?_eq_getElem hjl]; exact List.getElem_mem hjl
          have hnx : x.kids.take (j + 1) = x.kids.take j ++ [x.kids[j]!] := by rw [List.getElem!_eq_getElem?_getD, List.getElem?_eq_getElem hjl, List.take_add_one, List.getElem?_eq_getElem hjl]; rfl
          have cZ := CK.out _ hin
          obtain ⟨y, hy⟩ : ∃ y, x.kids[j]! = y := ⟨_, rfl⟩
          rw [hy] at hc hnx cZ
          have hle := heightF_le l n y
          obtain ⟨q, hq⟩ : ∃ q, heightF l n y = q := ⟨_, rfl⟩
          rw [hq] at cZ hle
          have HN : Hid ((x.kids.take (j + 1)).foldl (fun h k => max h (heightF l n k + 1)) 0 = max z (q + 1)) := Lib.hid (by rw [hnx, List.foldl_append, HZ.out, ← hq]; rfl)
          have hwk : IntKind.i64.wrap (q + 1) = q + 1 := IntWalk.i64_in _ (by omega)
          have hjI : (j : Int) < (m : Int) := by omega
          rw [ek] at c5
          have hm20 : m ≤ 2000 := hkl
          clear hin hnx hy hq hkc hjl
          obtain ⟨M, hM⟩ : ∃ M, max z (q + 1) = M := ⟨_, rfl⟩
          have HN2 : Hid ((x.kids.take (j + 1)).foldl (fun h k => max h (heightF l n k + 1)) 0 = M) := Lib.hid (by rw [HN.out]; exact hM)
          clear hle HN
          go_wp2_with (go_at_call 75; ((with_reducible refine (cZ).mono ?_); rintro e w2 ⟨rfl, rfl⟩))
          · go_round
            case rel => exact ⟨_, _, _, ⟨j + 1, hlt, by go_num, M, by first | rfl | (congr 1; omega), HN2⟩, by first | rfl | (congr 1; omega), rfl, rfl⟩
            case measure => simp [RowKit.intOf]; omega
          · go_round
            case rel => exact ⟨_, _, _, ⟨j + 1, hlt, by go_num, M, by first | rfl | (congr 1; omega), HN2⟩, by first | rfl | (congr 1; omega), rfl, rfl⟩
            case measure => simp [RowKit.intOf]; omega
        · have hjm : j = m := by omega
          subst hjm
          have HF : Hid (z = R) := Lib.hid (by rw [← HZ.out, ← HR.out, List.take_of_length_le (by rw [HM.out]; omega)])
          clear HZ
          go_wp2
          go_ret
          have e9 := HF.out
          subst e9
          exact ⟨rfl, rfl⟩

theorem bdraws (w : World) : ∀ n : Nat, Below w.heap.size w (w.drewN n)
  | 0 => Below.refl _ _
  | n + 1 => (bdraws w n).drew
set_option maxRecDepth 20000 in
set_option maxHeartbeats 4000000 in
theorem fits_any (w : World) (p nb : Nat) (deep : Int) (l : List (Option Nd)) (h : TreeAt w p nb deep l) (hnb : nb < w.heap.size) (id z : Int) (n : Nat) (hn : n ≤ 100000) (hz : -1 ≤ z ∧ z ≤ 100000) (he : endsD l n id = true) :
    Calls Tryd.prog 67 #[.pointer (some ⟨p, 0, none⟩), .int .i64 id, .int .i64 z] w fun e w' => e = .returned (.bool (decide (depthF l n id + 1 + z ≤ deep))) ∧ Below w.heap.size w w' := by
  have cD : ∀ m, Calls Tryd.prog 24 #[.pointer (some ⟨p, 0, none⟩), .int .i64 id] (w.drewN m) fun e w' => e = .returned (.int .i64 (depthF l n id)) ∧ w' = w.drewN m := fun m => (depth_any _ p nb deep l (h.below hnb (bdraws w m)) id n hn he).mono (by rintro e w' ⟨rfl, rfl⟩; exact ⟨rfl, rfl⟩)
  have hd := depthF_le l n id
  have c2 := h.c2
  obtain ⟨d, hd1⟩ : ∃ d, depthF l n id = d := ⟨_, rfl⟩
  rw [hd1] at cD hd ⊢
  have hw1 : IntKind.i64.wrap (d + 1) = d + 1 := IntWalk.i64_in _ (by omega)
  have hw2 : IntKind.i64.wrap (d + 1 + z) = d + 1 + z := IntWalk.i64_in _ (by omega)
  have HB : Hid (∀ m, Below w.heap.size w (w.drewN m)) := Lib.hid (bdraws w)
  clear h hd1 he hd
  go_enter Tryd.func67, Tryd.ntmps67
  go_wp2
  go_quiet ((go_at_call 24; exact Calls.quiet_of_same (cD _)))
  go_wp2
  go_ret
  exact ⟨rfl, HB.out _⟩

def liveT (l : List (Option Nd)) (n : Nat) (id : Int) : Bool := hasT l id && decide (rootF l n id = 0)
set_option maxRecDepth 20000 in
theorem live_any (w : World) (p nb : Nat) (deep : Int) (l : List (Option Nd)) (h : TreeAt w p nb deep l) (id : Int) (n : Nat) (he : endsR l n id = true) :
    Calls Tryd.prog 25 #[.pointer (some ⟨p, 0, none⟩), .int .i64 id] w fun e w' => e = .returned (.bool (liveT l n id)) ∧ w = w' := by
  have cH := has_any w p nb deep id l h
  have cR := root_any w p nb deep l h id n he
  unfold liveT
  obtain ⟨r, hr⟩ : ∃ r, rootF l n id = r := ⟨_, rfl⟩
  rw [hr] at cR ⊢
  clear h hr he
  cases hh : hasT l id with
  | false =>
    rw [hh] at cH
    clear hh
    go_enter Tryd.func25, Tryd.ntmps25
    go_wp2_with (go_at_call 22; ((with_reducible refine (cH).mono ?_); rintro e w1 ⟨rfl, rfl⟩))
    go_ret
    exact ⟨rfl, rfl⟩
  | true =>
    rw [hh] at cH
    clear hh
    rw [Bool.true_and]
    have e3 : (r == 0) = decide (r = 0) := rfl
    go_enter Tryd.func25, Tryd.ntmps25
    go_wp2_with (first
      | (go_at_call 22; ((with_reducible refine (cH).mono ?_); rintro e w1 ⟨rfl, rfl⟩))
      | (go_at_call 44; ((with_reducible refine (cR).mono ?_); rintro e w2 ⟨rfl, rfl⟩)))
    go_ret
    exact ⟨rfl, rfl⟩

def countF (l : List (Option Nd)) : Nat := (l.filter (·.isSome)).length
set_option maxRecDepth 20000 in
set_option maxHeartbeats 4000000 in
theorem count_any (w : World) (p nb : Nat) (deep : Int) (l : List (Option Nd)) (h : TreeAt w p nb deep l) :
    Calls Tryd.prog 28 #[.pointer (some ⟨p, 0, none⟩)] w fun e w' => e = .returned (.int .i64 (countF l : Int)) ∧ w = w' := by
  have cI := is_any w p nb deep l h
  have cH := fun z => has_any w p nb deep z l h
  have c1 := h.c1
  have hle := h.le
  obtain ⟨R, hR⟩ : ∃ R, countF l = R := ⟨_, rfl⟩
  rw [hR]
  have HR := Lib.hid hR
  obtain ⟨n, hn⟩ : ∃ n, l.length = n := ⟨_, rfl⟩
  rw [hn] at c1 hle
  have HN := Lib.hid hn
  clear h hR hn
  go_enter Tryd.func28, Tryd.ntmps28
  go_wp2_with (go_at_call 47; ((with_reducible refine (cI).mono ?_); rintro e w1 ⟨rfl, rfl⟩))
  go_loop [3, 4, 13] (fun t _ i => ∃ k c : Nat, k ≤ n ∧ c ≤ k ∧ i = .int .i64 k ∧ t = .int .i64 c ∧ Hid (countF (l.take k) = c)) (fun _ _ i => n - (RowKit.intOf i).toNat)
  case atStart => exact ⟨0, 0, Nat.zero_le _, Nat.le_refl _, rfl, rfl, Lib.hid rfl⟩
  case round =>
    obtain ⟨k, c, hk, hc, rfl, rfl, HC⟩ := hrel
    by_cases hlt : k < n
    · have hkl : k < l.length := by rw [HN.out]; exact hlt
      have cZ := cH (k : Int)
      have e0 : ndAt l (k : Int) = l[k]! := by
        unfold ndAt
        rw [if_pos (by omega), Int.toNat_natCast, List.getElem!_eq_getElem?_getD, List.getElem?_eq_getElem hkl]; rfl
      have hnx : countF (l.take (k + 1)) = c + (if (l[k]!).isSome then 1 else 0) := by
        rw [← HC.out]
        unfold countF
        rw [List.take_add_one, List.filter_append, List.length_append, List.getElem!_eq_getElem?_getD, List.getElem?_eq_getElem hkl]
        cases hy : l[k] with
        | none => simp
        | some y => simp
      unfold hasT at cZ
      rw [e0] at cZ
      obtain ⟨y, hy⟩ : ∃ y, (l[k]!).isSome = y := ⟨_, rfl⟩
      rw [hy] at cZ hnx
      have HX := Lib.hid hnx
      have hkI : (k : Int) < (n : Int) := by omega
      clear hnx e0 hy hkl cH
      cases y with
      | true =>
        go_wp2_with (go_at_call 22; ((with_reducible refine (cZ).mono ?_); rintro e w2 ⟨rfl, rfl⟩))
        go_round
        case rel => exact ⟨k + 1, c + 1, hlt, by omega, by go_num, by go_num, HX⟩
        case measure => simp [RowKit.intOf]; omega
      | false =>
        go_wp2_with (go_at_call 22; ((with_reducible refine (cZ).mono ?_); rintro e w2 ⟨rfl, rfl⟩))
        go_round
        case rel => exact ⟨k + 1, c, hlt, by omega, by go_num, by go_num, HX⟩
        case measure => simp [RowKit.intOf]; omega
    · have hkn : k = n := by omega
      subst hkn
      have HF : Hid (c = R) := Lib.hid (by rw [← HC.out, ← HR.out, List.take_of_length_le (by rw [HN.out]; omega)])
      clear HC
      go_wp2
      go_ret
      have e9 := HF.out
      subst e9
      exact ⟨rfl, rfl⟩

end Go.Proofs.YtggjoefhopoggaaDoor

namespace Go.Proofs.YtggjoefhopoggaaDoor
open Go.RowKit Go.Lib

theorem isel_any (t : Int) (w : World) (hT : OwnT w) :
    Calls Tryd.prog 79 #[.int .i64 t] w fun e w' => e = .returned (.bool (!(nameOf t).toList.isEmpty)) ∧ w = w' := by
  have cN := name_any t w hT
  obtain ⟨s, hs⟩ : ∃ s, nameOf t = s := ⟨_, rfl⟩
  rw [hs] at cN ⊢
  clear hs hT
  go_enter Tryd.func79, Tryd.ntmps79
  go_wp2_with (go_at_call 87; ((with_reducible refine (cN).mono ?_); rintro e w1 ⟨rfl, rfl⟩))
  go_ret
  exact ⟨rfl, rfl⟩

/-- The first number that no node has; -1: none. -/
def ixN : List (Option Nd) → Nat → Int
  | [], _ => -1
  | none :: _, i => i
  | some _ :: l, i => ixN l (i + 1)
set_option maxRecDepth 20000 in
set_option maxHeartbeats 4000000 in
theorem ix_any (w : World) (p nb : Nat) (deep : Int) (l : List (Option Nd)) (h : TreeAt w p nb deep l) :
    Calls Tryd.prog 85 #[.slice (some ⟨nb, 0, none⟩) l.length l.length, .pointer none] w fun e w' => e = .returned (.int .i64 (ixN l 0)) ∧ w = w' := by
  have hle := h.le
  have hq := fun a => eqNilNode a w
  obtain ⟨R, hR⟩ : ∃ R, ixN l 0 = R := ⟨_, rfl⟩
  rw [hR]
  have H0 : Hid (ixN (l.drop 0) 0 = R) := Lib.hid hR
  have HT := Lib.hid h
  obtain ⟨n, hn⟩ : ∃ n, l.length = n := ⟨_, rfl⟩
  rw [hn] at hle ⊢
  have HN := Lib.hid hn
  clear h hR hn
  go_enter Tryd.func85, Tryd.ntmps85
  go_wp2
  go_loop [5, 8] (fun _ i => ∃ k : Nat, k ≤ n ∧ i = .int .i64 k ∧ Hid (ixN (l.drop k) k = R)) (fun _ i => n - (RowKit.intOf i).toNat)
  case atStart => exact ⟨0, Nat.zero_le _, rfl, H0⟩
  case round =>
    obtain ⟨k, hk, rfl, HC⟩ := hrel
    by_cases hlt : k < n
    · have hkl : k < l.length := by rw [HN.out]; exact hlt
      have hd : l.drop k = l[k] :: l.drop (k + 1) := List.drop_eq_getElem_cons hkl
      have hkI : (k : Int) < (n : Int) := by omega
      cases hy : l[k] with
      | none =>
        have hc := HT.out.no k (by rw [List.getElem?_eq_getElem hkl, hy])
        have HF : Hid ((k : Int) = R) := Lib.hid (by have h2 := HC.out; rw [hd, hy] at h2; exact h2)
        have hq1 := hq none
        clear hy hd hkl hq
        go_wp2
        go_ret
        have e9 := HF.out
        subst e9
        exact ⟨rfl, rfl⟩
      | some y =>
        have hc := (HT.out.yes k y (by rw [List.getElem?_eq_getElem hkl, hy])).1
        have HX : Hid (ixN (l.drop (k + 1)) (k + 1) = R) := Lib.hid (by have h2 := HC.out; rw [hd, hy] at h2; exact h2)
        have hq1 := hq (some ⟨y.ab, 0, none⟩)
        clear hy hd hkl hq
        go_wp2
        go_round
        case rel => exact ⟨k + 1, hlt, by go_num, HX⟩
        case measure => simp [RowKit.intOf]; omega
    · have hkn : k = n := by omega
      subst hkn
      have HF : Hid (R = -1) := Lib.hid (by have h2 := HC.out; rw [List.drop_of_length_le (by rw [HN.out]; omega)] at h2; exact h2.symm)
      clear HC
      go_wp2
      go_ret
      have e9 := HF.out
      subst e9
      exact ⟨rfl, rfl⟩

set_option maxRecDepth 20000 in
theorem own_nil (w : World) : Calls Tryd.prog 78 #[.slice none 0 0] w fun e w' => e = .returned (.slice none 0 0) ∧ w = w' := by
  go_enter Tryd.func78, Tryd.ntmps78
  go_wp2
  go_loop [3, 8] (fun v i => v = .slice none 0 0 ∧ i = .int .i64 0) (fun _ _ => 0)
  case atStart => exact ⟨rfl, rfl⟩
  case round =>
    obtain ⟨rfl, rfl⟩ := hrel
    go_wp2
    go_ret
    exact ⟨rfl, rfl⟩

/-! ### anew -/
def runesI (s : ByteArray) : Nat → Nat → List Int
  | 0, _ => []
  | b + 1, i => if i < s.size then Int.ofNat (Utf8.decode s i).1 :: runesI s b (i + (Utf8.decode s i).2) else []
theorem runesFrom_eq (s : ByteArray) : ∀ (b i : Nat) (acc : Array Value), Conv.runesFrom s b i acc = acc ++ ((runesI s b i).map (Value.int .i32)).toArray
  | 0, _, acc => by simp [Conv.runesFrom, runesI]
  | b + 1, i, acc => by
    unfold Conv.runesFrom runesI
    split
    · dsimp only
      rw [runesFrom_eq s b _ _]
      simp
    · simp
theorem runesI_len (s : ByteArray) : ∀ (b i : Nat), (runesI s b i).length ≤ b
  | 0, _ => Nat.le_refl _
  | b + 1, i => by
    unfold runesI
    split
    · have := runesI_len s b (i + (Utf8.decode s i).2)
      simp only [List.length_cons]; omega
    · exact Nat.zero_le _
/-- A text, written anew. -/
def anewS (s : ByteArray) : ByteArray := runesBytes (runesI s s.size 0)
set_option maxRecDepth 20000 in
set_option maxHeartbeats 4000000 in
theorem anew_any (s : ByteArray) (w : World) :
    Calls Tryd.prog 71 #[.string s] w fun e w' => e = .returned (.tuple (if s.size ≤ 8192 then #[.string (anewS s), .bool (decide ((anewS s).size ≤ 8192))] else #[.string ⟨#[]⟩, .bool false])) ∧ Below w.heap.size w w' := by
  by_cases h : s.size ≤ 8192
  · rw [if_pos h]
    have hL := runesI_len s s.size 0
    have hR := runesFrom_eq s s.size 0 #[]
    rw [Array.empty_append] at hR
    have h1 := run_runes_of_string (P := Tryd.prog) w 9 113 21 s Tryd.underlying9 Tryd.underlying113 Tryd.underlying21 (by rw [hR]; simp; omega)
    have hcap := grownCap_ge w (Conv.runesFrom s s.size 0 #[]).size 0 21
    rw [hR] at h1 hcap
    have hz : ((runesI s s.size 0).map (Value.int .i32)).toArray.size = (runesI s s.size 0).length := by simp
    rw [hz] at h1 hcap
    obtain ⟨C, hC⟩ : ∃ C, runesI s s.size 0 = C := ⟨_, rfl⟩
    rw [hC] at h1 hcap hL
    obtain ⟨cp, hcp⟩ : ∃ cp, grownCap w C.length 0 21 = cp := ⟨_, rfl⟩
    rw [hcp] at h1 hcap
    obtain ⟨o, ho⟩ : ∃ o, Obj.cells ((C.map (Value.int .i32)).toArray ++ Array.replicate (cp - C.length) (.int .i32 0)) 21 = o := ⟨_, rfl⟩
    rw [ho] at h1
    have h2 := run_convert_runes (P := Tryd.prog) (w.drew.alloc o) 113 9 21 ⟨w.heap.size, 0, none⟩ C.length cp C (Nat.le_refl _) Tryd.underlying113 Tryd.underlying21 Tryd.underlying9 (fun j hj => by
      rw [← ho, Addr.add_lit, Nat.zero_add]
      have := World.cell?_alloc_mark w.drew ((C.map (Value.int .i32)).toArray ++ Array.replicate (cp - C.length) (.int .i32 0)) 21 (0, 0) j
      refine Eq.trans this ?_
      rw [Array.getElem?_append_left (by simpa using hj)]
      simp [List.getD_eq_getElem?_getD, List.getElem?_eq_getElem hj])
    rw [List.take_of_length_le (Nat.le_refl _)] at h2
    have hS : anewS s = runesBytes C := by unfold anewS; rw [hC]
    rw [hS]
    obtain ⟨S, hS2⟩ : ∃ S, runesBytes C = S := ⟨_, rfl⟩
    rw [hS2] at h2 ⊢
    have h3 : (convert 113 9 (.slice (some ⟨w.heap.size, 0, none⟩) C.length cp)).run Tryd.prog (w.alloc o).drew = .ok (.string S) (w.alloc o).drew := h2
    have hSz := runesBytes_size_le C
    rw [hS2] at hSz
    have hI : (s.size : Int) ≤ 8192 := by omega
    have HB : Hid (Below w.heap.size w (w.drew.alloc o)) := Lib.hid ((Below.refl _ w).drew.alloc (Nat.le_refl _) o)
    have hb : ((S.size : Int) ≤ 8192) = (S.size ≤ 8192) := by simp; omega
    clear hR hz hC hcp ho hS hS2 hcap h2
    go_enter Tryd.func71, Tryd.ntmps71
    go_wp2
    go_ret2
    exact ⟨rfl, HB.out⟩
  · rw [if_neg h]
    have hI : 8192 < (s.size : Int) := by omega
    go_enter Tryd.func71, Tryd.ntmps71
    go_wp2
    go_ret2
    exact ⟨rfl, Below.refl _ _⟩

end Go.Proofs.YtggjoefhopoggaaDoor
