/-
  Rows of ints compared; last, Prev; Find.
-/
import Derived.Test.YtggjoefhopoggaaDoorCPath

namespace Go.Proofs.YtggjoefhopoggaaDoor
open Go.RowKit Go.Lib

/-! ### slices.Compare -/
def cmpZ (x y : Int) : Int := if x < y then -1 else if y < x then 1 else 0
set_option maxRecDepth 20000 in
theorem nan_any (x : Int) (w : World) : Calls Tryd.prog 70 #[.int .i64 x] w fun e w' => e = .returned (.bool false) ∧ w = w' := by
  go_enter Tryd.func70, Tryd.ntmps70
  go_wp2
  go_ret
  exact ⟨rfl, rfl⟩
set_option maxRecDepth 20000 in
theorem cmpZ_any (x y : Int) (w : World) : Calls Tryd.prog 48 #[.int .i64 x, .int .i64 y] w fun e w' => e = .returned (.int .i64 (cmpZ x y)) ∧ w = w' := by
  have cN := fun x => nan_any x w
  unfold cmpZ
  by_cases h1 : x < y
  · rw [if_pos h1]
    go_enter Tryd.func48, Tryd.ntmps48
    go_wp2_with (go_at_call 70; ((with_reducible refine (cN _).mono ?_); rintro e w1 ⟨rfl, rfl⟩))
    go_ret
    exact ⟨rfl, rfl⟩
  · rw [if_neg h1]
    by_cases h2 : y < x
    · rw [if_pos h2]
      go_enter Tryd.func48, Tryd.ntmps48
      go_wp2_with (go_at_call 70; ((with_reducible refine (cN _).mono ?_); rintro e w1 ⟨rfl, rfl⟩))
      go_ret
      exact ⟨rfl, rfl⟩
    · rw [if_neg h2]
      go_enter Tryd.func48, Tryd.ntmps48
      go_wp2_with (go_at_call 70; ((with_reducible refine (cN _).mono ?_); rintro e w1 ⟨rfl, rfl⟩))
      go_ret
      exact ⟨rfl, rfl⟩
def lexZ : List Int → List Int → Int
  | [], [] => 0
  | [], _ :: _ => -1
  | _ :: _, [] => 1
  | x :: xs, y :: ys => if cmpZ x y = 0 then lexZ xs ys else cmpZ x y
set_option maxRecDepth 20000 in
set_option maxHeartbeats 4000000 in
theorem lexZ_any (w : World) (s1 s2 : List Int) (a1 a2 : Option Addr) (c1 c2 : Nat) (h1 : KidsAt w a1 s1) (h2 : KidsAt w a2 s2) (l1 : s1.length ≤ 100000) (_l2 : s2.length ≤ 100000) :
    Calls Tryd.prog 30 #[.slice a1 s1.length c1, .slice a2 s2.length c2] w fun e w' => e = .returned (.int .i64 (lexZ s1 s2)) ∧ w = w' := by
  have cC := fun x y => cmpZ_any x y w
  obtain ⟨R, hR⟩ : ∃ R, lexZ s1 s2 = R := ⟨_, rfl⟩
  rw [hR]
  have H0 : Hid (lexZ (s1.drop 0) (s2.drop 0) = R) := Lib.hid hR
  have H1 := Lib.hid h1
  have H2 := Lib.hid h2
  obtain ⟨m, hm⟩ : ∃ m, s1.length = m := ⟨_, rfl⟩
  obtain ⟨n, hn⟩ : ∃ n, s2.length = n := ⟨_, rfl⟩
  rw [hm] at l1 ⊢
  rw [hn] at _l2 ⊢
  have HM := Lib.hid hm
  have HN := Lib.hid hn
  clear h1 h2 hR hm hn
  go_enter Tryd.func30, Tryd.ntmps30
  go_wp2
  go_loop [11] (fun i => ∃ k : Nat, k ≤ m ∧ k ≤ n ∧ i = .int .i64 k ∧ Hid (lexZ (s1.drop k) (s2.drop k) = R)) (fun i => m - (RowKit.intOf i).toNat)
  case atStart => exact ⟨0, Nat.zero_le _, Nat.zero_le _, rfl, H0⟩
  case round =>
    obtain ⟨k, hk1, hk2, rfl, HC⟩ := hrel
    by_cases hlt : k < m
    · have hl1 : k < s1.length := by rw [HM.out]; exact hlt
      have d1 : s1.drop k = s1[k]! :: s1.drop (k + 1) := by
        rw [List.getElem!_eq_getElem?_getD, List.getElem?_eq_getElem hl1]
        exact List.drop_eq_getElem_cons hl1
      obtain ⟨b1, o1, rfl, e1⟩ := kids_at H1.out hl1
      have hkI : (k : Int) < (m : Int) := by omega
      by_cases hlt2 : k < n
      · have hl2 : k < s2.length := by rw [HN.out]; exact hlt2
        have d2 : s2.drop k = s2[k]! :: s2.drop (k + 1) := by
          rw [List.getElem!_eq_getElem?_getD, List.getElem?_eq_getElem hl2]
          exact List.drop_eq_getElem_cons hl2
        obtain ⟨b2, o2, rfl, e2⟩ := kids_at H2.out hl2
        have hkI2 : ¬ (n : Int) ≤ (k : Int) := by omega
        have hh := HC.out
        rw [d1, d2] at hh
        obtain ⟨x, hx⟩ : ∃ x, s1[k]! = x := ⟨_, rfl⟩
        obtain ⟨y, hy⟩ : ∃ y, s2[k]! = y := ⟨_, rfl⟩
        rw [hx] at e1 hh
        rw [hy] at e2 hh
        unfold lexZ at hh
        have cD := cC x y
        obtain ⟨z, hz⟩ : ∃ z, cmpZ x y = z := ⟨_, rfl⟩
        rw [hz] at hh cD
        clear hx hy d1 d2 hl1 hl2 hz HC
        by_cases hz0 : z = 0
        · rw [if_pos hz0] at hh
          subst hz0
          have HH := Lib.hid hh
          clear hh
          go_wp2_with (go_at_call 48; ((with_reducible refine (cD).mono ?_); rintro e w1 ⟨rfl, rfl⟩))
          go_round
          case rel => exact ⟨k + 1, hlt, hlt2, by go_num, HH⟩
          case measure => simp [RowKit.intOf]; omega
        · rw [if_neg hz0] at hh
          have hzb : (z == 0) = false := by simpa using hz0
          have HH := Lib.hid hh
          clear hh hz0
          go_wp2_with (go_at_call 48; ((with_reducible refine (cD).mono ?_); rintro e w1 ⟨rfl, rfl⟩))
          go_ret
          have e9 := HH.out
          subst e9
          exact ⟨rfl, rfl⟩
      · have hkn : k = n := by omega
        have hge : (n : Int) ≤ (k : Int) := by omega
        have d2 : s2.drop k = [] := List.drop_of_length_le (by rw [HN.out]; omega)
        have hh := HC.out
        rw [d1, d2] at hh
        unfold lexZ at hh
        have HH := Lib.hid hh
        clear hh d1 d2 HC hkn
        go_wp2
        go_ret
        have e9 := HH.out
        subst e9
        exact ⟨rfl, rfl⟩
    · have hkm : k = m := by omega
      subst hkm
      have d1 : s1.drop k = [] := List.drop_of_length_le (by rw [HM.out]; omega)
      have hh := HC.out
      rw [d1] at hh
      by_cases hlt2 : k < n
      · have hl2 : k < s2.length := by rw [HN.out]; exact hlt2
        have d2 : s2.drop k = s2[k]! :: s2.drop (k + 1) := by
          rw [List.getElem!_eq_getElem?_getD, List.getElem?_eq_getElem hl2]
          exact List.drop_eq_getElem_cons hl2
        rw [d2] at hh
        unfold lexZ at hh
        have hkI2 : (k : Int) < (n : Int) := by omega
        have HH := Lib.hid hh
        clear hh d1 d2 HC
        go_wp2
        go_ret
        have e9 := HH.out
        subst e9
        exact ⟨rfl, rfl⟩
      · have d2 : s2.drop k = [] := List.drop_of_length_le (by rw [HN.out]; omega)
        rw [d2] at hh
        unfold lexZ at hh
        have hkI2 : ¬ (k : Int) < (n : Int) := by omega
        have HH := Lib.hid hh
        clear hh d1 d2 HC
        go_wp2
        go_ret
        have e9 := HH.out
        subst e9
        exact ⟨rfl, rfl⟩

/-! ### last, Prev -/
def lastS (L : Sk) : Nat → Int → Int
  | 0, id => id
  | n + 1, id => match (kidsS L id).getLast? with
    | none => id
    | some k => lastS L n k
theorem kids_has {L : Sk} {id : Int} (h : hasS L id = false) : kidsS L id = [] := by
  unfold hasS at h
  unfold kidsS
  cases e : ndS L id with
  | none => rfl
  | some x => rw [e] at h; cases h
set_option maxRecDepth 20000 in
set_option maxHeartbeats 4000000 in
theorem last_v {w : World} {a : Option Addr} {L : Sk} (h : Tv w (.pointer a) L) (id : Int) (n : Nat) (he : endsK L n id) :
    Calls Tryd.prog 35 #[.pointer a, .int .i64 id] w fun e w' => e = .returned (.int .i64 (lastS L n id)) ∧ Below w.heap.size w w' := by
  obtain ⟨R, hR⟩ : ∃ R, lastS L n id = R := ⟨_, rfl⟩
  rw [hR]
  have H0 : Hid (lastS L n id = R) := Lib.hid hR
  have HE := Lib.hid he
  have H := Lib.hid h
  clear h he hR
  go_enter Tryd.func35, Tryd.ntmps35
  go_wp2
  go_loopg [1] n (fun gk s1 wx => ∃ k : Int, s1 = .int .i64 k ∧ Hid (lastS L gk k = R) ∧ Hid (endsK L gk k) ∧ Below w.heap.size w wx)
  case atStart => exact ⟨id, rfl, H0, HE, Below.refl _ _⟩
  case round =>
    obtain ⟨k, rfl, HC, HK, hb⟩ := hrel
    have hT := H.out.below hb
    have cK := kids_v hT k
    have hkl := hT.len.2 k
    have hl := HC.out
    have hk := HK.out
    by_cases h0 : kidsS L k = []
    · have e1 : lastS L gk k = k := by cases gk <;> simp [lastS, h0]
      rw [e1] at hl
      have HL := Lib.hid hl
      rw [h0] at cK
      clear hl hk hkl h0 e1 HC HK hT
      go_wp2_with (go_at_call 32; ((with_reducible refine (cK).mono ?_); rintro e w1 hO; obtain ⟨ka, kc, rfl, _, _, hb1⟩ := hO.open))
      go_ret
      exact ⟨by rw [← HL.out]; rfl, hb.trans (hb1.mono hb.size)⟩
    · have hh : hasS L k = true := by
        cases hh : hasS L k with
        | true => rfl
        | false => exact absurd (kids_has hh) h0
      obtain ⟨g, rfl⟩ : ∃ g, gk = g + 1 := by
        cases gk with
        | zero => unfold endsK at hk; rw [hh] at hk; cases hk
        | succ g => exact ⟨g, rfl⟩
      unfold endsK at hk
      replace hk := hk hh
      unfold lastS at hl
      obtain ⟨ks, hks⟩ : ∃ ks, kidsS L k = ks := ⟨_, rfl⟩
      rw [hks] at cK hkl hl hk h0
      obtain ⟨m, hm⟩ : ∃ m, ks.length = m + 1 := ⟨ks.length - 1, by have := List.length_pos_iff.2 h0; omega⟩
      have hml : m < ks.length := by omega
      have e1 : ks.getLast? = some (ks[m]!) := by
        rw [List.getLast?_eq_getElem?, hm, Nat.add_sub_cancel, List.getElem!_eq_getElem?_getD, List.getElem?_eq_getElem hml]
        rfl
      rw [e1] at hl
      have hmem : ks[m]! ∈ ks := by rw [List.getElem!_eq_getElem?_getD, List.getElem?_eq_getElem hml]; exact List.getElem_mem _
      obtain ⟨z, hz⟩ : ∃ z, ks[m]! = z := ⟨_, rfl⟩
      rw [hz] at hl hmem
      have HZ := Lib.hid hz
      have HK2 := Lib.hid (hk _ hmem)
      have HL := Lib.hid hl
      have HML := Lib.hid hml
      have hmI : wrap64 (m : Int) = (m : Int) := by unfold wrap64; omega
      have HM := Lib.hid hm
      have hne : ((m : Int) + 1 == 0) = false := by simp; omega
      clear hl hk hm h0 e1 hmem hks hml hh HC HK hT hz
      go_wp2_with (go_at_call 32; ((with_reducible refine (cK).mono ?_); rintro e w1 hO; obtain ⟨ka, kc, rfl, hka, _, hb1⟩ := hO.open; obtain ⟨b, o, rfl, hc⟩ := kids_at hka HML.out; rw [HZ.out] at hc; rw [HM.out]; clear hO hka))
      go_roundg g
      case measure => omega
      case rel => exact ⟨_, rfl, HL, HK2, hb.trans (hb1.mono hb.size)⟩

def prevS (L : Sk) (n : Nat) (id : Int) : Int := if indexS L id < 1 then upS L id else lastS L n ((kidsS L (upS L id))[(indexS L id - 1).toNat]!)
theorem indexS_lt (L : Sk) (x : Int) : indexS L x < ((kidsS L (upS L x)).length : Int) := by
  unfold indexS kidsS
  split
  · rename_i h; rw [h]; simp
  · rename_i y hy
    have h1 := (ixZ_ge x y.kids 0).2
    rw [hy]
    simpa using h1
set_option maxRecDepth 20000 in
set_option maxHeartbeats 4000000 in
theorem prev_v {w : World} {a : Option Addr} {L : Sk} (h : Tv w (.pointer a) L) (id : Int) (n : Nat) (he : ∀ k ∈ kidsS L (upS L id), endsK L n k) :
    Calls Tryd.prog 13 #[.pointer a, .int .i64 id] w fun e w' => e = .returned (.int .i64 (prevS L n id)) ∧ Below w.heap.size w w' := by
  have cP := parent_v h id
  have cI := index_v h id
  have cK := kids_v h (upS L id)
  have cL := fun k (hk : k ∈ kidsS L (upS L id)) W (hb : Below w.heap.size w W) => last_v (h.below hb) k n (he k hk)
  have h1 := indexS_ge L id
  have h2 := indexS_lt L id
  have hkl := h.len.2 (upS L id)
  unfold prevS
  obtain ⟨i, hi⟩ : ∃ i, indexS L id = i := ⟨_, rfl⟩
  obtain ⟨u, hu⟩ : ∃ u, upS L id = u := ⟨_, rfl⟩
  rw [hi] at cI h1 h2 ⊢
  rw [hu] at cP cK cL h2 hkl ⊢
  obtain ⟨ks, hks⟩ : ∃ ks, kidsS L u = ks := ⟨_, rfl⟩
  rw [hks] at cK cL h2 hkl ⊢
  by_cases hlt : i < 1
  · rw [if_pos hlt]
    clear h he hks hu hi cK cL h1 h2 hkl
    go_enter Tryd.func13, Tryd.ntmps13
    go_wp2_with (first
      | (go_at_call 23; ((with_reducible refine (cP).mono ?_); rintro e w1 ⟨rfl, rfl⟩))
      | (go_at_call 34; ((with_reducible refine (cI).mono ?_); rintro e w1 ⟨rfl, rfl⟩)))
    go_ret
    exact ⟨rfl, Below.refl _ _⟩
  · rw [if_neg hlt]
    obtain ⟨j, hj⟩ : ∃ j : Nat, i - 1 = (j : Int) := ⟨(i - 1).toNat, by omega⟩
    rw [hj, Int.toNat_natCast]
    have hjl : j < ks.length := by omega
    have hmem : ks[j]! ∈ ks := by rw [List.getElem!_eq_getElem?_getD, List.getElem?_eq_getElem hjl]; exact List.getElem_mem _
    have cLL := cL _ hmem
    obtain rfl : i = (j : Int) + 1 := by omega
    obtain ⟨z, hz⟩ : ∃ z, ks[j]! = z := ⟨_, rfl⟩
    rw [hz] at cLL ⊢
    have HZ := Lib.hid hz
    obtain ⟨R, hR⟩ : ∃ R, lastS L n z = R := ⟨_, rfl⟩
    rw [hR] at cLL ⊢
    have HJL := Lib.hid hjl
    have hjI : (j : Int) < (ks.length : Int) := by omega
    have hmI : wrap64 (j : Int) = (j : Int) := by unfold wrap64; omega
    have hn1 : ¬ (j : Int) + 1 < 1 := by omega
    obtain ⟨m, hm⟩ : ∃ m, ks.length = m := ⟨_, rfl⟩
    rw [hm] at hjI hkl
    have HM := Lib.hid hm
    have CLL := Lib.hid cLL
    clear h he hks hu hi cL h1 h2 hmem hz hR hjl hlt hj hm cLL
    go_enter Tryd.func13, Tryd.ntmps13
    go_wp2_with (first
      | (go_at_call 23; ((with_reducible refine (cP).mono ?_); rintro e w1 ⟨rfl, rfl⟩))
      | (go_at_call 34; ((with_reducible refine (cI).mono ?_); rintro e w1 ⟨rfl, rfl⟩))
      | (go_at_call 32; ((with_reducible refine (cK).mono ?_); rintro e w1 hO; obtain ⟨ka, kc, rfl, hka, _, hb1⟩ := hO.open; obtain ⟨b, o, rfl, hc⟩ := kids_at hka HJL.out; rw [HZ.out] at hc; rw [HM.out]; clear hO hka))
      | (go_at_call 35; ((with_reducible refine (CLL.out _ hb1).mono ?_); rintro e w2 ⟨rfl, hb2⟩)))
    go_ret
    exact ⟨rfl, hb1.trans (hb2.mono hb1.size)⟩

/-! ### Find -/
def findGo (L : Sk) : Int → List Int → Option Int
  | id, [] => some id
  | id, p :: ps => if 0 ≤ p ∧ p < ((kidsS L id).length : Int) then findGo L ((kidsS L id)[p.toNat]!) ps else none
def findS (L : Sk) (root : Int) (path : List Int) : Option Int := if hasS L root then findGo L root path else none
def findV : Option Int → Value
  | none => .tuple #[.int .i64 0, .bool false]
  | some x => .tuple #[.int .i64 x, .bool true]
set_option maxRecDepth 20000 in
set_option maxHeartbeats 4000000 in
theorem find_v {w : World} {a : Option Addr} {L : Sk} (h : Tv w (.pointer a) L) (root : Int) (path : List Int) (pa : Option Addr) (pc : Nat) (hp : KidsAt w pa path) (hl : path.length ≤ 100000) :
    Calls Tryd.prog 9 #[.pointer a, .int .i64 root, .slice pa path.length pc] w fun e w' => e = .returned (findV (findS L root path)) ∧ Below w.heap.size w w' := by
  have cH := has_v h root
  unfold findS
  cases hh : hasS L root with
  | false =>
    rw [hh] at cH
    rw [if_neg (by decide)]
    clear h hp hh hl
    show Calls _ _ _ _ (fun e w' => e = .returned (.tuple #[.int .i64 0, .bool false]) ∧ Below w.heap.size w w')
    go_enter Tryd.func9, Tryd.ntmps9
    go_wp2_with (go_at_call 22; ((with_reducible refine (cH).mono ?_); rintro e w1 ⟨rfl, rfl⟩))
    go_ret2
    exact ⟨rfl, Below.refl _ _⟩
  | true =>
    rw [hh] at cH
    rw [if_pos rfl]
    obtain ⟨R, hR⟩ : ∃ R, findGo L root path = R := ⟨_, rfl⟩
    rw [hR]
    have H0 : Hid (findGo L root (path.drop 0) = R) := Lib.hid hR
    have H := Lib.hid h
    have HP := Lib.hid hp
    obtain ⟨m, hm⟩ : ∃ m, path.length = m := ⟨_, rfl⟩
    rw [hm] at hl ⊢
    have HM := Lib.hid hm
    clear h hp hh hR hm
    go_enter Tryd.func9, Tryd.ntmps9
    go_wp2_with (go_at_call 22; ((with_reducible refine (cH).mono ?_); rintro e w1 ⟨rfl, rfl⟩))
    go_loopw [8, 19] (fun s8 s19 wx => ∃ (k : Nat) (id : Int), k ≤ m ∧ s19 = .int .i64 k ∧ s8 = .int .i64 id ∧ Hid (findGo L id (path.drop k) = R) ∧ Below w.heap.size w wx) (fun _ s19 _ => m - (RowKit.intOf s19).toNat)
    case atStart => exact ⟨0, root, Nat.zero_le _, rfl, rfl, H0, Below.refl _ _⟩
    case round =>
      obtain ⟨k, id, hk, rfl, rfl, HC, hb⟩ := hrel
      by_cases hlt : k < m
      · have hkl : k < path.length := by rw [HM.out]; exact hlt
        have hkI : (k : Int) < (m : Int) := by omega
        have d1 : path.drop k = path[k]! :: path.drop (k + 1) := by
          rw [List.getElem!_eq_getElem?_getD, List.getElem?_eq_getElem hkl]
          exact List.drop_eq_getElem_cons hkl
        obtain ⟨b1, o1, rfl, e1⟩ := kids_at (HP.out.below hb) hkl
        have hT := H.out.below hb
        have cK := kids_v hT id
        have hml := hT.len.2 id
        have hh := HC.out
        rw [d1] at hh
        obtain ⟨p, hp⟩ : ∃ p, path[k]! = p := ⟨_, rfl⟩
        rw [hp] at e1 hh
        unfold findGo at hh
        obtain ⟨ks, hks⟩ : ∃ ks, kidsS L id = ks := ⟨_, rfl⟩
        rw [hks] at cK hml hh
        obtain ⟨n, hn⟩ : ∃ n, ks.length = n := ⟨_, rfl⟩
        have HN := Lib.hid hn
        rw [hn] at hh hml
        by_cases h0 : p < 0
        · rw [if_neg (by omega)] at hh
          have HH := Lib.hid hh
          clear hh hks hp hn d1 hkl hT HC
          go_wp2_with (go_at_call 32; ((with_reducible refine (cK).mono ?_); rintro e w1 hO; obtain ⟨ka, kc, rfl, _, _, hb1⟩ := hO.open; rw [HN.out]; clear hO))
          go_ret2
          exact ⟨by rw [← HH.out]; rfl, hb.trans (hb1.mono hb.size)⟩
        · obtain ⟨q, rfl⟩ : ∃ q : Nat, p = (q : Int) := ⟨p.toNat, by omega⟩
          by_cases hq : q < n
          · rw [if_pos (by omega), Int.toNat_natCast] at hh
            have hql : q < ks.length := by rw [hn]; exact hq
            have hqI : ¬ (n : Int) ≤ (q : Int) := by omega
            have hqJ : (q : Int) < (n : Int) := by omega
            have HQ := Lib.hid hql
            obtain ⟨z, hz⟩ : ∃ z, ks[q]! = z := ⟨_, rfl⟩
            rw [hz] at hh
            have HZ := Lib.hid hz
            have HH := Lib.hid hh
            clear hh hks hp hn d1 hkl hT HC hql hz h0
            go_wp2_with (go_at_call 32; ((with_reducible refine (cK).mono ?_); rintro e w1 hO; obtain ⟨ka, kc, rfl, hka, _, hb1⟩ := hO.open; obtain ⟨b, o, rfl, hc⟩ := kids_at hka HQ.out; rw [HZ.out] at hc; rw [HN.out]; clear hO hka))
            go_roundw
            case rel => exact ⟨k + 1, z, hlt, by go_num, rfl, HH, hb.trans (hb1.mono hb.size)⟩
            case measure => simp [RowKit.intOf]; omega
          · rw [if_neg (by omega)] at hh
            have hqI : (n : Int) ≤ (q : Int) := by omega
            have HH := Lib.hid hh
            clear hh hks hp hn d1 hkl hT HC h0
            go_wp2_with (go_at_call 32; ((with_reducible refine (cK).mono ?_); rintro e w1 hO; obtain ⟨ka, kc, rfl, _, _, hb1⟩ := hO.open; rw [HN.out]; clear hO))
            go_ret2
            exact ⟨by rw [← HH.out]; rfl, hb.trans (hb1.mono hb.size)⟩
      · have hkm : k = m := by omega
        subst hkm
        have d1 : path.drop k = [] := List.drop_of_length_le (by rw [HM.out]; omega)
        have hh := HC.out
        rw [d1] at hh
        unfold findGo at hh
        have HH := Lib.hid hh
        clear hh d1 HC
        go_wp2
        go_ret2
        exact ⟨by rw [← HH.out]; rfl, hb⟩

end Go.Proofs.YtggjoefhopoggaaDoor
