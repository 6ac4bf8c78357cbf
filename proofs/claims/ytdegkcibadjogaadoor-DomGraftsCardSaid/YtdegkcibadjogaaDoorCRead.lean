/-
  What reads a tree: Told, Room, Kids, Index (Attrs is not here yet).
-/
import Derived.Test.YtdegkcibadjogaaDoorCInt

namespace Go.Proofs.YtdegkcibadjogaaDoor
open Go.RowKit Go.Lib

def toldT (l : List (Option Nd)) (id : Int) : ByteArray := ((ndAt l id).map (·.tx)).getD ⟨#[]⟩
set_option maxRecDepth 20000 in
theorem told_any (w : World) (p nb : Nat) (deep id : Int) (l : List (Option Nd)) (h : TreeAt w p nb deep l) :
    Calls Tryd.prog 64 #[.pointer (some ⟨p, 0, none⟩), .int .i64 id] w fun e w' => e = .returned (.string (toldT l id)) ∧ w = w' := by
  have cN := node_any w p nb deep id l h
  unfold toldT
  cases hx : ndAt l id with
  | none =>
    rw [hx] at cN
    clear hx h
    unfold ndV at cN
    go_enter Tryd.func64, Tryd.ntmps64
    go_wp2_with (go_at_call 73; ((with_reducible refine cN.mono ?_); rintro e w1 ⟨rfl, rfl⟩))
    go_ret
    exact ⟨rfl, rfl⟩
  | some x =>
    have c2 := (h.node hx).c2
    rw [hx] at cN
    unfold ndV at cN
    dsimp only at cN
    obtain ⟨b, hb⟩ : ∃ b, x.ab = b := ⟨_, rfl⟩
    rw [hb] at c2 cN
    clear hx h hb
    go_enter Tryd.func64, Tryd.ntmps64
    go_wp2_with (go_at_call 73; ((with_reducible refine cN.mono ?_); rintro e w1 ⟨rfl, rfl⟩))
    go_ret
    exact ⟨rfl, rfl⟩

set_option maxRecDepth 20000 in
theorem room_any (w : World) (p nb : Nat) (deep : Int) (l : List (Option Nd)) (h : TreeAt w p nb deep l) :
    Calls Tryd.prog 40 #[.pointer (some ⟨p, 0, none⟩)] w fun e w' => e = .returned (.tuple #[.int .i64 (l.length : Int), .int .i64 deep]) ∧ ∃ n, w' = w.drewN n := by
  have cI := is_any w p nb deep l h
  have c1 := h.c1
  have c2 := h.c2
  clear h
  go_enter Tryd.func40, Tryd.ntmps40
  go_wp2_with (go_at_call 39; ((with_reducible refine cI.mono ?_); rintro e w1 ⟨rfl, rfl⟩))
  go_quiet (fail)
  go_wp2
  go_ret2
  exact ⟨rfl, _, rfl⟩

/-! ### the ints -/
def cellsZ (l : List Int) : List Value := l.map (Value.int .i64 ·)
theorem cellsZ_length (l : List Int) : (cellsZ l).length = l.length := by unfold cellsZ; rw [List.length_map]
theorem cellsZ_at {l : List Int} {j : Nat} (h : j < l.length) : (cellsZ l)[j]? = some (.int .i64 l[j]!) := by
  unfold cellsZ
  rw [List.getElem?_map, List.getElem!_eq_getElem?_getD, List.getElem?_eq_getElem h]
  rfl
/-- A row of ints of its own. -/
def OwnZ (l : List Int) (w : World) (e : Ending) (w' : World) : Prop := ∃ v, e = .returned v ∧ w'.ownsRow w.heap.size 3 1 v l.length (cellsZ l) ∧ Below w.heap.size w w'
set_option maxRecDepth 20000 in
set_option maxHeartbeats 4000000 in
theorem cloneZ_any (w : World) (ka : Option Addr) (kids : List Int) (kc : Nat) (hk : KidsAt w ka kids) (hl : kids.length ≤ 2000) (hn : ka = none → kids = []) :
    Calls Tryd.prog 83 #[.slice ka kids.length kc] w (OwnZ kids w) := by
  obtain ⟨i0, hi, hz0, hz1, hz2⟩ := info_parts infoIntD
  have q22 : ∀ (w : World) (a : Option Addr) (n c n' c' : Nat), (binOp .eql 68 (.slice a n c) (.slice none n' c')).run Tryd.prog w = .ok (.bool a.isNone) w := fun w a n c n' c' => Lib.run_eql_slice_nil w _ _ a n c n' c' Tryd.underlying68
  cases ka with
  | none =>
    have e := hn rfl
    subst e
    clear hk hn
    go_enter Tryd.func83, Tryd.ntmps83
    go_wp2
    go_ret
    exact ⟨_, rfl, World.ownsRow_nil _ _ _ _, Below.refl _ _⟩
  | some a =>
    have hc : ∀ j u, (cellsZ kids)[j]? = some u → (w.alloc (.cells #[] 3)).cell? (a.add j) = some u := by
      intro j u hu
      have hj : j < kids.length := by rw [← cellsZ_length]; exact (List.getElem?_eq_some_iff.1 hu).1
      rw [cellsZ_at hj] at hu
      rcases hk with h0 | ⟨b, o, e, hk⟩
      · rw [h0] at hj; simp at hj
      · obtain rfl := Option.some.inj e
        obtain rfl := Option.some.inj hu
        have h2 := hk j hj
        rw [Addr.add_lit]
        exact (((Below.refl _ w).alloc (Nat.le_refl _) (.cells #[] 3)).cell (p := ⟨b, o + j, none⟩) (lt_of_cell' h2)).trans h2
    have HC := Lib.hid hc
    have hone : ∀ u ∈ cellsZ kids, u.oneCell' = true := by
      intro u hu
      unfold cellsZ at hu
      obtain ⟨z, _, rfl⟩ := List.mem_map.1 hu
      rfl
    have HO := Lib.hid hone
    obtain ⟨Z, hZ⟩ : ∃ Z, cellsZ kids = Z := ⟨_, rfl⟩
    have hZl := cellsZ_length kids
    rw [hZ] at HC HO hZl
    unfold OwnZ
    rw [hZ]
    obtain ⟨n, hn2⟩ : ∃ n, kids.length = n := ⟨_, rfl⟩
    rw [hn2] at hl hZl ⊢
    clear hk hn hc hone hZ hn2
    go_enter Tryd.func83, Tryd.ntmps83
    go_wp2_with (at_builtin; refine wpList_append_own _ rfl _ _ 68 rfl w.heap.size 3 i0 _ 1 8 Tryd.underlying68 hi hz0 hz1 hz2 rfl (by decide) _ _ _ rfl (World.ownsRow_made w #[] 0 (Nat.le_refl _) (Nat.zero_le _) (by simp)) a n kc Z rfl (by rw [hZl, Nat.mul_one]) HC.out HO.out (by unfold maxLen; omega) (by omega) (by simp) ?_; intro v' w1 hown' hgrow _)
    go_ret
    rw [Nat.zero_add, List.nil_append] at hown'
    exact ⟨_, rfl, hown', ((Below.refl _ w).alloc (Nat.le_refl _) _).grown hgrow (by simp) (fun j hj => by cases hj; exact Nat.le_refl _)⟩

/-- slices.Index over ints. -/
def ixZ (l : List Int) (z : Int) : Nat → Int
  | i => match l with
    | [] => -1
    | x :: l => if z = x then i else ixZ l z (i + 1)
set_option maxRecDepth 20000 in
set_option maxHeartbeats 4000000 in
theorem ixZ_any (w : World) (ka : Option Addr) (kids : List Int) (kc : Nat) (z : Int) (hk : KidsAt w ka kids) (hl : kids.length ≤ 2000) :
    Calls Tryd.prog 78 #[.slice ka kids.length kc, .int .i64 z] w fun e w' => e = .returned (.int .i64 (ixZ kids z 0)) ∧ w = w' := by
  obtain ⟨R, hR⟩ : ∃ R, ixZ kids z 0 = R := ⟨_, rfl⟩
  rw [hR]
  have H0 : Hid (ixZ (kids.drop 0) z 0 = R) := Lib.hid hR
  have HK := Lib.hid hk
  obtain ⟨n, hn⟩ : ∃ n, kids.length = n := ⟨_, rfl⟩
  rw [hn] at hl ⊢
  have HN := Lib.hid hn
  clear hk hR hn
  go_enter Tryd.func78, Tryd.ntmps78
  go_wp2
  go_loop [5, 8] (fun _ i => ∃ k : Nat, k ≤ n ∧ i = .int .i64 k ∧ Hid (ixZ (kids.drop k) z k = R)) (fun _ i => n - (RowKit.intOf i).toNat)
  case atStart => exact ⟨0, Nat.zero_le _, rfl, H0⟩
  case round =>
    obtain ⟨k, hkk, rfl, HC⟩ := hrel
    by_cases hlt : k < n
    · have hkl : k < kids.length := by rw [HN.out]; exact hlt
      have hd : kids.drop k = kids[k]! :: kids.drop (k + 1) := by
        rw [List.getElem!_eq_getElem?_getD, List.getElem?_eq_getElem hkl]
        exact List.drop_eq_getElem_cons hkl
      obtain ⟨b, o, rfl, hc⟩ : ∃ b o, ka = some ⟨b, o, none⟩ ∧ w.cell? ⟨b, o + k, none⟩ = some (.int .i64 (kids[k]!)) := by
        rcases HK.out with h0 | ⟨b, o, e, h0⟩
        · rw [h0] at hkl; simp at hkl
        · exact ⟨b, o, e, h0 k hkl⟩
      have hkI : (k : Int) < (n : Int) := by omega
      have h2 := HC.out
      rw [hd] at h2
      obtain ⟨y, hy⟩ : ∃ y, kids[k]! = y := ⟨_, rfl⟩
      rw [hy] at hc h2
      unfold ixZ at h2
      dsimp only at h2
      by_cases hz : z = y
      · subst hz
        rw [if_pos rfl] at h2
        have HF : Hid ((k : Int) = R) := Lib.hid h2
        clear hy hd hkl h2
        go_wp2
        go_ret
        have e9 := HF.out
        subst e9
        exact ⟨rfl, rfl⟩
      · rw [if_neg hz] at h2
        have hzb : (z == y) = false := by simpa using hz
        have HX := Lib.hid h2
        clear hy hd hkl h2
        go_wp2
        go_round
        case rel => exact ⟨k + 1, hlt, by go_num, HX⟩
        case measure => simp [RowKit.intOf]; omega
    · have hkn : k = n := by omega
      subst hkn
      have HF : Hid (R = -1) := Lib.hid (by have h2 := HC.out; rw [List.drop_of_length_le (by rw [HN.out]; omega)] at h2; exact h2.symm)
      clear HC
      go_wp2
      go_ret
      have e9 := HF.out
      subst e9
      exact ⟨rfl, rfl⟩

def indexT (l : List (Option Nd)) (id : Int) : Int := match ndAt l (upT l id) with
  | none => -1
  | some x => ixZ x.kids id 0
set_option maxRecDepth 20000 in
theorem index_any (w : World) (p nb : Nat) (deep id : Int) (l : List (Option Nd)) (h : TreeAt w p nb deep l) :
    Calls Tryd.prog 28 #[.pointer (some ⟨p, 0, none⟩), .int .i64 id] w fun e w' => e = .returned (.int .i64 (indexT l id)) ∧ w = w' := by
  have cP := parent_any w p nb deep id l h
  have cN := node_any w p nb deep (upT l id) l h
  unfold indexT
  obtain ⟨u, hu⟩ : ∃ u, upT l id = u := ⟨_, rfl⟩
  rw [hu] at cP cN ⊢
  cases hx : ndAt l u with
  | none =>
    rw [hx] at cN
    clear hx h hu
    unfold ndV at cN
    go_enter Tryd.func28, Tryd.ntmps28
    go_wp2_with (first
      | (go_at_call 27; ((with_reducible refine cP.mono ?_); rintro e w1 ⟨rfl, rfl⟩))
      | (go_at_call 73; ((with_reducible refine cN.mono ?_); rintro e w1 ⟨rfl, rfl⟩)))
    go_ret
    exact ⟨rfl, rfl⟩
  | some x =>
    have hX := h.node hx
    have c5 := hX.c5
    have cZ := ixZ_any w x.ka x.kids x.kc id hX.ks hX.kl
    rw [hx] at cN
    unfold ndV at cN
    dsimp only at cN ⊢
    obtain ⟨R, hR⟩ : ∃ R, ixZ x.kids id 0 = R := ⟨_, rfl⟩
    rw [hR] at cZ ⊢
    obtain ⟨b, hb⟩ : ∃ b, x.ab = b := ⟨_, rfl⟩
    rw [hb] at c5 cN
    clear hx h hu hX hR hb
    go_enter Tryd.func28, Tryd.ntmps28
    go_wp2_with (first
      | (go_at_call 27; ((with_reducible refine cP.mono ?_); rintro e w1 ⟨rfl, rfl⟩))
      | (go_at_call 73; ((with_reducible refine cN.mono ?_); rintro e w1 ⟨rfl, rfl⟩))
      | (go_at_call 78; ((with_reducible refine cZ.mono ?_); rintro e w1 ⟨rfl, rfl⟩)))
    go_ret
    exact ⟨rfl, rfl⟩

def kidsT (l : List (Option Nd)) (id : Int) : List Int := ((ndAt l id).map (·.kids)).getD []
set_option maxRecDepth 20000 in
theorem kids_any (w : World) (p nb : Nat) (deep id : Int) (l : List (Option Nd)) (h : TreeAt w p nb deep l) (hn : ∀ x, ndAt l id = some x → x.ka = none → x.kids = []) :
    Calls Tryd.prog 68 #[.pointer (some ⟨p, 0, none⟩), .int .i64 id] w (OwnZ (kidsT l id) w) := by
  have cN := node_any w p nb deep id l h
  unfold kidsT
  cases hx : ndAt l id with
  | none =>
    rw [hx] at cN
    clear hx h
    unfold ndV at cN
    go_enter Tryd.func68, Tryd.ntmps68
    go_wp2_with (go_at_call 73; ((with_reducible refine cN.mono ?_); rintro e w1 ⟨rfl, rfl⟩))
    go_ret
    exact ⟨_, rfl, World.ownsRow_nil _ _ _ _, Below.refl _ _⟩
  | some x =>
    have hX := h.node hx
    have c5 := hX.c5
    have cZ := cloneZ_any w x.ka x.kids x.kc hX.ks hX.kl (hn x hx)
    rw [hx] at cN
    unfold ndV at cN
    dsimp only at cN
    show Calls _ _ _ _ (OwnZ x.kids w)
    obtain ⟨b, hb⟩ : ∃ b, x.ab = b := ⟨_, rfl⟩
    rw [hb] at c5 cN
    obtain ⟨K, hK⟩ : ∃ K, x.kids = K := ⟨_, rfl⟩
    obtain ⟨ka, hka⟩ : ∃ a, x.ka = a := ⟨_, rfl⟩
    obtain ⟨kc, hkc⟩ : ∃ c, x.kc = c := ⟨_, rfl⟩
    rw [hK, hka, hkc] at cZ c5
    rw [hK]
    clear hx h hX hb hn hK hka hkc
    go_enter Tryd.func68, Tryd.ntmps68
    go_wp2_with (first
      | (go_at_call 73; ((with_reducible refine cN.mono ?_); rintro e w1 ⟨rfl, rfl⟩))
      | (go_at_call 83; ((with_reducible refine cZ.mono ?_); rintro e w2 ⟨v, rfl, hown, hb2⟩)))
    go_ret
    exact ⟨v, rfl, hown, hb2⟩

end Go.Proofs.YtdegkcibadjogaaDoor
