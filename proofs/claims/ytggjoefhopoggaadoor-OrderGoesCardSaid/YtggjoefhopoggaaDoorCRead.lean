/-
  What reads a tree: Told, Room, Kids, Index (Attrs is not here yet).
  A tree as it is told, its blocks left out; a tree handed to order: none at all, or one in memory. What dom answers of it.
-/
import Derived.Test.YtggjoefhopoggaaDoorCInt
import Derived.Test.YtggjoefhopoggaaDoorCNil

namespace Go.Proofs.YtggjoefhopoggaaDoor
open Go.RowKit Go.Lib

def toldT (l : List (Option Nd)) (id : Int) : ByteArray := ((ndAt l id).map (·.tx)).getD ⟨#[]⟩
set_option maxRecDepth 20000 in
theorem told_any (w : World) (p nb : Nat) (deep id : Int) (l : List (Option Nd)) (h : TreeAt w p nb deep l) :
    Calls Tryd.prog 39 #[.pointer (some ⟨p, 0, none⟩), .int .i64 id] w fun e w' => e = .returned (.string (toldT l id)) ∧ w = w' := by
  have cN := node_any w p nb deep id l h
  unfold toldT
  cases hx : ndAt l id with
  | none =>
    rw [hx] at cN
    clear hx h
    unfold ndV at cN
    go_enter Tryd.func39, Tryd.ntmps39
    go_wp2_with (go_at_call 43; ((with_reducible refine cN.mono ?_); rintro e w1 ⟨rfl, rfl⟩))
    go_ret
    exact ⟨rfl, rfl⟩
  | some x =>
    have c2 := (h.node hx).c2
    rw [hx] at cN
    unfold ndV at cN
    dsimp only at cN
    obtain ⟨b, hb⟩ : ∃ b, x.ab = b := ⟨_, rfl⟩
    rw [hb] at c2 cN
    clear hx h hb
    go_enter Tryd.func39, Tryd.ntmps39
    go_wp2_with (go_at_call 43; ((with_reducible refine cN.mono ?_); rintro e w1 ⟨rfl, rfl⟩))
    go_ret
    exact ⟨rfl, rfl⟩

set_option maxRecDepth 20000 in
theorem room_any (w : World) (p nb : Nat) (deep : Int) (l : List (Option Nd)) (h : TreeAt w p nb deep l) :
    Calls Tryd.prog 80 #[.pointer (some ⟨p, 0, none⟩)] w fun e w' => e = .returned (.tuple #[.int .i64 (l.length : Int), .int .i64 deep]) ∧ ∃ n, w' = w.drewN n := by
  have cI := is_any w p nb deep l h
  have c1 := h.c1
  have c2 := h.c2
  clear h
  go_enter Tryd.func80, Tryd.ntmps80
  go_wp2_with (go_at_call 47; ((with_reducible refine cI.mono ?_); rintro e w1 ⟨rfl, rfl⟩))
  go_quiet (fail)
  go_wp2
  go_ret2
  exact ⟨rfl, _, rfl⟩

/-! ### the ints -/
def cellsZ (l : List Int) : List Value := l.map (Value.int .i64 ·)
theorem cellsZ_length (l : List Int) : (cellsZ l).length = l.length := by unfold cellsZ; rw [List.length_map]
theorem cellsZ_at {l : List Int} {j : Nat} (h : j < l.length) : (cellsZ l)[j]? = some (.int .i64 l[j]!) := by
  unfold cellsZ
  rw [List.getElem?_map, List.getElem!_eq_getElem?_getD, List.getElem?_eq_getElem h]
  rfl
/-- A row of ints of its own. -/
def OwnZ (l : List Int) (w : World) (e : Ending) (w' : World) : Prop := ∃ v, e = .returned v ∧ w'.ownsRow w.heap.size 3 1 v l.length (cellsZ l) ∧ Below w.heap.size w w'
set_option maxRecDepth 20000 in
set_option maxHeartbeats 4000000 in
theorem cloneZ_any (w : World) (ka : Option Addr) (kids : List Int) (kc : Nat) (hk : KidsAt w ka kids) (hl : kids.length ≤ 2000) (hn : ka = none → kids = []) :
    Calls Tryd.prog 49 #[.slice ka kids.length kc] w (OwnZ kids w) := by
  obtain ⟨i0, hi, hz0, hz1, hz2⟩ := info_parts infoIntD
  have q22 : ∀ (w : World) (a : Option Addr) (n c n' c' : Nat), (binOp .eql 24 (.slice a n c) (.slice none n' c')).run Tryd.prog w = .ok (.bool a.isNone) w := fun w a n c n' c' => Lib.run_eql_slice_nil w _ _ a n c n' c' Tryd.underlying24
  cases ka with
  | none =>
    have e := hn rfl
    subst e
    clear hk hn
    go_enter Tryd.func49, Tryd.ntmps49
    go_wp2
    go_ret
    exact ⟨_, rfl, World.ownsRow_nil _ _ _ _, Below.refl _ _⟩
  | some a =>
    have hc : ∀ j u, (cellsZ kids)[j]? = some u → (w.alloc (.cells #[] 3)).cell? (a.add j) = some u := by
      intro j u hu
      have hj : j < kids.length := by rw [← cellsZ_length]; exact (List.getElem?_eq_some_iff.1 hu).1
      rw [cellsZ_at hj] at hu
      rcases hk with h0 | ⟨b, o, e, hk⟩
      · rw [h0] at hj; simp at hj
      · obtain rfl := Option.some.inj e
        obtain rfl := Option.some.inj hu
        have h2 := hk j hj
        rw [Addr.add_lit]
        exact (((Below.refl _ w).alloc (Nat.le_refl _) (.cells #[] 3)).cell (p := ⟨b, o + j, none⟩) (lt_of_cell' h2)).trans h2
    have HC := Lib.hid hc
    have hone : ∀ u ∈ cellsZ kids, u.oneCell' = true := by
      intro u hu
      unfold cellsZ at hu
      obtain ⟨z, _, rfl⟩ := List.mem_map.1 hu
      rfl
    have HO := Lib.hid hone
    obtain ⟨Z, hZ⟩ : ∃ Z, cellsZ kids = Z := ⟨_, rfl⟩
    have hZl := cellsZ_length kids
    rw [hZ] at HC HO hZl
    unfold OwnZ
    rw [hZ]
    obtain ⟨n, hn2⟩ : ∃ n, kids.length = n := ⟨_, rfl⟩
    rw [hn2] at hl hZl ⊢
    clear hk hn hc hone hZ hn2
    go_enter Tryd.func49, Tryd.ntmps49
    go_wp2_with (at_builtin; refine wpList_append_own _ rfl _ _ 24 rfl w.heap.size 3 i0 _ 1 8 Tryd.underlying24 hi hz0 hz1 hz2 rfl (by decide) _ _ _ rfl (World.ownsRow_made w #[] 0 (Nat.le_refl _) (Nat.zero_le _) (by simp)) a n kc Z rfl (by rw [hZl, Nat.mul_one]) HC.out HO.out (by unfold maxLen; omega) (by omega) (by simp) ?_; intro v' w1 hown' hgrow _)
    go_ret
    rw [Nat.zero_add, List.nil_append] at hown'
    exact ⟨_, rfl, hown', ((Below.refl _ w).alloc (Nat.le_refl _) _).grown hgrow (by simp) (fun j hj => by cases hj; exact Nat.le_refl _)⟩

/-- slices.Index over ints. -/
def ixZ (l : List Int) (z : Int) : Nat → Int
  | i => match l with
    | [] => -1
    | x :: l => if z = x then i else ixZ l z (i + 1)
set_option maxRecDepth 20000 in
set_option maxHeartbeats 4000000 in
theorem ixZ_any (w : World) (ka : Option Addr) (kids : List Int) (kc : Nat) (z : Int) (hk : KidsAt w ka kids) (hl : kids.length ≤ 2000) :
    Calls Tryd.prog 51 #[.slice ka kids.length kc, .int .i64 z] w fun e w' => e = .returned (.int .i64 (ixZ kids z 0)) ∧ w = w' := by
  obtain ⟨R, hR⟩ : ∃ R, ixZ kids z 0 = R := ⟨_, rfl⟩
  rw [hR]
  have H0 : Hid (ixZ (kids.drop 0) z 0 = R) := Lib.hid hR
  have HK := Lib.hid hk
  obtain ⟨n, hn⟩ : ∃ n, kids.length = n := ⟨_, rfl⟩
  rw [hn] at hl ⊢
  have HN := Lib.hid hn
  clear hk hR hn
  go_enter Tryd.func51, Tryd.ntmps51
  go_wp2
  go_loop [5, 8] (fun _ i => ∃ k : Nat, k ≤ n ∧ i = .int .i64 k ∧ Hid (ixZ (kids.drop k) z k = R)) (fun _ i => n - (RowKit.intOf i).toNat)
  case atStart => exact ⟨0, Nat.zero_le _, rfl, H0⟩
  case round =>
    obtain ⟨k, hkk, rfl, HC⟩ := hrel
    by_cases hlt : k < n
    · have hkl : k < kids.length := by rw [HN.out]; exact hlt
      have hd : kids.drop k = kids[k]! :: kids.drop (k + 1) := by
        rw [List.getElem!_eq_getElem?_getD, List.getElem?_eq_getElem hkl]
        exact List.drop_eq_getElem_cons hkl
      obtain ⟨b, o, rfl, hc⟩ : ∃ b o, ka = some ⟨b, o, none⟩ ∧ w.cell? ⟨b, o + k, none⟩ = some (.int .i64 (kids[k]!)) := by
        rcases HK.out with h0 | ⟨b, o, e, h0⟩
        · rw [h0] at hkl; simp at hkl
        · exact ⟨b, o, e, h0 k hkl⟩
      have hkI : (k : Int) < (n : Int) := by omega
      have h2 := HC.out
      rw [hd] at h2
      obtain ⟨y, hy⟩ : ∃ y, kids[k]! = y := ⟨_, rfl⟩
      rw [hy] at hc h2
      unfold ixZ at h2
      dsimp only at h2
      by_cases hz : z = y
      · subst hz
        rw [if_pos rfl] at h2
        have HF : Hid ((k : Int) = R) := Lib.hid h2
        clear hy hd hkl h2
        go_wp2
        go_ret
        have e9 := HF.out
        subst e9
        exact ⟨rfl, rfl⟩
      · rw [if_neg hz] at h2
        have hzb : (z == y) = false := by simpa using hz
        have HX := Lib.hid h2
        clear hy hd hkl h2
        go_wp2
        go_round
        case rel => exact ⟨k + 1, hlt, by go_num, HX⟩
        case measure => simp [RowKit.intOf]; omega
    · have hkn : k = n := by omega
      subst hkn
      have HF : Hid (R = -1) := Lib.hid (by have h2 := HC.out; rw [List.drop_of_length_le (by rw [HN.out]; omega)] at h2; exact h2.symm)
      clear HC
      go_wp2
      go_ret
      have e9 := HF.out
      subst e9
      exact ⟨rfl, rfl⟩

def indexT (l : List (Option Nd)) (id : Int) : Int := match ndAt l (upT l id) with
  | none => -1
  | some x => ixZ x.kids id 0
set_option maxRecDepth 20000 in
theorem index_any (w : World) (p nb : Nat) (deep id : Int) (l : List (Option Nd)) (h : TreeAt w p nb deep l) :
    Calls Tryd.prog 34 #[.pointer (some ⟨p, 0, none⟩), .int .i64 id] w fun e w' => e = .returned (.int .i64 (indexT l id)) ∧ w = w' := by
  have cP := parent_any w p nb deep id l h
  have cN := node_any w p nb deep (upT l id) l h
  unfold indexT
  obtain ⟨u, hu⟩ : ∃ u, upT l id = u := ⟨_, rfl⟩
  rw [hu] at cP cN ⊢
  cases hx : ndAt l u with
  | none =>
    rw [hx] at cN
    clear hx h hu
    unfold ndV at cN
    go_enter Tryd.func34, Tryd.ntmps34
    go_wp2_with (first
      | (go_at_call 23; ((with_reducible refine cP.mono ?_); rintro e w1 ⟨rfl, rfl⟩))
      | (go_at_call 43; ((with_reducible refine cN.mono ?_); rintro e w1 ⟨rfl, rfl⟩)))
    go_ret
    exact ⟨rfl, rfl⟩
  | some x =>
    have hX := h.node hx
    have c5 := hX.c5
    have cZ := ixZ_any w x.ka x.kids x.kc id hX.ks hX.kl
    rw [hx] at cN
    unfold ndV at cN
    dsimp only at cN ⊢
    obtain ⟨R, hR⟩ : ∃ R, ixZ x.kids id 0 = R := ⟨_, rfl⟩
    rw [hR] at cZ ⊢
    obtain ⟨b, hb⟩ : ∃ b, x.ab = b := ⟨_, rfl⟩
    rw [hb] at c5 cN
    clear hx h hu hX hR hb
    go_enter Tryd.func34, Tryd.ntmps34
    go_wp2_with (first
      | (go_at_call 23; ((with_reducible refine cP.mono ?_); rintro e w1 ⟨rfl, rfl⟩))
      | (go_at_call 43; ((with_reducible refine cN.mono ?_); rintro e w1 ⟨rfl, rfl⟩))
      | (go_at_call 51; ((with_reducible refine cZ.mono ?_); rintro e w1 ⟨rfl, rfl⟩)))
    go_ret
    exact ⟨rfl, rfl⟩

def kidsT (l : List (Option Nd)) (id : Int) : List Int := ((ndAt l id).map (·.kids)).getD []
set_option maxRecDepth 20000 in
theorem kids_any (w : World) (p nb : Nat) (deep id : Int) (l : List (Option Nd)) (h : TreeAt w p nb deep l) (hn : ∀ x, ndAt l id = some x → x.ka = none → x.kids = []) :
    Calls Tryd.prog 32 #[.pointer (some ⟨p, 0, none⟩), .int .i64 id] w (OwnZ (kidsT l id) w) := by
  have cN := node_any w p nb deep id l h
  unfold kidsT
  cases hx : ndAt l id with
  | none =>
    rw [hx] at cN
    clear hx h
    unfold ndV at cN
    go_enter Tryd.func32, Tryd.ntmps32
    go_wp2_with (go_at_call 43; ((with_reducible refine cN.mono ?_); rintro e w1 ⟨rfl, rfl⟩))
    go_ret
    exact ⟨_, rfl, World.ownsRow_nil _ _ _ _, Below.refl _ _⟩
  | some x =>
    have hX := h.node hx
    have c5 := hX.c5
    have cZ := cloneZ_any w x.ka x.kids x.kc hX.ks hX.kl (hn x hx)
    rw [hx] at cN
    unfold ndV at cN
    dsimp only at cN
    show Calls _ _ _ _ (OwnZ x.kids w)
    obtain ⟨b, hb⟩ : ∃ b, x.ab = b := ⟨_, rfl⟩
    rw [hb] at c5 cN
    obtain ⟨K, hK⟩ : ∃ K, x.kids = K := ⟨_, rfl⟩
    obtain ⟨ka, hka⟩ : ∃ a, x.ka = a := ⟨_, rfl⟩
    obtain ⟨kc, hkc⟩ : ∃ c, x.kc = c := ⟨_, rfl⟩
    rw [hK, hka, hkc] at cZ c5
    rw [hK]
    clear hx h hX hb hn hK hka hkc
    go_enter Tryd.func32, Tryd.ntmps32
    go_wp2_with (first
      | (go_at_call 43; ((with_reducible refine cN.mono ?_); rintro e w1 ⟨rfl, rfl⟩))
      | (go_at_call 49; ((with_reducible refine cZ.mono ?_); rintro e w2 ⟨v, rfl, hown, hb2⟩)))
    go_ret
    exact ⟨v, rfl, hown, hb2⟩

end Go.Proofs.YtggjoefhopoggaaDoor

namespace Go.Proofs.YtggjoefhopoggaaDoor
open Go.RowKit Go.Lib

/-- A node, its blocks left out. -/
structure Sn where
  tag : Int
  tx : ByteArray
  up : Int
  kids : List Int
  ats : List (ByteArray × ByteArray)
instance : Inhabited Sn := ⟨⟨0, ⟨#[]⟩, 0, [], []⟩⟩
def Nd.sn (x : Nd) : Sn := ⟨x.tag, x.tx, x.up, x.kids, x.ats⟩
abbrev Sk := List (Option Sn)
def sk (l : List (Option Nd)) : Sk := l.map (·.map Nd.sn)
theorem sk_length (l : List (Option Nd)) : (sk l).length = l.length := by unfold sk; rw [List.length_map]
theorem sk_get (l : List (Option Nd)) (i : Nat) : (sk l)[i]? = (l[i]?).map (·.map Nd.sn) := by unfold sk; rw [List.getElem?_map]
theorem sk_some {l : List (Option Nd)} {i : Nat} {s : Sn} (h : (sk l)[i]? = some (some s)) : ∃ x, l[i]? = some (some x) ∧ x.sn = s := by
  rw [sk_get] at h
  cases e : l[i]? with
  | none => rw [e] at h; cases h
  | some o =>
    rw [e] at h
    cases o with
    | none => cases h
    | some x => exact ⟨x, rfl, by simpa using h⟩
theorem sk_of {l : List (Option Nd)} {i : Nat} {x : Nd} (h : l[i]? = some (some x)) : (sk l)[i]? = some (some x.sn) := by rw [sk_get, h]; rfl
def ndS (L : Sk) (id : Int) : Option Sn := if 0 ≤ id then (L[id.toNat]?).getD none else none
def hasS (L : Sk) (id : Int) : Bool := (ndS L id).isSome
def tagS (L : Sk) (id : Int) : Int := ((ndS L id).map (·.tag)).getD (-1)
def upS (L : Sk) (id : Int) : Int := ((ndS L id).map (·.up)).getD (-1)
def toldS (L : Sk) (id : Int) : ByteArray := ((ndS L id).map (·.tx)).getD ⟨#[]⟩
def kidsS (L : Sk) (id : Int) : List Int := ((ndS L id).map (·.kids)).getD []
def indexS (L : Sk) (id : Int) : Int := match ndS L (upS L id) with
  | none => -1
  | some x => ixZ x.kids id 0
theorem sk_nd (l : List (Option Nd)) (id : Int) : ndS (sk l) id = (ndAt l id).map Nd.sn := by
  unfold ndS ndAt
  by_cases h : 0 ≤ id
  · rw [if_pos h, if_pos h, sk_get]
    cases l[id.toNat]? with
    | none => rfl
    | some o => rfl
  · rw [if_neg h, if_neg h]; rfl
theorem sk_has (l : List (Option Nd)) (id : Int) : hasT l id = hasS (sk l) id := by unfold hasT hasS; rw [sk_nd]; cases ndAt l id <;> rfl
theorem sk_tag (l : List (Option Nd)) (id : Int) : tagT l id = tagS (sk l) id := by unfold tagT tagS; rw [sk_nd]; cases ndAt l id <;> rfl
theorem sk_up (l : List (Option Nd)) (id : Int) : upT l id = upS (sk l) id := by unfold upT upS; rw [sk_nd]; cases ndAt l id <;> rfl
theorem sk_told (l : List (Option Nd)) (id : Int) : toldT l id = toldS (sk l) id := by unfold toldT toldS; rw [sk_nd]; cases ndAt l id <;> rfl
theorem sk_kids (l : List (Option Nd)) (id : Int) : kidsT l id = kidsS (sk l) id := by unfold kidsT kidsS; rw [sk_nd]; cases ndAt l id <;> rfl
theorem sk_index (l : List (Option Nd)) (id : Int) : indexT l id = indexS (sk l) id := by
  unfold indexT indexS
  rw [← sk_up, sk_nd]
  cases ndAt l (upT l id) <;> rfl
theorem ndS_nil (id : Int) : ndS [] id = none := by unfold ndS; split <;> simp
theorem hasS_nil (id : Int) : hasS [] id = false := by unfold hasS; rw [ndS_nil]; rfl
theorem tagS_nil (id : Int) : tagS [] id = -1 := by unfold tagS; rw [ndS_nil]; rfl
theorem upS_nil (id : Int) : upS [] id = -1 := by unfold upS; rw [ndS_nil]; rfl
theorem toldS_nil (id : Int) : toldS [] id = ⟨#[]⟩ := by unfold toldS; rw [ndS_nil]; rfl
theorem kidsS_nil (id : Int) : kidsS [] id = [] := by unfold kidsS; rw [ndS_nil]; rfl
theorem indexS_nil (id : Int) : indexS [] id = -1 := by unfold indexS; rw [ndS_nil]

/-- A tree that is handed on: nil, or one in memory. -/
def Tv (w : World) (v : Value) (L : Sk) : Prop :=
  (v = .pointer none ∧ L = []) ∨ ∃ p nb deep l, v = .pointer (some ⟨p, 0, none⟩) ∧ L = sk l ∧ nb < w.heap.size ∧ TreeAt w p nb deep l ∧ ∀ id x, ndAt l id = some x → x.ka = none → x.kids = []
theorem Tv.below {w w' : World} {v : Value} {L : Sk} (h : Tv w v L) (hb : Below w.heap.size w w') : Tv w' v L := by
  rcases h with h | ⟨p, nb, deep, l, h1, h2, h3, h4, h5⟩
  · exact .inl h
  · exact .inr ⟨p, nb, deep, l, h1, h2, Nat.lt_of_lt_of_le h3 hb.size, h4.below h3 hb, h5⟩
theorem Tv.cells {w : World} {v : Value} {L : Sk} (h : Tv w v L) : ∃ a, v = .pointer a := by
  rcases h with ⟨h, _⟩ | ⟨p, nb, deep, l, h1, _⟩
  · exact ⟨_, h⟩
  · exact ⟨_, h1⟩
theorem Tv.len {w : World} {v : Value} {L : Sk} (h : Tv w v L) : L.length ≤ 2000 ∧ ∀ id, (kidsS L id).length ≤ 2000 := by
  rcases h with ⟨_, rfl⟩ | ⟨p, nb, deep, l, h1, rfl, h3, h4, h5⟩
  · exact ⟨by simp, fun id => by rw [kidsS_nil]; simp⟩
  · refine ⟨by rw [sk_length]; exact h4.le, fun id => ?_⟩
    rw [← sk_kids]
    unfold kidsT
    cases e : ndAt l id with
    | none => simp
    | some x => exact (h4.node e).kl

set_option maxRecDepth 20000 in
theorem tag_any (w : World) (p nb : Nat) (deep id : Int) (l : List (Option Nd)) (h : TreeAt w p nb deep l) :
    Calls Tryd.prog 37 #[.pointer (some ⟨p, 0, none⟩), .int .i64 id] w fun e w' => e = .returned (.int .i64 (tagT l id)) ∧ w = w' := by
  have cN := node_any w p nb deep id l h
  unfold tagT
  cases hx : ndAt l id with
  | none =>
    rw [hx] at cN
    clear hx h
    unfold ndV at cN
    go_enter Tryd.func37, Tryd.ntmps37
    go_wp2_with (go_at_call 43; ((with_reducible refine cN.mono ?_); rintro e w1 ⟨rfl, rfl⟩))
    go_ret
    exact ⟨rfl, rfl⟩
  | some x =>
    have c0 := (h.node hx).c0
    rw [hx] at cN
    clear hx h
    unfold ndV at cN
    dsimp only at cN
    go_enter Tryd.func37, Tryd.ntmps37
    go_wp2_with (go_at_call 43; ((with_reducible refine cN.mono ?_); rintro e w1 ⟨rfl, rfl⟩))
    go_ret
    exact ⟨rfl, rfl⟩

section
variable {w : World} {v : Value} {L : Sk} (h : Tv w v L) (id : Int)
include h
theorem has_v : Calls Tryd.prog 22 #[v, .int .i64 id] w fun e w' => e = .returned (.bool (hasS L id)) ∧ w = w' := by
  rcases h with ⟨rfl, rfl⟩ | ⟨p, nb, deep, l, rfl, rfl, _, h4, _⟩
  · rw [hasS_nil]; exact nil_has w id
  · rw [← sk_has]; exact has_any w p nb deep id l h4
theorem parent_v : Calls Tryd.prog 23 #[v, .int .i64 id] w fun e w' => e = .returned (.int .i64 (upS L id)) ∧ w = w' := by
  rcases h with ⟨rfl, rfl⟩ | ⟨p, nb, deep, l, rfl, rfl, _, h4, _⟩
  · rw [upS_nil]; exact nil_parent w id
  · rw [← sk_up]; exact parent_any w p nb deep id l h4
theorem tag_v : Calls Tryd.prog 37 #[v, .int .i64 id] w fun e w' => e = .returned (.int .i64 (tagS L id)) ∧ w = w' := by
  rcases h with ⟨rfl, rfl⟩ | ⟨p, nb, deep, l, rfl, rfl, _, h4, _⟩
  · rw [tagS_nil]; exact nil_tag w id
  · rw [← sk_tag]; exact tag_any w p nb deep id l h4
theorem told_v : Calls Tryd.prog 39 #[v, .int .i64 id] w fun e w' => e = .returned (.string (toldS L id)) ∧ w = w' := by
  rcases h with ⟨rfl, rfl⟩ | ⟨p, nb, deep, l, rfl, rfl, _, h4, _⟩
  · rw [toldS_nil]; exact nil_told w id
  · rw [← sk_told]; exact told_any w p nb deep id l h4
theorem index_v : Calls Tryd.prog 34 #[v, .int .i64 id] w fun e w' => e = .returned (.int .i64 (indexS L id)) ∧ w = w' := by
  rcases h with ⟨rfl, rfl⟩ | ⟨p, nb, deep, l, rfl, rfl, _, h4, _⟩
  · rw [indexS_nil]; exact nil_index w id
  · rw [← sk_index]; exact index_any w p nb deep id l h4
theorem kids_v : Calls Tryd.prog 32 #[v, .int .i64 id] w (OwnZ (kidsS L id) w) := by
  rcases h with ⟨rfl, rfl⟩ | ⟨p, nb, deep, l, rfl, rfl, _, h4, h5⟩
  · rw [kidsS_nil]
    refine (nil_kids w id).mono ?_
    rintro e w' ⟨rfl, rfl⟩
    exact ⟨_, rfl, World.ownsRow_nil _ _ _ _, Below.refl _ _⟩
  · rw [← sk_kids]; exact kids_any w p nb deep id l h4 (h5 id)
end

/-- A row of one's own, opened. -/
theorem OwnZ.open {L : List Int} {w w' : World} {e : Ending} (h : OwnZ L w e w') : ∃ ka kc, e = .returned (.slice ka L.length kc) ∧ KidsAt w' ka L ∧ (∀ b o q, ka = some ⟨b, o, q⟩ → w.heap.size ≤ b ∧ b < w'.heap.size) ∧ Below w.heap.size w w' := by
  obtain ⟨v, rfl, ho, hb⟩ := h
  rcases ho.2 with ⟨rfl, h0⟩ | ⟨g, cap, cur, rfl, hbg, hg, hnc, hcm, hcs, htake⟩
  · refine ⟨none, 0, by rw [h0], .inl (List.length_eq_zero_iff.1 h0), fun b o q e => (by cases e), hb⟩
  · refine ⟨some ⟨g, 0, none⟩, cap, rfl, .inr ⟨g, 0, rfl, fun j hj => ?_⟩, fun b o q e => ?_, hb⟩
    · have := ho.cells (g := g) rfl j _ (cellsZ_at hj)
      rw [Addr.add_lit] at this
      exact this
    · cases e
      exact ⟨hbg, (Array.getElem?_eq_some_iff.1 hg).1⟩

/-! ### up and down -/
def upsS (L : Sk) : Nat → Int → List Int
  | 0, _ => []
  | n + 1, id => if hasS L id then id :: upsS L n (upS L id) else []
def endsU (L : Sk) : Nat → Int → Bool
  | 0, id => !hasS L id
  | n + 1, id => if hasS L id then endsU L n (upS L id) else true
def downS (L : Sk) : Nat → Int → List Int
  | 0, _ => []
  | n + 1, id => if hasS L id then id :: (kidsS L id).flatMap (downS L n) else []
def endsK (L : Sk) : Nat → Int → Prop
  | 0, id => hasS L id = false
  | n + 1, id => hasS L id = true → ∀ k ∈ kidsS L id, endsK L n k
theorem sk_endsU (l : List (Option Nd)) : ∀ (n : Nat) (id : Int), endsD l n id = endsU (sk l) n id
  | 0, id => by unfold endsD endsU; rw [sk_has]
  | n + 1, id => by unfold endsD endsU; rw [sk_has, sk_up, sk_endsU l n]
theorem sk_endsK (l : List (Option Nd)) : ∀ (n : Nat) (id : Int), endsH l n id → endsK (sk l) n id
  | 0, id, h => by unfold endsK; rw [← sk_has]; unfold hasT; unfold endsH at h; rw [h]; rfl
  | n + 1, id, h => by
    unfold endsK
    intro _ k hk
    rw [← sk_kids] at hk
    unfold kidsT at hk
    unfold endsH at h
    cases e : ndAt l id with
    | none => rw [e] at hk; cases hk
    | some x => rw [e] at hk; exact sk_endsK l n k (h x e k hk)
theorem endsU_nil (id : Int) : endsU [] 0 id = true := by unfold endsU; rw [hasS_nil]; rfl
theorem endsK_nil (id : Int) : endsK [] 0 id := hasS_nil id

end Go.Proofs.YtggjoefhopoggaaDoor
