/-
  Plain facts on planting: what grows, heights, numbers that are free.
    plant.
-/
import Derived.Test.YtggjoefhopoggaaDoorCCalls

namespace Go.Proofs.YtggjoefhopoggaaDoor
open Go.RowKit Go.Lib

mutual
/-- How high a plain tree is. -/
def hP : Pn → Int
  | .mk _ _ _ _ _ _ _ _ _ kids => hPs kids
def hPs : List Pn → Int
  | [] => 0
  | t :: r => max (hP t + 1) (hPs r)
end
theorem hP_eq (t : Pn) : hP t = hPs t.kids := by cases t; rw [hP]; rfl
theorem hPs_mem : ∀ (l : List Pn) (t : Pn), t ∈ l → hP t + 1 ≤ hPs l
  | [], _, h => by cases h
  | s :: l, t, h => by
    rw [hPs]
    rcases List.mem_cons.1 h with rfl | h
    · omega
    · have := hPs_mem l t h; omega
theorem hPs_pos : ∀ l : List Pn, 0 ≤ hPs l
  | [] => by rw [hPs]; omega
  | s :: l => by rw [hPs]; have := hPs_pos l; omega
mutual
theorem highP_is : ∀ (t : Pn) (lev h : Int), highP lev h t = max h (lev + hP t)
  | .mk tag aa an ac tx ka kn kc ats kids, lev, h => by
    rw [highP, hP, highPs_is kids (lev + 1) (max h lev) (by omega)]
    have := hPs_pos kids
    omega
theorem highPs_is : ∀ (l : List Pn) (lev h : Int), lev - 1 ≤ h → highPs lev h l = max h (lev - 1 + hPs l)
  | [], lev, h, hh => by rw [highPs, hPs]; omega
  | t :: r, lev, h, hh => by
    rw [highPs, hPs, highP_is t lev h, highPs_is r lev _ (by omega)]
    omega
end

/-- What was there is there as it was. -/
structure Grows (l l' : List (Option Nd)) : Prop where
  len : l'.length = l.length
  old : ∀ (j : Nat) (y : Nd), l[j]? = some (some y) → l'[j]? = some (some y)
theorem Grows.refl (l : List (Option Nd)) : Grows l l := ⟨rfl, fun _ _ h => h⟩
theorem Grows.trans {a b c : List (Option Nd)} (h : Grows a b) (k : Grows b c) : Grows a c := ⟨by rw [k.len, h.len], fun j y hj => k.old j y (h.old j y hj)⟩
theorem Grows.set {l l' : List (Option Nd)} (h : Grows l l') {k : Nat} {v : Option Nd} (hk : l[k]? = some none) : Grows l (l'.set k v) :=
  ⟨by rw [List.length_set, h.len], fun j y hj => by rw [set_ne (fun e => by rw [e, hk] at hj; cases hj)]; exact h.old j y hj⟩

section
variable {deep : Int} {l l' : List (Option Nd)}
theorem fold_le {f : Int → Int} {M : Int} : ∀ (ks : List Int) (z : Int), z ≤ M → (∀ k ∈ ks, f k + 1 ≤ M) → ks.foldl (fun h k => max h (f k + 1)) z ≤ M
  | [], z, hz, _ => hz
  | a :: ks, z, hz, h => by
    rw [List.foldl_cons]
    exact fold_le ks _ (by have := h a (by simp); omega) (fun k hk => h k (by simp [hk]))
theorem Grows.height (h : Grows l l') (hI : Inv deep l) : ∀ (n j : Nat) (y : Nd), l[j]? = some (some y) → heightF l' n (j : Int) = heightF l n (j : Int)
  | 0, j, y, hj => rfl
  | n + 1, j, y, hj => by
    rw [heightS (ndAt_of hj), heightS (ndAt_of (h.old j y hj))]
    refine fold_same _ _ (fun k hk => ?_)
    obtain ⟨m, z, rfl, hz, _⟩ := hI.kid j y k hj hk
    exact h.height hI n m z hz
/-- Heights within what does not hold i are as they were, when a kid comes into i. -/
theorem join_same (hI : Inv deep l) {i j a : Nat} {x y : Nd} (hi : l[i]? = some (some x)) (hj : l[j]? = some (some y)) (hij : i ≠ j) (ka : Option Addr) (kc : Nat) : ∀ (n k : Nat) (z : Nd), l[k]? = some (some z) → ¬ Sub l k i → heightF (joinedZ l i x a j y ka kc) n (k : Int) = heightF l n (k : Int)
  | 0, k, z, hk, _ => rfl
  | n + 1, k, z, hk, hs => by
    have hki : k ≠ i := fun e => hs (by subst e; exact ⟨⟨z, hk⟩, 0, rfl⟩)
    obtain ⟨z', h1, h2⟩ : ∃ z', (joinedZ l i x a j y ka kc)[k]? = some (some z') ∧ z'.kids = z.kids := by
      unfold joinedZ
      by_cases e : k = j
      · subst e
        rw [hj] at hk
        obtain rfl := Option.some.inj (Option.some.inj hk)
        exact ⟨_, set_at (w := some y) (by rw [set_ne hki]; exact hj), rfl⟩
      · exact ⟨z, by rw [set_ne e, set_ne hki]; exact hk, rfl⟩
    rw [heightS (ndAt_of hk), heightS (ndAt_of h1), h2]
    refine fold_same _ _ (fun m hm => ?_)
    obtain ⟨m2, z2, rfl, hz2, _⟩ := hI.kid k z m hk hm
    exact join_same hI hi hj hij ka kc n m2 z2 hz2 (fun hs2 => hs ((hI.sub_kids hk i).2 (.inr ⟨m2, hm, hs2⟩)))
theorem join_high (hI : Inv deep l) (hd : deep ≤ 40) {i j a : Nat} {x y : Nd} {M : Int} (hi : l[i]? = some (some x)) (hj : l[j]? = some (some y)) (hij : i ≠ j) (hxu : x.up = -1) (ka : Option Addr) (kc : Nat) (hJ : Inv deep (joinedZ l i x a j y ka kc)) (h1 : heightF l 41 (i : Int) ≤ M) (h2 : heightF l 41 (j : Int) + 1 ≤ M) : heightF (joinedZ l i x a j y ka kc) 41 (i : Int) ≤ M := by
  have hM : 0 ≤ M := by have := Inv.height0 (l := l) hi; omega
  have hnot : ∀ k : Nat, k ≠ i → ¬ Sub l k i := fun k hk ⟨_, n, hn⟩ => by
    cases n with
    | zero => have : (i : Int) = (k : Int) := hn; omega
    | succ n =>
      have e : upN l n (upT l (i : Int)) = (k : Int) := hn
      rw [(nd_some hi).2, hxu, upN_neg] at e
      omega
  have hx' : (joinedZ l i x a j y ka kc)[i]? = some (some { x with ka := ka, kc := kc, kids := insZ x.kids a j }) := by
    unfold joinedZ
    rw [set_ne hij]
    exact set_at hi
  rw [← height_more 41 (i : Int) (hJ.endsHa hd _), heightS (ndAt_of hx')]
  refine fold_le _ _ hM (fun k hk => ?_)
  rcases mem_insZ.1 hk with rfl | hk
  · rw [join_same hI hi hj hij ka kc 41 j y hj (hnot j (fun e => hij e.symm))]
    exact h2
  · obtain ⟨m, z, rfl, hz, hzu⟩ := hI.kid i x k hi hk
    have hmi : m ≠ i := fun e => by
      obtain ⟨r, hr⟩ := hI.dep
      have := hr.up m z i hz hzu
      rw [e] at this
      omega
    rw [join_same hI hi hj hij ka kc 41 m z hz (hnot m hmi)]
    have := hI.high hd hz hzu
    omega

theorem countF_set : ∀ (l : List (Option Nd)) (k : Nat) (x : Nd), l[k]? = some none → countF (l.set k (some x)) = countF l + 1
  | [], k, x, h => by simp at h
  | v :: l, 0, x, h => by
    have e : v = none := by simpa using h
    subst e
    simp [countF]
  | v :: l, k + 1, x, h => by
    have ih := countF_set l k x (by simpa using h)
    unfold countF at ih ⊢
    rw [List.set_cons_succ, List.filter_cons, List.filter_cons]
    split
    · simp only [List.length_cons]; omega
    · exact ih
theorem countF_same : ∀ (l : List (Option Nd)) (k : Nat) (x y : Nd), l[k]? = some (some y) → countF (l.set k (some x)) = countF l
  | [], k, x, y, h => by simp at h
  | v :: l, 0, x, y, h => by
    have e : v = some y := by simpa using h
    subst e
    simp [countF]
  | v :: l, k + 1, x, y, h => by
    have ih := countF_same l k x y (by simpa using h)
    unfold countF at ih ⊢
    rw [List.set_cons_succ, List.filter_cons, List.filter_cons]
    split
    · simp only [List.length_cons]; omega
    · exact ih
theorem ixN_full : ∀ (l : List (Option Nd)) (i : Nat), ixN l i = -1 → countF l = l.length
  | [], _, _ => rfl
  | none :: l, i, h => by
    have e : (i : Int) = -1 := h
    omega
  | some x :: l, i, h => by
    have ih := ixN_full l (i + 1) h
    unfold countF at ih ⊢
    rw [List.filter_cons_of_pos (by rfl), List.length_cons, List.length_cons, ih]
theorem ixN_room {l : List (Option Nd)} (h : countF l < l.length) : ∃ k : Nat, ixN l 0 = (k : Int) ∧ l[k]? = some none := by
  rcases ixN_dec l 0 with h1 | ⟨k, h1⟩
  · have := ixN_full l 0 h1; omega
  · obtain ⟨_, h2⟩ := ixN_at l 0 k h1
    rw [Nat.sub_zero] at h2
    exact ⟨k, h1, h2⟩
theorem joined_count {i j a : Nat} {x y : Nd} (hi : l[i]? = some (some x)) (hj : l[j]? = some (some y)) (hij : i ≠ j) (ka : Option Addr) (kc : Nat) : countF (joinedZ l i x a j y ka kc) = countF l := by
  unfold joinedZ
  rw [countF_same _ j _ y (by rw [set_ne (fun e => hij e.symm)]; exact hj), countF_same _ i _ x hi]
end

theorem goodPs_mem : ∀ (l : List Pn) (t : Pn), t ∈ l → goodPs l = true → goodP t = true
  | [], _, h, _ => by cases h
  | s :: l, t, h, hg => by
    rw [goodPs, Bool.and_eq_true] at hg
    rcases List.mem_cons.1 h with rfl | h
    · exact hg.1
    · exact goodPs_mem l t h hg.2
theorem shortPs_mem : ∀ (l : List Pn) (t : Pn), t ∈ l → shortPs l = true → shortP t = true
  | [], _, h, _ => by cases h
  | s :: l, t, h, hg => by
    rw [shortPs, Bool.and_eq_true] at hg
    rcases List.mem_cons.1 h with rfl | h
    · exact hg.1
    · exact shortPs_mem l t h hg.2
theorem slimPs_mem : ∀ (l : List Pn) (t : Pn), t ∈ l → slimPs l = true → slimP t = true
  | [], _, h, _ => by cases h
  | s :: l, t, h, hg => by
    rw [slimPs, Bool.and_eq_true] at hg
    rcases List.mem_cons.1 h with rfl | h
    · exact hg.1
    · exact slimPs_mem l t h hg.2
theorem sizePs_app : ∀ (l : List Pn) (t : Pn), sizePs (l ++ [t]) = sizePs l + sizeP t
  | [], t => by rw [List.nil_append, sizePs, sizePs, sizePs]; omega
  | s :: l, t => by rw [List.cons_append, sizePs, sizePs, sizePs_app l t]; omega
theorem sizePs_take {l : List Pn} {a : Nat} {t : Pn} (h : l[a]? = some t) : sizePs (l.take (a + 1)) = sizePs (l.take a) + sizeP t := by
  rw [List.take_add_one, h, ← sizePs_app]
  rfl
theorem sizePs_take_le : ∀ (l : List Pn) (a : Nat), sizePs (l.take a) ≤ sizePs l
  | [], a => by simp
  | s :: l, 0 => by simp [sizePs]
  | s :: l, a + 1 => by rw [List.take_succ_cons, sizePs, sizePs]; have := sizePs_take_le l a; omega

/-- A plain tree has been planted: its node stands loose at id. -/
def Planted (B : Nat) (p nb : Nat) (deep : Int) (l : List (Option Nd)) (c : Nat) (hi : Int) (w : World) (e : Ending) (w' : World) : Prop :=
  ∃ (id : Nat) (l' : List (Option Nd)) (x : Nd), e = .returned (.int .i64 id) ∧ Below B w w' ∧ Full B w' p nb deep l' ∧ Inv deep l' ∧ Grows l l' ∧ l[id]? = some none ∧ l'[id]? = some (some x) ∧ x.up = -1 ∧ countF l' = countF l + c ∧ heightF l' 41 (id : Int) ≤ hi
/-- How far planting has come: a of the kids stand. -/
structure Sown (B : Nat) (p nb : Nat) (deep : Int) (l : List (Option Nd)) (t : Pn) (id : Nat) (a : Nat) (w wr : World) (la : List (Option Nd)) (x : Nd) : Prop where
  bel : Below B w wr
  full : Full B wr p nb deep la
  inv : Inv deep la
  gr : Grows l la
  free : l[id]? = some none
  at_ : la[id]? = some (some x)
  up : x.up = -1
  tag : x.tag = t.tag
  kl : x.kids.length = a
  cnt : countF la = countF l + 1 + sizePs (t.kids.take a)
  hi : heightF la 41 (id : Int) ≤ hP t

theorem But.trans {nb : Nat} {a b c : World} (h : But nb a b) (k : But nb b c) : But nb a c :=
  ⟨Nat.le_trans h.size k.size, fun x hx hn => (k.block x (Nat.lt_of_lt_of_le hx h.size) hn).trans (h.block x hx hn)⟩
section
variable {B p nb : Nat} {deep : Int} {l la : List (Option Nd)} {t s : Pn} {id a : Nat} {w wr w1 w2 : World} {x : Nd}
theorem Sown.start (hI : Inv deep l) (hd : 0 ≤ deep) (hb : Below B w wr) {k : Nat} (hk : ixN l 0 = (k : Int)) {b : Nat} {aa : Option Addr} {an ac : Nat} {tx : ByteArray} {ats : List (ByteArray × ByteArray)} (hats : ats.length ≤ 10000 ∧ tx.size ≤ 8192) (hF : Full B wr p nb deep (l.set k (some (ndF b t.tag aa an ac tx ats)))) :
    Sown B p nb deep l t k 0 w wr (l.set k (some (ndF b t.tag aa an ac tx ats))) (ndF b t.tag aa an ac tx ats) := by
  obtain ⟨_, hkn⟩ := ixN_at l 0 k hk
  rw [Nat.sub_zero] at hkn
  have hat := set_at (v := some (ndF b t.tag aa an ac tx ats)) hkn
  refine ⟨hb, hF, hI.came hd hk b t.tag aa an ac tx ats hats, (Grows.refl l).set hkn, hkn, hat, rfl, rfl, rfl, ?_, ?_⟩
  · rw [countF_set _ _ _ hkn, List.take_zero, sizePs]
  · rw [heightS (ndAt_of hat)]
    show (0 : Int) ≤ _
    rw [hP_eq]
    exact hPs_pos _
/-- A kid has been planted and joined. -/
theorem Sown.step (h : Sown B p nb deep l t id a w wr la x) (hd : deep ≤ 40) (ht : hP t ≤ deep) (hs : t.kids[a]? = some s) (htag : t.tag ≠ 0) {j : Nat} {y : Nd} {l2 : List (Option Nd)} (hI2 : Inv deep l2) (hg : Grows la l2) (hfree : la[j]? = some none) (hj : l2[j]? = some (some y)) (hu : y.up = -1) (hc : countF l2 = countF la + sizeP s) (hh : heightF l2 41 (j : Int) ≤ hP s) (ka : Option Addr) (kc : Nat) (hb : Below B w w2) (hF : Full B w2 p nb deep (joinedZ l2 id x a j y ka kc)) :
    ∃ l3 x3, Sown B p nb deep l t id (a + 1) w w2 l3 x3 := by
  have hij : id ≠ j := fun e => by have := h.at_; rw [e, hfree] at this; cases this
  have hi := hg.old id x h.at_
  have hx0 := h.inv.host
  obtain ⟨x0, hx0, _, _⟩ := hx0
  have hj0 : j ≠ 0 := fun e => by rw [e, hx0] at hfree; cases hfree
  have hm := hPs_mem t.kids s (List.mem_of_getElem? hs)
  rw [← hP_eq] at hm
  have hlj : l[j]? = some none := by
    have hjl : j < l.length := by rw [← h.gr.len]; exact (List.getElem?_eq_some_iff.1 hfree).1
    cases e : l[j] with
    | none => rw [List.getElem?_eq_getElem hjl, e]
    | some z =>
      have := h.gr.old j z (by rw [List.getElem?_eq_getElem hjl, e])
      rw [this] at hfree; cases hfree
  have hroot : rootF l2 41 (id : Int) = (id : Int) := Inv.rootN hi h.up
  have hdep : depthF l2 41 (id : Int) = 0 := by
    have hn : depthF l2 40 (-1) = -1 := by
      rw [depthF, (nd_none (id := -1) (by rfl)).1, if_neg (by decide)]
    rw [depthF, (nd_some hi).1, if_pos rfl, (nd_some hi).2, h.up, hn]
    rfl
  have hJ := hI2.join hd (a := a) hi hj (by rw [h.tag]; exact htag) hu hj0 (by rw [hroot]; omega) (by rw [hdep]; omega) ka kc
  have h1 : heightF l2 41 (id : Int) ≤ hP t := by rw [hg.height h.inv 41 id x h.at_]; exact h.hi
  refine ⟨_, { x with ka := ka, kc := kc, kids := insZ x.kids a j }, hb, hF, hJ, ?_, h.free, ?_, h.up, h.tag, ?_, ?_, join_high hI2 hd hi hj hij h.up ka kc hJ h1 (by omega)⟩
  · unfold joinedZ
    exact ((h.gr.trans hg).set h.free).set hlj
  · unfold joinedZ
    rw [set_ne hij]
    exact set_at (w := some x) hi
  · have := h.kl
    show (insZ x.kids a j).length = a + 1
    unfold insZ
    simp
    omega
  · rw [joined_count hi hj hij, hc, h.cnt, sizePs_take hs]
    omega
end

set_option maxRecDepth 20000 in
set_option maxHeartbeats 8000000 in
theorem plant_any (B p nb : Nat) (deep : Int) (hd0 : 0 ≤ deep) (hd : deep ≤ 40) (w0 : World) (hB0 : w0.heap.size = B) : ∀ (n : Nat) (t : Pn), sizeP t ≤ n → PlAt w0 t → goodP t = true → shortP t = true → slimP t = true → hP t ≤ deep →
    ∀ (w : World) (l : List (Option Nd)), Below B w0 w → Full B w p nb deep l → Inv deep l → countF l + sizeP t ≤ l.length →
    Calls Tryd.prog 68 #[.pointer (some ⟨p, 0, none⟩), t.v] w (Planted B p nb deep l (sizeP t) (hP t) w)
  | 0, t, hn, _, _, _, _, _ => by have := sizeP_pos t; omega
  | n + 1, t, hn, hP0, hg, hsh, hsl, hh => by
    intro w l hb0 hF hI hc
    have ih := fun (s : Pn) (hs : s ∈ t.kids) (h1 : PlAt w0 s) (h2 : goodP s = true) (h3 : shortP s = true) (h4 : slimP s = true) (h5 : hP s ≤ deep) => plant_any B p nb deep hd0 hd w0 hB0 n s (by rw [sizeP_eq] at hn; have := sizePs_mem t.kids s hs; omega) h1 h2 h3 h4 h5
    have hbw : Below w0.heap.size w0 w := by rw [hB0]; exact hb0
    obtain ⟨hrow, hsz, htz, hkn, hk1, hkr, hks⟩ := hP0.parts
    have hrow2 := hrow.below hbw
    rw [shortP_eq, Bool.and_eq_true] at hsh
    obtain ⟨hok, hshk⟩ := hsh
    unfold okS at hok
    rw [Bool.and_eq_true, decide_eq_true_eq, decide_eq_true_eq] at hok
    rw [goodP_eq, Bool.and_eq_true] at hg
    obtain ⟨hmay, hgk⟩ := hg
    have hslk : t.an ≤ 200 ∧ slimPs t.kids = true := by
      cases t
      rw [slimP, Bool.and_eq_true, Bool.and_eq_true, decide_eq_true_eq, decide_eq_true_eq] at hsl
      exact ⟨hsl.1.2, hsl.2⟩
    have hlen : t.an = t.ats.length := by obtain ⟨a, c, e⟩ := hrow.len; exact (Value.slice.inj e).2.1
    have hspos := sizeP_pos t
    have hsq := sizeP_eq t
    obtain ⟨k, hk, hkl⟩ := ixN_room (l := l) (by omega)
    have hle := hF.t.le
    have hln := hF.ln
    have hbn := hF.bn
    have htag0 : t.kids ≠ [] → t.tag ≠ 0 := fun hne h0 => by
      unfold mayP at hmay
      rw [if_pos h0, Bool.and_eq_true, decide_eq_true_eq, decide_eq_true_eq] at hmay
      rw [hkn] at hmay
      exact hne (List.length_eq_zero_iff.1 hmay.2)
    have hkl2 : t.kids.length < 2000 := by have := sizePs_len t.kids; omega
    obtain ⟨S, hS0⟩ : ∃ S, anewS t.tx = S := ⟨_, rfl⟩
    have cN : ∀ W, Calls Tryd.prog 71 #[.string t.tx] W fun e w' => e = .returned (.tuple #[.string S, .bool true]) ∧ Below W.heap.size W w' := fun W => by
      have h := anew_any t.tx W
      rw [if_pos hok.1, decide_eq_true hok.2, hS0] at h
      exact h
    have cO : ∀ W, Below w.heap.size w W → Calls Tryd.prog 78 #[.slice t.aa t.an t.ac] W fun e w' => ∃ aa3 ac3, e = .returned (.slice aa3 t.an ac3) ∧ Below W.heap.size W w' ∧ Hid (∀ W2, Below w'.heap.size w' W2 → Calls Tryd.prog 72 #[.pointer (some ⟨p, 0, none⟩), .agg #[.int .i64 t.tag, .slice aa3 t.an ac3, .string S, .slice none 0 0]] W2 fun e w6 => e = .returned (.tuple #[.int .i64 k, .int .i64 0]) ∧ But nb W2 w6 ∧ Hid (∃ la x, Sown B p nb deep l t k 0 w w6 la x)) := fun W hb => (own_any W _ t.ats (hrow2.below hb) (by omega) hsz).mono (by
      rintro e w' ⟨v, rfl, ho, hb5⟩
      obtain ⟨aa3, ac3, rfl⟩ := (rowAt_of_own ho).len
      refine ⟨aa3, ac3, by rw [hlen], hb5, Lib.hid (fun W2 hb6 => ?_)⟩
      have hFW := hF.below hb
      have ho2 : W2.ownsRow W.heap.size 116 2 (.slice aa3 t.ats.length ac3) t.ats.length (cellsR t.ats) := ownsRow_below ho hb6
      have hbW2 := hb.trans ((hb5.trans (hb6.mono hb5.size)).mono hb.size)
      have := add_full B W2 p nb deep l (hF.below hbW2) k hk t.tag aa3 t.ats.length ac3 S t.ats (own_mono2 ho2 (by have := hb.size; omega)) (own_fits hFW ho2)
      rw [hlen]
      refine this.mono ?_
      rintro e w6 ⟨rfl, h1, ⟨b, _, h2⟩, h3⟩
      exact ⟨rfl, h3, Lib.hid ⟨_, _, Sown.start hI hd0 ((hbW2.mono (by omega)).trans h1) hk ⟨by omega, hS0 ▸ hok.2⟩ h2⟩⟩)
    have cP : ∀ (a : Nat) (wr W : World) (s : Pn), t.kids[a]? = some s → (∃ la x, Sown B p nb deep l t k a w wr la x) → Below wr.heap.size wr W → Calls Tryd.prog 68 #[.pointer (some ⟨p, 0, none⟩), s.v] W fun e w' => ∃ j : Nat, e = .returned (.int .i64 j) ∧ Calls Tryd.prog 69 #[.pointer (some ⟨p, 0, none⟩), .int .i64 k, .int .i64 a, .int .i64 j] w' fun e2 w2 => e2 = .returned (.tuple #[]) ∧ Hid (∃ la x, Sown B p nb deep l t k (a + 1) w w2 la x) := fun a wr W s hs ⟨la, x, hW⟩ hb => by
      have hmem := List.mem_of_getElem? hs
      have htl := sizePs_take hs
      have htl2 := sizePs_take_le t.kids (a + 1)
      have hcn := hW.cnt
      have hgl := hW.gr.len
      have hal := (List.getElem?_eq_some_iff.1 hs).1
      have hkx := hW.kl
      have hhs := hPs_mem t.kids s hmem
      rw [← hP_eq] at hhs
      have hbW : Below B w W := hW.bel.trans (hb.mono (by have := hW.full.bn; have := hW.full.ln; omega))
      refine (ih s hmem (hks s hmem) (goodPs_mem _ _ hmem hgk) (shortPs_mem _ _ hmem hshk) (slimPs_mem _ _ hmem hslk.2) (by omega) W la (hb0.trans hbW) (hW.full.below hb) hW.inv (by omega)).mono ?_
      rintro e w' ⟨j, l2, y, rfl, q1, q2, q3, q4, q5, q6, q7, q8, q9⟩
      have hij : k ≠ j := fun e => by have := hW.at_; rw [e, q5] at this; cases this
      refine ⟨j, rfl, (join_any B w' p nb deep l2 q2 k a j x y (q4.old k x hW.at_) q6 hij (by omega) (by omega)).mono ?_⟩
      rintro e2 w2 ⟨rfl, r1, ka2, kc2, r2⟩
      exact ⟨rfl, Lib.hid (hW.step hd hh hs (htag0 (List.ne_nil_of_mem hmem)) q3 q4 q5 q6 q7 q8 q9 ka2 kc2 ((hbW.trans q1).trans r1) r2)⟩
    have HEnd : Hid (∀ W, (∃ la x, Sown B p nb deep l t k t.kn w W la x) → Planted B p nb deep l (sizeP t) (hP t) w (.returned (.int .i64 k)) W) := Lib.hid (fun W ⟨la, x, h⟩ => ⟨k, la, x, rfl, h.bel, h.full, h.inv, h.gr, h.free, h.at_, h.up, by rw [h.cnt, hkn, List.take_length]; omega, h.hi⟩)
    have HLat : Hid (∀ a W W2, Below W.heap.size W W2 → (∃ la x, Sown B p nb deep l t k a w W la x) → ∃ la x, Sown B p nb deep l t k a w W2 la x) := Lib.hid (fun a W W2 hb ⟨la, x, h⟩ => ⟨la, x, h.bel.trans (hb.mono (by have := h.full.bn; have := h.full.ln; omega)), h.full.below hb, h.inv, h.gr, h.free, h.at_, h.up, h.tag, h.kl, h.cnt, h.hi⟩)
    have HRow : Hid (∀ (a : Nat) (s : Pn) (wr : World), t.kids[a]? = some s → (∃ la x, Sown B p nb deep l t k a w wr la x) → ∃ b o, t.ka = some ⟨b, o, none⟩ ∧ wr.cell? ⟨b, o + a * 4, none⟩ = some (.int .i64 s.tag) ∧ wr.cell? ⟨b, o + a * 4 + 1, none⟩ = some (.slice s.aa s.an s.ac) ∧ wr.cell? ⟨b, o + a * 4 + 2, none⟩ = some (.string s.tx) ∧ wr.cell? ⟨b, o + a * 4 + 3, none⟩ = some (.slice s.ka s.kn s.kc)) := Lib.hid (fun a s wr hs ⟨la, x, h⟩ => by
      have hbr := hb0.trans h.bel
      rcases hkr with h0 | ⟨b, o, eka, hbl, hcells⟩
      · rw [h0] at hs; simp at hs
      · obtain ⟨y0, y1, y2, y3⟩ := hcells a s hs
        rw [hB0] at hbl
        exact ⟨b, o, eka, (hbr.cell (p := ⟨b, o + a * 4, none⟩) hbl).trans y0, (hbr.cell (p := ⟨b, o + a * 4 + 1, none⟩) hbl).trans y1, (hbr.cell (p := ⟨b, o + a * 4 + 2, none⟩) hbl).trans y2, (hbr.cell (p := ⟨b, o + a * 4 + 3, none⟩) hbl).trans y3⟩)
    have hv : t.v = .agg #[.int .i64 t.tag, .slice t.aa t.an t.ac, .string t.tx, .slice t.ka t.kn t.kc] := rfl
    rw [hv]
    obtain ⟨tag, h1⟩ : ∃ z, t.tag = z := ⟨_, rfl⟩
    obtain ⟨aa, h2⟩ : ∃ z, t.aa = z := ⟨_, rfl⟩
    obtain ⟨an, h3⟩ : ∃ z, t.an = z := ⟨_, rfl⟩
    obtain ⟨ac, h4⟩ : ∃ z, t.ac = z := ⟨_, rfl⟩
    obtain ⟨tx, h5⟩ : ∃ z, t.tx = z := ⟨_, rfl⟩
    obtain ⟨ka, h6⟩ : ∃ z, t.ka = z := ⟨_, rfl⟩
    obtain ⟨kn, h7⟩ : ∃ z, t.kn = z := ⟨_, rfl⟩
    obtain ⟨kc, h8⟩ : ∃ z, t.kc = z := ⟨_, rfl⟩
    have HK : Hid (kn = t.kids.length) := Lib.hid (by rw [← h7]; exact hkn)
    have hnbl : Hid (nb < w.heap.size) := Lib.hid hln
    have hk1' : kn ≤ maxLen := by rw [← h7]; exact hk1
    have hk2 : kn < 2000 := by rw [← h7, hkn]; exact hkl2
    simp only [h1, h2, h3, h4, h5, h6, h7, h8] at cO cN cP HEnd HRow ⊢
    have hbx := (Below.refl _ w).alloc (Nat.le_refl _) (.cells #[.int .i64 tag, .slice aa an ac, .string tx, .slice ka kn kc] 67)
    have HBX := Lib.hid hbx
    have CO := Lib.hid cO
    have CP := Lib.hid cP
    clear h1 h2 h3 h4 h5 h6 h7 h8 hS0 hk hkl hle hln hbn htag0 hkl2 hlen hspos hsq hslk hmay hgk hshk hok hsl hkr hks hkn hk1 htz hsz hrow hrow2 hbw ih hF hI hc hb0 hP0 hn hh cO cP hbx hv
    go_enter Tryd.func68, Tryd.ntmps68
    go_upto_region 2 with (go_at_call 71; ((with_reducible refine (cN _).mono ?_); rintro e w2 ⟨rfl, hb2⟩))
    have hsz : (w.alloc (.cells #[.int .i64 tag, .slice aa an ac, .string tx, .slice ka kn kc] 67)).heap.size = w.heap.size + 1 := by simp
    have hbase := HBX.out.trans (hb2.mono HBX.out.size)
    have hge2 : w.heap.size < w2.heap.size := by have := hb2.size; omega
    have hS : (w2.cell? ⟨w.heap.size, 0, none⟩ = some (.int .i64 tag) ∧ w2.cell? ⟨w.heap.size, 1, none⟩ = some (.slice aa an ac) ∧ w2.cell? ⟨w.heap.size, 3, none⟩ = some (.slice ka kn kc)) := ⟨(hb2.cell (p := ⟨w.heap.size, 0, none⟩) (show w.heap.size < _ by omega)).trans (by simp [go_sem]), (hb2.cell (p := ⟨w.heap.size, 1, none⟩) (show w.heap.size < _ by omega)).trans (by simp [go_sem]), (hb2.cell (p := ⟨w.heap.size, 3, none⟩) (show w.heap.size < _ by omega)).trans (by simp [go_sem])⟩
    have KS : Hid (∀ W', But nb w2 W' → (W'.cell? ⟨w.heap.size, 0, none⟩ = some (.int .i64 tag) ∧ W'.cell? ⟨w.heap.size, 1, none⟩ = some (.slice aa an ac) ∧ W'.cell? ⟨w.heap.size, 3, none⟩ = some (.slice ka kn kc))) := Lib.hid (fun W' h => ⟨(h.cell hge2 (by have := hnbl.out; omega) 0).trans hS.1, (h.cell hge2 (by have := hnbl.out; omega) 1).trans hS.2.1, (h.cell hge2 (by have := hnbl.out; omega) 3).trans hS.2.2⟩)
    have HBase := Lib.hid hbase
    have hb : Hid (Below w2.heap.size w2 w2) := Lib.hid (Below.refl _ _)
    have hbt : Hid (But nb w2 w2) := Lib.hid (But.refl _ _)
    have cO := fun W (hq : Below w2.heap.size w2 W) => CO.out W (HBase.out.trans (hq.mono HBase.out.size))
    clear hsz hb2 hbase hge2
    go_region_held3 (fun W' => (W'.cell? ⟨w.heap.size, 0, none⟩ = some (.int .i64 tag) ∧ W'.cell? ⟨w.heap.size, 1, none⟩ = some (.slice aa an ac) ∧ W'.cell? ⟨w.heap.size, 3, none⟩ = some (.slice ka kn kc))) (first | (with_reducible exact hS) | (refine KS.out _ ?_; (repeat (first | (with_reducible exact hbt.out) | (with_reducible exact But.refl _ _) | (with_reducible refine But.drew ?_) | (with_reducible refine But.alloc ?_ _))); done)) (first
      | (go_at_call 78; ((with_reducible refine (cO _ (show Below w2.heap.size w2 _ by (repeat (first | (with_reducible exact hb.out) | (with_reducible exact Below.refl _ _) | (with_reducible refine Below.drew ?_) | (with_reducible refine Below.alloc ?_ ?_ _) | omega | (simp <;> omega))))).mono ?_); rintro e w5 ⟨aa3, ac3, rfl, hb5, HA⟩; have hd2 := Lib.hid ((show Below w2.heap.size w2 _ by (repeat (first | (with_reducible exact hb.out) | (with_reducible exact Below.refl _ _) | (with_reducible refine Below.drew ?_) | (with_reducible refine Below.alloc ?_ ?_ _) | omega | (simp <;> omega)))).trans (hb5.mono (by first | exact hb.out.size | (simp; exact hb.out.size) | (simp; omega)))); clear hb hb5; have hb := hd2; clear hd2 hbt; have hbt := Lib.hid (But.of_below (nb := nb) hb.out); replace hS := KS.out _ hbt.out))
      | (go_at_call 72; ((with_reducible refine (HA.out _ (by (repeat (first | (with_reducible exact Below.refl _ _) | (with_reducible refine Below.drew ?_) | (with_reducible refine Below.alloc ?_ ?_ _) | omega | (simp <;> omega))))).mono ?_); rintro e w6 ⟨rfl, hbt6, HQ⟩; have hd3 := Lib.hid (But.trans (show But nb w2 _ by (repeat (first | (with_reducible exact hbt.out) | (with_reducible exact But.refl _ _) | (with_reducible refine But.drew ?_) | (with_reducible refine But.alloc ?_ _)))) hbt6); clear hbt hbt6 hb; have hbt := hd3; clear hd3; replace hS := KS.out _ hbt.out)))
    all_goals obtain ⟨_, _, z3⟩ := hS
    all_goals go_wp2
    all_goals go_loopw [9, 10, 32] (fun _ _ i wr => ∃ a : Nat, a ≤ kn ∧ i = .int .i64 a ∧ Hid (∃ la x, Sown B p nb deep l t k a w wr la x)) (fun _ _ i _ => kn - (RowKit.intOf i).toNat)
    case atStart => exact ⟨0, Nat.zero_le _, rfl, Lib.hid (HLat.out _ _ _ (by (repeat (first | (with_reducible exact Below.refl _ _) | (with_reducible refine Below.drew ?_) | (with_reducible refine Below.alloc ?_ ?_ _) | omega | (simp <;> omega)))) HQ.out)⟩
    case round =>
      obtain ⟨a, ha, rfl, HA⟩ := hrel
      by_cases hlt : a < kn
      · have hal : a < t.kids.length := by rw [← HK.out]; exact hlt
        have haI : (a : Int) < (kn : Int) := by omega
        obtain ⟨s, hs⟩ : ∃ s, t.kids[a]? = some s := ⟨_, List.getElem?_eq_getElem hal⟩
        obtain ⟨b, o, eka, y0, y1, y2, y3⟩ := HRow.out a s wr hs HA.out
        have cP := fun (W : World) (hb : Below wr.heap.size wr W) => CP.out a wr W s hs HA.out hb
        have hvs : s.v = .agg #[.int .i64 s.tag, .slice s.aa s.an s.ac, .string s.tx, .slice s.ka s.kn s.kc] := rfl
        rw [hvs] at cP
        subst eka
        have hbr : Hid (Below wr.heap.size wr wr) := Lib.hid (Below.refl _ _)
        clear HA hal hs hvs
        go_wp2_with (first
          | (go_at_call 68; ((with_reducible refine (cP _ (by (repeat (first | (with_reducible exact Below.refl _ _) | (with_reducible refine Below.drew ?_) | (with_reducible refine Below.alloc ?_ ?_ _) | omega | (simp <;> omega))))).mono ?_); rintro e w7 ⟨j, rfl, cJ⟩))
          | (go_at_call 69; ((with_reducible refine (cJ).mono ?_); rintro e w8 ⟨rfl, HA8⟩)))
        go_roundw
        case rel => exact ⟨a + 1, hlt, by go_num, HA8⟩
        case measure => simp [RowKit.intOf]; omega
      · have ham : a = kn := by omega
        subst ham
        have HE := Lib.hid (HEnd.out _ HA.out)
        clear HA
        go_wp2
        go_ret
        exact HE.out

end Go.Proofs.YtggjoefhopoggaaDoor
