/-
  The program's declarations: what its iterator does.
-/
import Derived.Test.YthoinlapopongaaDoorWalksF
namespace Go.Proofs.YthoinlapopongaaDoor
open Go.RowKit Go.Lib Go.Shelf
attribute [local go_sem] Oper.semAt_some

theorem yield_in {m m' : Nat} {P : Program} {l l₂ : Nat} {args : Array Value} {W : World} {R : Ending → World → Prop} (h : YieldAt Fence.wide m P l args W R) : YieldAt (Fence.wide.inRound l₂) m' P l args W R := by
  obtain ⟨fn, tmps, assign, body, hy, hF, hR⟩ := h
  exact ⟨fn, tmps, assign, body, hy, hF, fun c cs _ => hR c cs (room_wide _)⟩

theorem declarations_any (s : ByteArray) (w : World) :
    Calls Tryd.prog 15 #[.string s] w fun e w' =>
      e = .returned (.func (.func 25) #[] #[.pointer (some ⟨w.heap.size, 0, none⟩)]) ∧ w'.heap.size = w.heap.size + 1 ∧ Below w.heap.size w w' ∧ w'.cell? ⟨w.heap.size, 0, none⟩ = some (.string s) := by
  go_enter Tryd.func15, Tryd.ntmps15
  go_wp2
  go_ret
  exact ⟨rfl, by simp, (Below.refl _ w).alloc (Nat.le_refl _) _, by simp⟩

def declO (b : ByteArray) : Option (ByteArray × ByteArray) := declB b.data.toList
theorem decls_split (s : ByteArray) : (splitS s).filterMap declO = declsB s.data.toList := by
  unfold splitS declsB
  rw [List.filterMap_map]
  rfl
theorem split_mem {s x : ByteArray} (h : x ∈ splitS s) : x.size ≤ s.size := by
  obtain ⟨l, hl, rfl⟩ := List.mem_map.1 h
  have := partsB_len 59 _ l hl
  rw [size_eq, size_eq]
  exact this
theorem cut_len (l c : List UInt8) : (cut l c).1.length ≤ l.length ∧ (cut l c).2.1.length ≤ l.length := by
  unfold cut
  split
  · exact ⟨by rw [List.length_take]; omega, by simp⟩
  · simp
theorem asB_size (l : List UInt8) : (⟨l.toArray⟩ : ByteArray).size = l.length := by rw [size_eq]

set_option maxHeartbeats 8000000 in
theorem decls_goes (B : Nat) (s : ByteArray) (hs : s.size ≤ 1000000000) (Kg : World → Prop) (hKE : ∀ W, Kg W → Env W) (w : World) (hB : w.heap.size = B + 1) (h1 : w.cell? ⟨B, 0, none⟩ = some (.string s)) :
    Goes Tryd.prog 25 #[.pointer (some ⟨B, 0, none⟩)] (fun d : ByteArray × ByteArray => #[.string d.1, .string d.2]) False (fun xs => xs = declsB s.data.toList) (fun _ => False) (fun _ d => d.2.size ≤ s.size) Kg B w := fun l J Jx W hW hJ hJx hK hY h0 => by
  replace h1 := (hW.cell (p := ⟨B, 0, none⟩) (by simp; omega)).trans h1
  have hWs := hW.size
  rw [hB] at hWs hJ hJx hY
  have hsp := fun w => SplitSeq_any s w
  refine callsIn_of_wp_marks Tryd.func25 rfl trivial ?_ rfl
  simp only [Tryd.ntmps25, List.size_toArray, List.length_cons, List.length_nil, Nat.reduceAdd, Nat.reduceSub, Array.replicate_succ, Array.replicate_zero, List.push_toArray, List.append_toArray, List.nil_append, List.cons_append]
  obtain ⟨y1, y2⟩ := new_cell W (.func (.yield l) #[] #[]) 30
  have h1' := old_cell (.cells #[.func (.yield l) #[] #[]] 30) h1
  gi_wp2_with (refine ⟨trivial, ?_⟩; gi_at_call 26; refine (callsIn_wide.2 (hsp _)).mono ?_; rintro e w1 ⟨rfl, hz1, hb1, c1, f1, c2, c3⟩)
  rw [World.size_alloc] at hz1 hb1 c1 f1 c2 c3
  have hb0 : Below W.heap.size W w1 := ((Below.refl _ W).alloc (Nat.le_refl _) _).trans (hb1.mono (by omega))
  replace y1 := (hb1.cell (p := ⟨W.heap.size, 0, none⟩) (show W.heap.size < W.heap.size + 1 by omega)).trans y1
  clear h1 h1' y2 hb1 hsp
  have mine : ∀ k, W.heap.size ≤ k → Mine B (B + 1) W.heap.size k := fun k h => .inr h
  refine range_goes (gf := 42) rfl (enters_of Tryd.func42 (by kernel_rfl) rfl)
    (split_goes (W.heap.size + 1) s hs False Kg w1 hz1 c1 f1 c2 c3) (by omega) (Below.refl _ _) (fun _ => rfl)
    (fun pre V => J (pre.filterMap declO) V ∧ W.heap.size ≤ V.heap.size ∧ V.cell? ⟨W.heap.size, 0, none⟩ = some (.func (.yield l) #[] #[]))
    (fun _ _ _ => False)
    (fun s V V' row h hg hr => ⟨hJ _ _ _ _ h.1 hg (fun r e => mine r (by have := hr r e; omega)), Nat.le_trans h.2.1 hg.size, grown_cell (own := (W.heap.size + 1 ≤ ·)) hg hr (show ¬ W.heap.size + 1 ≤ W.heap.size by omega) h.2.2⟩)
    (fun _ _ _ _ _ h _ _ => h) (fun _ _ _ h => h) (fun _ _ h => hK _ _ h.1)
    ⟨hJ.below hb0 h0, hb0.size, y1⟩
    (fun x => { tmps := #[.func (.yield l) #[] #[], .pointer (some ⟨B, 0, none⟩), .pointer (some ⟨W.heap.size, 0, none⟩), .string x, undef, undef, undef, .string s, .func (.func 42) #[] #[.pointer (some ⟨W.heap.size + 1 + 1, 0, none⟩), .pointer (some ⟨W.heap.size + 1, 0, none⟩), .pointer (some ⟨W.heap.size + 1 + 2, 0, none⟩)], .string x, undef, undef, undef, undef, undef, undef, undef, undef, undef, undef, undef, undef, undef, undef, undef, undef], defers := [] }) ?assign ?body ?done ?stop
  case assign =>
    intro l x V K hK
    gi_wp2
    exact hK
  case body =>
    rintro l₂ pre x V hsz ⟨hj, hVs, hyc⟩ hT
    have hxs : x.size ≤ s.size := split_mem (hT.subset (by simp))
    have hE := hKE _ (hK _ _ hj)
    have hcut := cut_any x V (by omega) hE
    obtain ⟨hl1, hl2⟩ := cut_len x.data.toList [58]
    rw [← size_eq] at hl1 hl2
    have hd : declO x = if (cut x.data.toList [58]).2.2 then some (⟨(plainB (cut x.data.toList [58]).1).toArray⟩, ⟨(plainB (cut x.data.toList [58]).2.1).toArray⟩) else none := rfl
    generalize cut x.data.toList [58] = z at *
    obtain ⟨p, q, f⟩ := z
    dsimp only at hcut hl1 hl2 hd
    have hmx : Tryd.prog.follows .mixedOrders = true := by kernel_rfl
    have hmem : ∀ k, W.heap.size + 1 ≤ k → Mine B (B + 1) W.heap.size k := fun k h => mine k (by omega)
    cases f with
    | false =>
      rw [if_neg (by simp)] at hd
      gi_wp2_with (refine ⟨trivial, ?_⟩; gi_at_call 27; refine (CallsIn.inRound l₂ (callsIn_wide.2 hcut)).mono ?_; rintro e w2 ⟨rfl, hb⟩)
      have y2 := (hb.cell (p := ⟨W.heap.size, 0, none⟩) (lt_of_cell' hyc)).trans hyc
      replace hb : Below V.heap.size V w2.drew := hb.trans ((below_draws w2 1).mono hb.size)
      have e0 : (pre ++ [x]).filterMap declO = pre.filterMap declO := by rw [List.filterMap_append, List.filterMap_cons, hd]; simp
      have E0 := Lib.hid e0
      clear e0 hd
      gi_region_with_o (first | (refine ⟨trivial, ?_⟩) | (refine ⟨(fun f h => by cases h), ?_⟩))
      all_goals gi_wp2
      all_goals exact ⟨Stays.below hb, by rw [E0.out]; exact hJ.below hb hj, Nat.le_trans hVs hb.size, y2⟩
    | true =>
      rw [if_pos rfl] at hd
      have e0 : (pre ++ [x]).filterMap declO = pre.filterMap declO ++ [(⟨(plainB p).toArray⟩, ⟨(plainB q).toArray⟩)] := by rw [List.filterMap_append, List.filterMap_cons, hd]; simp
      have E0 := Lib.hid e0
      clear e0 hd
      have hp1 := fun w => plain_any ⟨p.toArray⟩ w (by rw [asB_size]; omega)
      have hp2 := fun w => plain_any ⟨q.toArray⟩ w (by rw [asB_size]; omega)
      have hYY := fun w1 h1 h2 => hY (pre.filterMap declO) (⟨(plainB p).toArray⟩, ⟨(plainB q).toArray⟩) w1 h1 h2 (by show (⟨(plainB q).toArray⟩ : ByteArray).size ≤ s.size; rw [asB_size]; have := plainB_len q; omega)
      gi_wp2_with (refine ⟨trivial, ?_⟩; gi_at_call 27; refine (CallsIn.inRound l₂ (callsIn_wide.2 hcut)).mono ?_; rintro e w2 ⟨rfl, hb⟩)
      have y2 := (hb.cell (p := ⟨W.heap.size, 0, none⟩) (lt_of_cell' hyc)).trans hyc
      replace hb : Below V.heap.size V w2.drew := hb.trans ((below_draws w2 1).mono hb.size)
      gi_region_with_o (first
        | (refine ⟨trivial, ?_⟩; gi_at_call 28; ((with_reducible refine (CallsIn.inRound l₂ (callsIn_wide.2 (hp1 _))).mono ?_); rintro e w3 ⟨rfl, hb3⟩; replace y2 := (hb3.cell (p := ⟨W.heap.size, 0, none⟩) (lt_of_cell' y2)).trans y2; replace hb := hb.trans (hb3.mono hb.size)))
        | (refine ⟨trivial, ?_⟩; gi_at_call 28; ((with_reducible refine (CallsIn.inRound l₂ (callsIn_wide.2 (hp2 _))).mono ?_); rintro e w3 ⟨rfl, hb3⟩; replace y2 := (hb3.cell (p := ⟨W.heap.size, 0, none⟩) (lt_of_cell' y2)).trans y2; replace hb := hb.trans (hb3.mono hb.size)))
        | (obtain ⟨fn, tmps, assign, body, hy, hR⟩ := yield_in (l₂ := l₂) (m' := 8) (hYY _ (Nat.le_trans hVs hb.size) (hJ.below hb hj)); go_simp; refine hR.mono ?_; rintro e W3 (⟨rfl, hJ3, hk3⟩ | ⟨⟨⟩, _⟩)))
      all_goals gi_wp2
      all_goals exact ⟨(Stays.below hb).trans (hk3.less hmem), by rw [E0.out]; exact hJ3, Nat.le_trans (Nat.le_trans hVs hb.size) hk3.size, hk3.cell (mine _ (Nat.le_refl _)) y2⟩
  case done =>
    rintro D xs V hD rfl ⟨hj, hVs, hyc⟩ hK'
    gi_wp2
    refine ⟨by simp, .inl ⟨_, _, rfl, run_takeDeferred hK', ?_⟩⟩
    exact ⟨_, results_none rfl _ _ _, ⟨_, rfl⟩, .inl ⟨_, decls_split s, hJ _ _ _ _ hj (grownBy_putObj' V D (.deferred none)) (fun r e => by cases e; exact mine D (by omega))⟩⟩
  case stop => 
    rintro D c pre V _ _ h _
    exact h.elim

end Go.Proofs.YthoinlapopongaaDoor
