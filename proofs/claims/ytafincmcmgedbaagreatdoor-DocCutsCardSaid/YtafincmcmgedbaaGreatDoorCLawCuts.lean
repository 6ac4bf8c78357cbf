/-
  The law DocCuts.
-/
import Derived.Test.YtafincmcmgedbaaGreatDoorCDocP
import Derived.Test.YtafincmcmgedbaaGreatDoorCDocN
import Derived.Test.YtafincmcmgedbaaGreatDoorCRdSpl
import Derived.BigGuardPart

namespace Go.Proofs.YtafincmcmgedbaaGreatDoor
open Go.RowKit Go.Lib

set_option maxHeartbeats 4000000 in
theorem isS_any (v u : Value) (l m : List Lw) (e f : Int) (B : Nat) (w : World) (h : OwnD B w v l) (hu : DocAt w u m) (hf : Fine (pl l)) :
    Calls Tryz.prog 31 #[v, .int .i64 e, u, .int .i64 f] w fun en w' => en = .returned (.bool (decide (e = f) && sameD (pl l) (pl m))) ∧ ∃ w2, Below w.heap.size w w2 ∧ Spoilt B w2 w' := by
  have cS := rdsame_any v u l m w h.at hu hf
  have cX : ∀ w1, Below w.heap.size w w1 → _ := fun w1 h1 => spoil_any v l B w1 (h.below h1)
  obtain ⟨a, c, rfl⟩ := h.at.s.len
  obtain ⟨a2, c2, rfl⟩ := hu.s.len
  obtain ⟨S, hS⟩ : ∃ S, sameD (pl l) (pl m) = S := ⟨_, rfl⟩
  rw [hS] at cS ⊢
  clear h hu hf hS
  by_cases he : e = f
  · subst he
    rw [decide_eq_true rfl, Bool.true_and]
    go_enter Tryz.func31, Tryz.ntmps31
    go_wp2_with (first
      | (go_at_call 33; ((with_reducible refine cS.mono ?_); rintro en w2 ⟨rfl, hb⟩))
      | (go_at_call 67; ((with_reducible refine (cX _ hb).mono ?_); rintro en w3 ⟨rfl, hsp⟩)))
    go_ret
    exact ⟨rfl, w2, hb, hsp⟩
  · have he2 : (e == f) = false := by simpa using he
    have he3 : decide (e = f) = false := decide_eq_false he
    rw [he3, Bool.false_and]
    go_enter Tryz.func31, Tryz.ntmps31
    go_wp2_with (go_at_call 67; ((with_reducible refine (cX _ (Below.refl _ _)).mono ?_); rintro en w3 ⟨rfl, hsp⟩))
    go_ret
    exact ⟨rfl, w, Below.refl _ _, hsp⟩
theorem PsAt.spoilt {B : Nat} {w w1 w2 : World} {p : Nat} {a b : Int} (h : PsAt w p a b) (hb : Below w.heap.size w w1) (hs : Spoilt B w1 w2) : ∃ a' b', PsAt w2 p a' b' := by
  have h1 := h.below hb
  obtain ⟨a', ha⟩ := hs.int h1.c0
  obtain ⟨b', hb'⟩ := hs.int h1.c1
  exact ⟨a', b', by rw [hs.s]; exact h1.lt, ha, hb', hs.frozen h1.f0, hs.frozen h1.f1⟩
theorem PsAt.put {w : World} {p : Nat} {a b : Int} (h : PsAt w p a b) (x y : Int) : PsAt ((w.setCell ⟨p, 0, none⟩ (.int .i64 x)).setCell ⟨p, 1, none⟩ (.int .i64 y)) p x y := by
  obtain ⟨lt, c0, c1, f0, f1⟩ := h
  refine ⟨by simpa [World.setCell] using lt, ?_, ?_, ?_, ?_⟩ <;> simp [go_sem, *]
theorem PsAt.far {w : World} {p q : Nat} {a b : Int} (h : PsAt w p a b) (hne : q ≠ p) (x y : Int) : PsAt ((w.setCell ⟨q, 0, none⟩ (.int .i64 x)).setCell ⟨q, 1, none⟩ (.int .i64 y)) p a b := by
  obtain ⟨lt, c0, c1, f0, f1⟩ := h
  have e : ∀ i j, (⟨q, i, none⟩ : Addr) ≠ ⟨p, j, none⟩ := fun i j e => hne (congrArg Addr.block e)
  refine ⟨by simpa [World.setCell] using lt, ?_, ?_, ?_, ?_⟩
  · rw [World.cell?_setCell_other _ _ _ _ (e _ _), World.cell?_setCell_other _ _ _ _ (e _ _)]; exact c0
  · rw [World.cell?_setCell_other _ _ _ _ (e _ _), World.cell?_setCell_other _ _ _ _ (e _ _)]; exact c1
  · rw [World.frozen?_setCell, World.frozen?_setCell]; exact f0
  · rw [World.frozen?_setCell, World.frozen?_setCell]; exact f1
theorem OwnD.put2 {B q : Nat} {w : World} {v : Value} {m : List Lw} (h : OwnD B w v m) (hq : q < B) (x y : Int) : OwnD B ((w.setCell ⟨q, 0, none⟩ (.int .i64 x)).setCell ⟨q, 1, none⟩ (.int .i64 y)) v m :=
  (h.set (p := ⟨q, 0, none⟩) hq _).set (p := ⟨q, 1, none⟩) hq _
theorem below_put2 {B q : Nat} {w w1 : World} (h : Below B w w1) (hq : B ≤ q) (x y : Int) : Below B w ((w1.setCell ⟨q, 0, none⟩ (.int .i64 x)).setCell ⟨q, 1, none⟩ (.int .i64 y)) :=
  (h.setCell (p := ⟨q, 0, none⟩) hq _).setCell (p := ⟨q, 1, none⟩) hq _

theorem nil_fine : Fine [] := ⟨by decide, fun x hx => (by cases hx), by decide⟩
theorem part_is_fine {d : Doc} (hf : Fine d) (p1 p2 q1 q2 : Int) : Fine (partP d (p1, p2) (q1, q2)).1 := by
  have h1 := (part_fine d p1 p2 q1 q2 hf).1
  have h2 := part_count d p1 p2 q1 q2
  have h3 := part_le d p1 p2 q1 q2
  have h4 := hf.s
  refine ⟨h1, ?_, by omega⟩
  cases hA : askedD d (p1, p2) (q1, q2) with
  | false => unfold partP; rw [hA]; exact fun x hx => (by cases hx)
  | true =>
    obtain ⟨al, aa, bl, ba, hp, hq, hsp, hmay⟩ := askedD_span hA
    simp only [Prod.mk.injEq] at hp hq
    obtain ⟨rfl, rfl⟩ := hp
    obtain ⟨rfl, rfl⟩ := hq
    unfold partP
    rw [hA]
    intro x hx
    have hx2 : x ∈ eachD d partU (strs d al aa bl ba) := hx
    unfold eachD at hx2
    obtain ⟨s, hs, rfl⟩ := List.mem_map.1 hx2
    obtain ⟨m1, m2, m3⟩ := strs_mem hs
    have hb := hsp.hb
    have hz := hf.z d[s.1]! (at_mem (by omega))
    refine ⟨hz.1, ?_, fun k hk => ?_⟩
    · show (((d[s.1]!).cs.drop s.2.1).take (s.2.2 - s.2.1)).length ≤ 50000
      rw [List.length_take, List.length_drop]
      have := hz.2.1
      omega
    · have hk2 : k < (((d[s.1]!).cs.drop s.2.1).take (s.2.2 - s.2.1)).length := hk
      have e : (partU (d[s.1]!).cs s.2.1 s.2.2)[k]! = (d[s.1]!).cs[s.2.1 + k]! := by
        unfold partU
        exact getD_part _ _ _ _ (by rw [List.length_take] at hk2; omega)
      show ((partU (d[s.1]!).cs s.2.1 s.2.2)[k]!).2.2.size ≤ 1000000
      rw [e]
      refine hz.2.2 _ ?_
      rw [List.length_take, List.length_drop] at hk2
      omega
theorem del_is_fine {d : Doc} (hf : Fine d) (p1 p2 q1 q2 : Int) : Fine (delP d (p1, p2) (q1, q2)).1 := by
  cases hA : askedD d (p1, p2) (q1, q2) with
  | false => unfold delP; rw [hA]; exact nil_fine
  | true =>
    obtain ⟨al, aa, bl, ba, hp, hq, hsp, hmay⟩ := askedD_span hA
    simp only [Prod.mk.injEq] at hp hq
    obtain ⟨rfl, rfl⟩ := hp
    obtain ⟨rfl, rfl⟩ := hq
    unfold delP
    rw [hA]
    exact fine_delete hsp hf hmay
theorem ins_is_fine {d : Doc} (hf : Fine d) (p1 p2 : Int) {m : Row} (hfm : Fair m) : Fine (insP d (p1, p2) m).1 := by
  unfold insP
  by_cases hc : (askedD d (p1, p2) (p1, p2) && mayR m) = true
  · rw [if_pos hc]
    by_cases hb : 4000 < sizeD d + m.length
    · rw [if_pos hb]; exact nil_fine
    · rw [if_neg hb]
      simp only [Bool.and_eq_true] at hc
      obtain ⟨al, aa, bl, ba, hp, hq, hsp, hmay⟩ := askedD_span hc.1
      simp only [Prod.mk.injEq] at hp hq
      obtain ⟨rfl, rfl⟩ := hp
      have h1 := hsp.hab
      have h2 := hsp.hb
      exact insert_fine (i := al) (k := aa) (by omega) hsp.hka hf hmay (by omega) hfm
  · rw [if_neg hc]; exact nil_fine
theorem spl_is_fine {d : Doc} (hf : Fine d) (p1 p2 : Int) : Fine (splitP d (p1, p2)).1 := by
  unfold splitP
  cases hA : askedD d (p1, p2) (p1, p2) with
  | false => exact nil_fine
  | true =>
    rw [if_pos rfl]
    by_cases h200 : d.length = 200
    · rw [if_pos h200]; exact nil_fine
    · rw [if_neg h200]
      obtain ⟨al, aa, bl, ba, hp, hq, hsp, hmay⟩ := askedD_span hA
      simp only [Prod.mk.injEq] at hp hq
      obtain ⟨rfl, rfl⟩ := hp
      have h1 := hsp.hab
      have h2 := hsp.hb
      exact split_fine (i := al) (k := aa) (by omega) hsp.hka hf hmay

set_option maxRecDepth 40000 in
set_option maxHeartbeats 64000000 in
theorem lawCuts_walk (v u : Value) (l : List Lw) (m : Row) (p1 p2 q1 q2 : Int) (w : World) (hE : Tg.Env w) (h : DocAt w v l) (hs0 : SizedD l) (hu : RowAt w u m) (hsm : Sized m) (hml0 : m.length ≤ 140737488355328) :
    Calls Tryz.prog 5 #[v, .agg #[.int .i64 p1, .int .i64 p2], .agg #[.int .i64 q1, .int .i64 q2], u] w fun e w' => e = .returned (.bool true) ∧ Below w.heap.size w w' := by
  have hp : Tryz.prog.stoodInHeld 24 = false := by kernel_rfl
  have hS : Tryz.prog.underlying 24 = some (.struct (Tryz.prog.fieldsOf 24)) := by kernel_rfl
  have hq : ∀ (a b c d : Int) (W : World), (binOp .eql 24 (.agg #[.int .i64 a, .int .i64 b]) (.agg #[.int .i64 c, .int .i64 d])).run Tryz.prog W = .ok (.bool (decide (a = c) && decide (b = d))) W := fun a b c d W => by
    rw [run_eql_struct, show (10000 : Nat) = 9999 + 1 from rfl, run_equalIn_agg W 9999 24 _ _ hS hp]
    simp only [Program.fieldsOf, Tryz.underlying24]
    go_simp
    by_cases k1 : a = c <;> by_cases k2 : b = d <;> simp_all
  have hm : Tryz.prog.eqGuardType Tryz.prog.depth 24 = false := by kernel_rfl
  have hq2 : ∀ (a b c d : Int) (W : World), (binOp .neq 24 (.agg #[.int .i64 a, .int .i64 b]) (.agg #[.int .i64 c, .int .i64 d])).run Tryz.prog W = .ok (.bool (!(decide (a = c) && decide (b = d)))) W := fun a b c d W => by
    rw [run_neq_struct, show (10000 : Nat) = 9999 + 1 from rfl, run_equalIn_agg W 9999 24 _ _ hS hp]
    simp only [Program.fieldsOf, Tryz.underlying24]
    go_simp
    by_cases k1 : a = c <;> by_cases k2 : b = d <;> simp_all
  clear hp hS
  obtain ⟨a, c, rfl⟩ := h.s.len
  obtain ⟨ua, uc, rfl⟩ := hu.len
  have cW : ∀ w1, Below w.heap.size w w1 → _ := fun w1 h1 => awake_any w1 (hE.below h1)
  have cL : ∀ w1, Below w.heap.size w w1 → _ := fun w1 h1 => llong_any _ l w1 (h.below h1) hs0
  have cM : ∀ w1, Below w.heap.size w w1 → Calls Tryz.prog 10 #[.slice (some ⟨w1.heap.size, 0, none⟩) 1 1] (w1.alloc (.cells #[.int .i64 0, .slice none 0 0, .int .i64 0, .slice ua m.length uc] 46)) fun e w' => e = .returned (.bool (longD [⟨0, [], 0, m⟩])) ∧ Below (w1.alloc (.cells #[.int .i64 0, .slice none 0 0, .int .i64 0, .slice ua m.length uc] 46)).heap.size (w1.alloc (.cells #[.int .i64 0, .slice none 0 0, .int .i64 0, .slice ua m.length uc] 46)) w' := fun w1 h1 => llong_any _ [⟨none, 0, ua, uc, ⟨0, [], 0, m⟩⟩] _ ⟨one_line w1 ⟨none, 0, ua, uc, ⟨0, [], 0, m⟩⟩, fun x hx => by
    obtain rfl := List.mem_singleton.1 hx
    exact ⟨.inl ⟨none, 0, rfl, fun _ => rfl, by decide, rfl⟩, (hu.below h1).below (below_alloc1 _ _)⟩⟩ (fun x hx => by
    obtain rfl := List.mem_singleton.1 hx
    exact ⟨Nat.zero_le _, hml0, hsm⟩)
  have hb : Hid (Below w.heap.size w w) := Lib.hid (Below.refl _ _)
  have X5 := Lib.hid ((ps_new w p1 p2).below (below_alloc1 _ (.cells #[.int .i64 q1, .int .i64 q2] 24)))
  have X6 := Lib.hid (ps_new (w.alloc (.cells #[.int .i64 p1, .int .i64 p2] 24)) q1 q2)
  rw [show (w.alloc (.cells #[.int .i64 p1, .int .i64 p2] 24)).heap.size = w.heap.size + 1 by simp] at X6
  have hb : Hid (Below w.heap.size w w) := Lib.hid (Below.refl _ _)
  by_cases hlg : longD (pl l) = true
  · rw [hlg] at cL
    clear h hs0 hE hlg hu hsm hml0 cM
    go_enter Tryz.func5, Tryz.ntmps5
    go_wp2_with (first
      | (go_at_call 10; ((with_reducible refine (cL _ ?hb).mono ?_); (case hb => (repeat (first | (with_reducible exact hb.out) | (with_reducible exact Below.refl _ _) | (with_reducible refine Below.drew ?_) | (with_reducible refine Below.alloc ?_ ?_ _) | (with_reducible refine Below.setCell ?_ ?_ _) | omega | (simp <;> omega)))); rintro e w1 ⟨rfl, hk⟩; have hd := Lib.hid ((show Below w.heap.size w _ by (repeat (first | (with_reducible exact hb.out) | (with_reducible exact Below.refl _ _) | (with_reducible refine Below.drew ?_) | (with_reducible refine Below.alloc ?_ ?_ _) | (with_reducible refine Below.setCell ?_ ?_ _) | omega | (simp <;> omega)))).trans (hk.mono (by (first | omega | (simp; done) | (simp; omega))))); clear hb; have hb := hd; (try clear hs); have hs := hb.out.size; clear hd hk))
      | (go_at_call 11; ((with_reducible refine (cW _ ?hb).mono ?_); (case hb => (repeat (first | (with_reducible exact hb.out) | (with_reducible exact Below.refl _ _) | (with_reducible refine Below.drew ?_) | (with_reducible refine Below.alloc ?_ ?_ _) | (with_reducible refine Below.setCell ?_ ?_ _) | omega | (simp <;> omega)))); rintro e w1 ⟨rfl, hk⟩; have hd := Lib.hid ((show Below w.heap.size w _ by (repeat (first | (with_reducible exact hb.out) | (with_reducible exact Below.refl _ _) | (with_reducible refine Below.drew ?_) | (with_reducible refine Below.alloc ?_ ?_ _) | (with_reducible refine Below.setCell ?_ ?_ _) | omega | (simp <;> omega)))).trans (hk.mono (by (first | omega | (simp; done) | (simp; omega))))); clear hb; have hb := hd; (try clear hs); have hs := hb.out.size; clear hd hk)))
    all_goals go_ret
    all_goals exact ⟨rfl, hb.out⟩
  have hlg' : longD (pl l) = false := by simpa using hlg
  rw [hlg'] at cL
  by_cases hlm : longD [⟨0, [], 0, m⟩] = true
  · rw [hlm] at cM
    clear h hs0 hE hlg hlg' hu hsm hml0 hlm
    go_enter Tryz.func5, Tryz.ntmps5
    go_wp2_with (first
      | (go_at_call 10; ((with_reducible refine (cL _ ?hb).mono ?_); (case hb => (repeat (first | (with_reducible exact hb.out) | (with_reducible exact Below.refl _ _) | (with_reducible refine Below.drew ?_) | (with_reducible refine Below.alloc ?_ ?_ _) | (with_reducible refine Below.setCell ?_ ?_ _) | omega | (simp <;> omega)))); rintro e w0 ⟨rfl, hk⟩; have hd := Lib.hid ((show Below w.heap.size w _ by (repeat (first | (with_reducible exact hb.out) | (with_reducible exact Below.refl _ _) | (with_reducible refine Below.drew ?_) | (with_reducible refine Below.alloc ?_ ?_ _) | (with_reducible refine Below.setCell ?_ ?_ _) | omega | (simp <;> omega)))).trans (hk.mono (by (first | omega | (simp; done) | (simp; omega))))); have H5 := Lib.hid (X5.out.below hk); have H6 := Lib.hid (X6.out.below hk); obtain ⟨_, u0, u1, _, _⟩ := H5.out; obtain ⟨_, v0, v1, _, _⟩ := H6.out; clear hb; have hb := hd; (try clear hs); have hs := hb.out.size; clear hd hk))
      | (go_at_call 10; ((with_reducible refine (cM _ ?hb).mono ?_); (case hb => (repeat (first | (with_reducible exact hb.out) | (with_reducible exact Below.refl _ _) | (with_reducible refine Below.drew ?_) | (with_reducible refine Below.alloc ?_ ?_ _) | (with_reducible refine Below.setCell ?_ ?_ _) | omega | (simp <;> omega)))); rintro e w1 ⟨rfl, hk⟩; have hd := Lib.hid ((show Below w.heap.size w _ by (repeat (first | (with_reducible exact hb.out) | (with_reducible exact Below.refl _ _) | (with_reducible refine Below.drew ?_) | (with_reducible refine Below.alloc ?_ ?_ _) | (with_reducible refine Below.setCell ?_ ?_ _) | omega | (simp <;> omega)))).trans (hk.mono (by (first | omega | (simp; done) | (simp; omega))))); have hal := (below_alloc1 w0 _).trans (hk.mono (by simp)); have hk5 := H5.out.below hal; have hk6 := H6.out.below hal; clear H5 H6; have H5 := Lib.hid hk5; have H6 := Lib.hid hk6; (try clear u0 u1 v0 v1); obtain ⟨_, u0, u1, _, _⟩ := H5.out; obtain ⟨_, v0, v1, _, _⟩ := H6.out; clear hk5 hk6 hal; clear hb; have hb := hd; (try clear hs); have hs := hb.out.size; clear hd hk))
      | (go_at_call 11; ((with_reducible refine (cW _ ?hb).mono ?_); (case hb => (repeat (first | (with_reducible exact hb.out) | (with_reducible exact Below.refl _ _) | (with_reducible refine Below.drew ?_) | (with_reducible refine Below.alloc ?_ ?_ _) | (with_reducible refine Below.setCell ?_ ?_ _) | omega | (simp <;> omega)))); rintro e w1 ⟨rfl, hk⟩; have hd := Lib.hid ((show Below w.heap.size w _ by (repeat (first | (with_reducible exact hb.out) | (with_reducible exact Below.refl _ _) | (with_reducible refine Below.drew ?_) | (with_reducible refine Below.alloc ?_ ?_ _) | (with_reducible refine Below.setCell ?_ ?_ _) | omega | (simp <;> omega)))).trans (hk.mono (by (first | omega | (simp; done) | (simp; omega))))); clear hb; have hb := hd; (try clear hs); have hs := hb.out.size; clear hd hk)))
    all_goals go_ret
    all_goals exact ⟨rfl, hb.out⟩
  have hlm' : longD [⟨0, [], 0, m⟩] = false := by simpa using hlm
  rw [hlm'] at cM
  obtain ⟨hf, _, _⟩ := longD_false hlg'
  obtain ⟨fm0, sm0, _⟩ := longD_false hlm'
  have hfm : Fair m := (fm0.z _ List.mem_cons_self).2.2
  have hmz : m.length ≤ 20000 := by
    have e : sizeD [(⟨0, [], 0, m⟩ : Ln)] = m.length := by rw [sizeD_cons]; show m.length + 0 = m.length; omega
    rw [e] at sm0
    exact sm0
  have cOwn : ∀ w1, Below w.heap.size w w1 → _ := fun w1 h1 => rdown_any _ l w1 (h.below h1) hf
  have cOw5 : ∀ w1, Below w.heap.size w w1 → _ := fun w1 h1 => rown_any _ m w1 (hu.below h1) (by omega)
  unfold OwnPost at cOw5
  obtain ⟨n, hn⟩ : ∃ n, l.length = n := ⟨_, rfl⟩
  obtain ⟨ml, hmn⟩ : ∃ n, m.length = n := ⟨_, rfl⟩
  rw [hn] at cL cOwn ⊢
  rw [hmn] at cM cOw5 hmz ⊢
  have HD : Hid (DocAt w (.slice a n c) l) := Lib.hid (by rw [← hn]; exact h)
  have HU : Hid (RowAt w (.slice ua ml uc) m) := Lib.hid (by rw [← hmn]; exact hu)
  have HE := Lib.hid hE
  have HF := Lib.hid hf
  have HM := Lib.hid (And.intro hfm hmn)
  clear h hs0 hE hlg hlg' hlm hlm' hf hn hu hsm hml0 fm0 sm0 hfm hmn
  go_enter Tryz.func5, Tryz.ntmps5
  go_upto_region 4 with (first
    | (go_at_call 10; ((with_reducible refine (cL _ ?hb).mono ?_); (case hb => (repeat (first | (with_reducible exact hb.out) | (with_reducible exact Below.refl _ _) | (with_reducible refine Below.drew ?_) | (with_reducible refine Below.alloc ?_ ?_ _) | (with_reducible refine Below.setCell ?_ ?_ _) | omega | (simp <;> omega)))); rintro e w0 ⟨rfl, hk⟩; have hd := Lib.hid ((show Below w.heap.size w _ by (repeat (first | (with_reducible exact hb.out) | (with_reducible exact Below.refl _ _) | (with_reducible refine Below.drew ?_) | (with_reducible refine Below.alloc ?_ ?_ _) | (with_reducible refine Below.setCell ?_ ?_ _) | omega | (simp <;> omega)))).trans (hk.mono (by (first | omega | (simp; done) | (simp; omega))))); have H5 := Lib.hid (X5.out.below hk); have H6 := Lib.hid (X6.out.below hk); obtain ⟨_, u0, u1, _, _⟩ := H5.out; obtain ⟨_, v0, v1, _, _⟩ := H6.out; clear hb; have hb := hd; (try clear hs); have hs := hb.out.size; clear hd hk))
    | (go_at_call 10; ((with_reducible refine (cM _ ?hb).mono ?_); (case hb => (repeat (first | (with_reducible exact hb.out) | (with_reducible exact Below.refl _ _) | (with_reducible refine Below.drew ?_) | (with_reducible refine Below.alloc ?_ ?_ _) | (with_reducible refine Below.setCell ?_ ?_ _) | omega | (simp <;> omega)))); rintro e w1 ⟨rfl, hk⟩; have hd := Lib.hid ((show Below w.heap.size w _ by (repeat (first | (with_reducible exact hb.out) | (with_reducible exact Below.refl _ _) | (with_reducible refine Below.drew ?_) | (with_reducible refine Below.alloc ?_ ?_ _) | (with_reducible refine Below.setCell ?_ ?_ _) | omega | (simp <;> omega)))).trans (hk.mono (by (first | omega | (simp; done) | (simp; omega))))); have hal := (below_alloc1 w0 _).trans (hk.mono (by simp)); have hk5 := H5.out.below hal; have hk6 := H6.out.below hal; clear H5 H6; have H5 := Lib.hid hk5; have H6 := Lib.hid hk6; (try clear u0 u1 v0 v1); obtain ⟨_, u0, u1, _, _⟩ := H5.out; obtain ⟨_, v0, v1, _, _⟩ := H6.out; clear hk5 hk6 hal; clear hb; have hb := hd; (try clear hs); have hs := hb.out.size; clear hd hk))
    | (go_at_call 12; ((with_reducible refine (cOwn _ ?hb).mono ?_); (case hb => (repeat (first | (with_reducible exact hb.out) | (with_reducible exact Below.refl _ _) | (with_reducible refine Below.drew ?_) | (with_reducible refine Below.alloc ?_ ?_ _) | (with_reducible refine Below.setCell ?_ ?_ _) | omega | (simp <;> omega)))); rintro e w2 ⟨sw, m2, rfl, hown, hpl, hk⟩; have hd := Lib.hid ((show Below w.heap.size w _ by (repeat (first | (with_reducible exact hb.out) | (with_reducible exact Below.refl _ _) | (with_reducible refine Below.drew ?_) | (with_reducible refine Below.alloc ?_ ?_ _) | (with_reducible refine Below.setCell ?_ ?_ _) | omega | (simp <;> omega)))).trans (hk.mono (by (first | omega | (simp; done) | (simp; omega))))); have hk5 := H5.out.below hk; have hk6 := H6.out.below hk; clear H5 H6; have H5 := Lib.hid hk5; have H6 := Lib.hid hk6; (try clear u0 u1 v0 v1); obtain ⟨_, u0, u1, _, _⟩ := H5.out; obtain ⟨_, v0, v1, _, _⟩ := H6.out; clear hk5 hk6; have OW := Lib.hid hown.at; have PO := Lib.hid hpl; obtain ⟨uw, cap, eu⟩ := own_len hown.own; subst eu; clear hown hpl; clear hb; have hb := hd; (try clear hs); have hs := hb.out.size; clear hd hk))
    | (go_at_call 35; ((with_reducible refine (cOw5 _ ?hb).mono ?_); (case hb => (repeat (first | (with_reducible exact hb.out) | (with_reducible exact Below.refl _ _) | (with_reducible refine Below.drew ?_) | (with_reducible refine Below.alloc ?_ ?_ _) | (with_reducible refine Below.setCell ?_ ?_ _) | omega | (simp <;> omega)))); rintro e w3 ⟨vr, rfl, own, hk⟩; have hd := Lib.hid ((show Below w.heap.size w _ by (repeat (first | (with_reducible exact hb.out) | (with_reducible exact Below.refl _ _) | (with_reducible refine Below.drew ?_) | (with_reducible refine Below.alloc ?_ ?_ _) | (with_reducible refine Below.setCell ?_ ?_ _) | omega | (simp <;> omega)))).trans (hk.mono (by (first | omega | (simp; done) | (simp; omega))))); have hk5 := H5.out.below hk; have hk6 := H6.out.below hk; clear H5 H6; have H5 := Lib.hid hk5; have H6 := Lib.hid hk6; (try clear u0 u1 v0 v1); obtain ⟨_, u0, u1, _, _⟩ := H5.out; obtain ⟨_, v0, v1, _, _⟩ := H6.out; clear hk5 hk6; have OW3 := Lib.hid (OW.out.below hk); obtain ⟨ur, cr, er⟩ := own_len own; subst er; have OR : Hid (RowAt w3 (.slice ur ml cr) m) := Lib.hid (by have h9 := own; rw [← HM.out.2] at h9; have h10 := rowAt_of_own h9; rw [HM.out.2] at h10; exact h10); clear own OW; clear hb; have hb := hd; (try clear hs); have hs := hb.out.size; clear hd hk)))
  clear cL cM cOwn cOw5 X5 X6
  have G5 := H5
  have G6 := H6
  clear H5 H6
  have hA := HD.out.below hb.out
  have hR := HU.out.below hb.out
  have hE2 := HE.out.below hb.out
  have hwa := OW3.out
  have hro := OR.out
  have hf := HF.out
  have hpl := PO.out
  obtain ⟨hfm, hmn⟩ := HM.out
  have hfm2 : Fine (pl m2) := by rw [hpl]; exact hf
  have hml2 : m.length ≤ 50000 := by omega
  have hmw : m2.length = n := by
    obtain ⟨_, _, e⟩ := hA.s.len
    have e2 := (Value.slice.inj e).2.1
    rw [e2, ← pl_length m2, hpl, pl_length]
  have cP : ∀ w1, Below w3.heap.size w3 w1 → _ := fun w1 h1 => dpart_any _ l p1 p2 q1 q2 w1 (hA.below h1) hf (hE2.below h1)
  have cPR : ∀ w1, Below w3.heap.size w3 w1 → _ := fun w1 h1 => rdpart_any _ m2 p1 p2 q1 q2 w1 (hwa.below h1) hfm2
  have cD : ∀ w1, Below w3.heap.size w3 w1 → _ := fun w1 h1 => ddelete_any _ l p1 p2 q1 q2 w1 (hA.below h1) hf (hE2.below h1)
  have cDR : ∀ w1, Below w3.heap.size w3 w1 → _ := fun w1 h1 => rddelete_any _ m2 p1 p2 q1 q2 w1 (hwa.below h1) hfm2
  have cI : ∀ w1, Below w3.heap.size w3 w1 → _ := fun w1 h1 => dinsert_any _ _ l m p1 p2 w1 (hA.below h1) (hR.below h1) hf (hE2.below h1) hml2 hfm
  have cIR : ∀ w1, Below w3.heap.size w3 w1 → _ := fun w1 h1 => rdinsert_any _ _ m2 m p1 p2 w1 (hwa.below h1) (hro.below h1) hfm2 hml2 hfm
  have cS : ∀ w1, Below w3.heap.size w3 w1 → _ := fun w1 h1 => dsplit_any _ l q1 q2 w1 (hA.below h1) hf (hE2.below h1)
  have cSR : ∀ w1, Below w3.heap.size w3 w1 → _ := fun w1 h1 => rdsplit_any _ m2 q1 q2 w1 (hwa.below h1) hfm2
  have cSame : ∀ w1, Below w3.heap.size w3 w1 → _ := fun w1 h1 => rdsame_any _ _ l m2 w1 (hA.below h1) (hwa.below h1) hf
  have cSm5 : ∀ w1, Below w3.heap.size w3 w1 → _ := fun w1 h1 => rsame_any _ _ m m w1 (hR.below h1) (hro.below h1) (by omega)
  have cAw : ∀ w1, Below w3.heap.size w3 w1 → _ := fun w1 h1 => awake_any w1 (hE2.below h1)
  have cIsL : ∀ (D : Doc) (vv : Value) (r : List Lw) (uu : Value) (r2 : List Lw) (er : Int) w1, Below w3.heap.size w3 w1 → OwnD w3.heap.size w1 vv r → DocAt w1 uu r2 → pl r = D → pl r2 = D → Fine D → Calls Tryz.prog 31 #[vv, .int .i64 er, uu, .int .i64 er] w1 fun en w' => en = .returned (.bool true) ∧ Below w3.heap.size w1 w' := fun D vv r uu r2 er w1 h1 ho hu hr hr2 hD => by
    have := isL_any vv uu r r2 er er w3.heap.size w1 ho hu (by rw [hr]; exact hD) h1.size
    rw [hr, hr2, sameD_refl, decide_eq_true rfl] at this
    exact this
  have cIsS : ∀ (D : Doc) (vv : Value) (r : List Lw) (uu : Value) (r2 : List Lw) (er : Int) w1, Below w3.heap.size w3 w1 → OwnD w3.heap.size w1 vv r → DocAt w1 uu r2 → pl r = D → pl r2 = D → Fine D → Calls Tryz.prog 31 #[vv, .int .i64 er, uu, .int .i64 er] w1 fun en w' => en = .returned (.bool true) ∧ ∃ w2, Below w1.heap.size w1 w2 ∧ Spoilt w3.heap.size w2 w' := fun D vv r uu r2 er w1 h1 ho hu hr hr2 hD => by
    have := isS_any vv uu r r2 er er w3.heap.size w1 ho hu (by rw [hr]; exact hD)
    rw [hr, hr2, sameD_refl, decide_eq_true rfl] at this
    exact this
  have fP := part_is_fine hf p1 p2 q1 q2
  have fD := del_is_fine hf p1 p2 q1 q2
  have fI := ins_is_fine hf p1 p2 hfm
  have fS := spl_is_fine hf q1 q2
  rw [hmw] at cPR cDR cIR cSR cSame ⊢
  rw [hpl] at cPR cDR cIR cSR cSame
  rw [sameD_refl] at cSame
  rw [show sameR m m = true from decide_eq_true rfl] at cSm5
  obtain ⟨⟨PD, pe⟩, hP⟩ : ∃ X, partP (pl l) (p1, p2) (q1, q2) = X := ⟨_, rfl⟩
  obtain ⟨⟨DD, de⟩, hDl⟩ : ∃ X, delP (pl l) (p1, p2) (q1, q2) = X := ⟨_, rfl⟩
  obtain ⟨⟨ID, ⟨I1, I2⟩, ie⟩, hI⟩ : ∃ X, insP (pl l) (p1, p2) m = X := ⟨_, rfl⟩
  obtain ⟨⟨SD, ⟨S1, S2⟩, se⟩, hS⟩ : ∃ X, splitP (pl l) (q1, q2) = X := ⟨_, rfl⟩
  rw [hP] at cP cPR fP
  rw [hDl] at cD cDR fD
  rw [hI] at cI cIR fI
  rw [hS] at cS cSR fS
  dsimp only at cP cPR cD cDR cI cIR cS cSR fP fD fI fS
  unfold DocPE at cI cIR cS cSR
  unfold psV at cP cPR cD cDR cI cIR cS cSR
  dsimp only at cP cPR cD cDR cI cIR cS cSR
  have F1 := Lib.hid fP
  have F2 := Lib.hid fD
  have F3 := Lib.hid fI
  have F4 := Lib.hid fS
  have CIS := Lib.hid cIsS
  clear hA hR hE2 hwa hro hf hpl hfm hmn hfm2 hml2 hmw fP fD fI fS hP hDl hI hS HD HU HE HF HM OW3 OR PO cW cIsS hmz
  have hv : Hid (Below w3.heap.size w3 w3) := Lib.hid (Below.refl _ _)
  have hsv : w3.heap.size ≤ w3.heap.size := Nat.le_refl _
  go_upto_region 12 with (first
    | (go_at_call 36; ((with_reducible refine (cP _ ?hb).mono ?_); (case hb => (repeat (first | (with_reducible exact hv.out) | (with_reducible exact Below.refl _ _) | (with_reducible refine Below.drew ?_) | (with_reducible refine Below.alloc ?_ ?_ _) | (with_reducible refine Below.setCell ?_ ?_ _) | omega | (simp <;> omega)))); rintro e w10 ⟨vx, rx, rfl, ox, px, hk⟩; have hg := Lib.hid ((show Below w3.heap.size w3 _ by (repeat (first | (with_reducible exact hv.out) | (with_reducible exact Below.refl _ _) | (with_reducible refine Below.drew ?_) | (with_reducible refine Below.alloc ?_ ?_ _) | (with_reducible refine Below.setCell ?_ ?_ _) | omega | (simp <;> omega)))).trans (hk.mono (by (first | omega | (simp; done) | (simp; omega))))); (try clear u0 u1 v0 v1); obtain ⟨_, u0, u1, _, _⟩ := G5.out.below hg.out; obtain ⟨_, v0, v1, _, _⟩ := G6.out.below hg.out; have OX1 := Lib.hid (ox.mono (by (first | omega | (simp; done) | (simp; omega)))); have PX1 := Lib.hid px; obtain ⟨ux1, cx1, ex⟩ := own_len ox.own; subst ex; clear ox px; clear hv; have hv := hg; (try clear hsv); have hsv := hv.out.size; clear hg hk))
    | (go_at_call 37; ((with_reducible refine (cPR _ ?hb).mono ?_); (case hb => (repeat (first | (with_reducible exact hv.out) | (with_reducible exact Below.refl _ _) | (with_reducible refine Below.drew ?_) | (with_reducible refine Below.alloc ?_ ?_ _) | (with_reducible refine Below.setCell ?_ ?_ _) | omega | (simp <;> omega)))); rintro e w11 ⟨vy, ry, rfl, oy, py, hk⟩; have hg := Lib.hid ((show Below w3.heap.size w3 _ by (repeat (first | (with_reducible exact hv.out) | (with_reducible exact Below.refl _ _) | (with_reducible refine Below.drew ?_) | (with_reducible refine Below.alloc ?_ ?_ _) | (with_reducible refine Below.setCell ?_ ?_ _) | omega | (simp <;> omega)))).trans (hk.mono (by (first | omega | (simp; done) | (simp; omega))))); (try clear u0 u1 v0 v1); obtain ⟨_, u0, u1, _, _⟩ := G5.out.below hg.out; obtain ⟨_, v0, v1, _, _⟩ := G6.out.below hg.out; have OX := Lib.hid (OX1.out.below hk); have OY := Lib.hid oy.at; have cI1 := Lib.hid (cIsL _ _ rx _ ry pe w11 hg.out OX.out OY.out PX1.out py F1.out); obtain ⟨uy1, cy1, ey⟩ := own_len oy.own; subst ey; clear oy py OX1 OX OY; clear hv; have hv := hg; (try clear hsv); have hsv := hv.out.size; clear hg hk))
    | (go_at_call 31; ((with_reducible refine (cI1.out ).mono ?_); rintro e w10i ⟨rfl, hk⟩; have hg := Lib.hid ((show Below w3.heap.size w3 _ by (repeat (first | (with_reducible exact hv.out) | (with_reducible exact Below.refl _ _) | (with_reducible refine Below.drew ?_) | (with_reducible refine Below.alloc ?_ ?_ _) | (with_reducible refine Below.setCell ?_ ?_ _) | omega | (simp <;> omega)))).trans (hk.mono (by (first | omega | (simp; done) | (simp; omega))))); (try clear u0 u1 v0 v1); obtain ⟨_, u0, u1, _, _⟩ := G5.out.below hg.out; obtain ⟨_, v0, v1, _, _⟩ := G6.out.below hg.out; clear cI1 PX1; clear hv; have hv := hg; (try clear hsv); have hsv := hv.out.size; clear hg hk))
    | (go_at_call 38; ((with_reducible refine (cD _ ?hb).mono ?_); (case hb => (repeat (first | (with_reducible exact hv.out) | (with_reducible exact Below.refl _ _) | (with_reducible refine Below.drew ?_) | (with_reducible refine Below.alloc ?_ ?_ _) | (with_reducible refine Below.setCell ?_ ?_ _) | omega | (simp <;> omega)))); rintro e w12 ⟨vx, rx, rfl, ox, px, hk⟩; have hg := Lib.hid ((show Below w3.heap.size w3 _ by (repeat (first | (with_reducible exact hv.out) | (with_reducible exact Below.refl _ _) | (with_reducible refine Below.drew ?_) | (with_reducible refine Below.alloc ?_ ?_ _) | (with_reducible refine Below.setCell ?_ ?_ _) | omega | (simp <;> omega)))).trans (hk.mono (by (first | omega | (simp; done) | (simp; omega))))); (try clear u0 u1 v0 v1); obtain ⟨_, u0, u1, _, _⟩ := G5.out.below hg.out; obtain ⟨_, v0, v1, _, _⟩ := G6.out.below hg.out; have OX2 := Lib.hid (ox.mono (by (first | omega | (simp; done) | (simp; omega)))); have PX2 := Lib.hid px; obtain ⟨ux2, cx2, ex⟩ := own_len ox.own; subst ex; clear ox px; clear hv; have hv := hg; (try clear hsv); have hsv := hv.out.size; clear hg hk))
    | (go_at_call 39; ((with_reducible refine (cDR _ ?hb).mono ?_); (case hb => (repeat (first | (with_reducible exact hv.out) | (with_reducible exact Below.refl _ _) | (with_reducible refine Below.drew ?_) | (with_reducible refine Below.alloc ?_ ?_ _) | (with_reducible refine Below.setCell ?_ ?_ _) | omega | (simp <;> omega)))); rintro e w13 ⟨vy, ry, rfl, oy, py, hk⟩; have hg := Lib.hid ((show Below w3.heap.size w3 _ by (repeat (first | (with_reducible exact hv.out) | (with_reducible exact Below.refl _ _) | (with_reducible refine Below.drew ?_) | (with_reducible refine Below.alloc ?_ ?_ _) | (with_reducible refine Below.setCell ?_ ?_ _) | omega | (simp <;> omega)))).trans (hk.mono (by (first | omega | (simp; done) | (simp; omega))))); (try clear u0 u1 v0 v1); obtain ⟨_, u0, u1, _, _⟩ := G5.out.below hg.out; obtain ⟨_, v0, v1, _, _⟩ := G6.out.below hg.out; have OX := Lib.hid (OX2.out.below hk); have OY := Lib.hid oy.at; have cI2 := Lib.hid (cIsL _ _ rx _ ry de w13 hg.out OX.out OY.out PX2.out py F2.out); obtain ⟨uy2, cy2, ey⟩ := own_len oy.own; subst ey; clear oy py OX2 OX OY; clear hv; have hv := hg; (try clear hsv); have hsv := hv.out.size; clear hg hk))
    | (go_at_call 31; ((with_reducible refine (cI2.out ).mono ?_); rintro e w12i ⟨rfl, hk⟩; have hg := Lib.hid ((show Below w3.heap.size w3 _ by (repeat (first | (with_reducible exact hv.out) | (with_reducible exact Below.refl _ _) | (with_reducible refine Below.drew ?_) | (with_reducible refine Below.alloc ?_ ?_ _) | (with_reducible refine Below.setCell ?_ ?_ _) | omega | (simp <;> omega)))).trans (hk.mono (by (first | omega | (simp; done) | (simp; omega))))); (try clear u0 u1 v0 v1); obtain ⟨_, u0, u1, _, _⟩ := G5.out.below hg.out; obtain ⟨_, v0, v1, _, _⟩ := G6.out.below hg.out; clear cI2 PX2; clear hv; have hv := hg; (try clear hsv); have hsv := hv.out.size; clear hg hk)))
  clear cP cPR cD cDR F1 F2
  go_upto_region 14 with (first
    | (go_at_call 40; ((with_reducible refine (cI _ ?hb).mono ?_); (case hb => (repeat (first | (with_reducible exact hv.out) | (with_reducible exact Below.refl _ _) | (with_reducible refine Below.drew ?_) | (with_reducible refine Below.alloc ?_ ?_ _) | (with_reducible refine Below.setCell ?_ ?_ _) | omega | (simp <;> omega)))); rintro e w20 ⟨vx, rx, rfl, ox, px, hk⟩; have hg := Lib.hid ((show Below w3.heap.size w3 _ by (repeat (first | (with_reducible exact hv.out) | (with_reducible exact Below.refl _ _) | (with_reducible refine Below.drew ?_) | (with_reducible refine Below.alloc ?_ ?_ _) | (with_reducible refine Below.setCell ?_ ?_ _) | omega | (simp <;> omega)))).trans (hk.mono (by (first | omega | (simp; done) | (simp; omega))))); (try clear u0 u1 v0 v1); obtain ⟨_, u0, u1, _, _⟩ := G5.out.below hg.out; obtain ⟨_, v0, v1, _, _⟩ := G6.out.below hg.out; have OX0 := Lib.hid (ox.mono (by (first | omega | (simp; done) | (simp; omega)))); have PX := Lib.hid px; have h20 : w3.heap.size ≤ w20.heap.size := hg.out.size; obtain ⟨ux, cx, ex⟩ := own_len ox.own; subst ex; clear ox px; clear hv; have hv := hg; (try clear hsv); have hsv := hv.out.size; clear hg hk))
    | (go_at_call 41; ((with_reducible refine (cIR _ ?hb).mono ?_); (case hb => (repeat (first | (with_reducible exact hv.out) | (with_reducible exact Below.refl _ _) | (with_reducible refine Below.drew ?_) | (with_reducible refine Below.alloc ?_ ?_ _) | (with_reducible refine Below.setCell ?_ ?_ _) | omega | (simp <;> omega)))); rintro e w21 ⟨vy, ry, rfl, oy, py, hk⟩; have hg := Lib.hid ((show Below w3.heap.size w3 _ by (repeat (first | (with_reducible exact hv.out) | (with_reducible exact Below.refl _ _) | (with_reducible refine Below.drew ?_) | (with_reducible refine Below.alloc ?_ ?_ _) | (with_reducible refine Below.setCell ?_ ?_ _) | omega | (simp <;> omega)))).trans (hk.mono (by (first | omega | (simp; done) | (simp; omega))))); (try clear u0 u1 v0 v1); obtain ⟨_, u0, u1, _, _⟩ := G5.out.below hg.out; obtain ⟨_, v0, v1, _, _⟩ := G6.out.below hg.out; have hal := (below_alloc1 w20 (.cells #[.int .i64 I1, .int .i64 I2] 24)).trans (hk.mono (by simp)); have OX := Lib.hid (OX0.out.below hal); have OY := Lib.hid oy.at; have PY := Lib.hid py; have X15 := Lib.hid ((ps_new w20 I1 I2).below hk); obtain ⟨uy, cy, ey⟩ := own_len oy.own; subst ey; clear oy py OX0 hal; clear hv; have hv := hg; (try clear hsv); have hsv := hv.out.size; clear hg hk)))
  clear cI cIR
  obtain ⟨W21, hW21⟩ : ∃ W, w21.alloc (.cells #[.int .i64 I1, .int .i64 I2] 24) = W := ⟨_, rfl⟩
  have hal := below_alloc1 w21 (.cells #[.int .i64 I1, .int .i64 I2] 24)
  have y16 := ps_new w21 I1 I2
  rw [hW21] at hal y16 ⊢
  have hlt := X15.out.lt
  have Y15 := Lib.hid (X15.out.below hal)
  have Y16 := Lib.hid y16
  have hv2 := Lib.hid (hv.out.trans (hal.mono hsv))
  have CI3 := Lib.hid (CIS.out _ _ rx _ ry ie W21 hv2.out (OX.out.below hal) (OY.out.below hal) PX.out PY.out F3.out)
  have h21 : W21.heap.size = w21.heap.size + 1 := by rw [← hW21, World.size_alloc]
  clear hv hsv u0 u1 v0 v1 X15 y16 hal hW21 OX OY PX PY CIS F3
  have hv := hv2
  have hsv := hv.out.size
  clear hv2
  obtain ⟨_, u0, u1, _, _⟩ := G5.out.below hv.out
  obtain ⟨_, v0, v1, _, _⟩ := G6.out.below hv.out
  obtain ⟨_, c0, c1, _, _⟩ := Y15.out
  obtain ⟨_, d0, d1, _, _⟩ := Y16.out
  go_upto_region 16 with (go_at_call 31; ((with_reducible refine CI3.out.mono ?_); rintro e w22 ⟨rfl, wq, hk, hsp⟩; have hg := Lib.hid (hv.out.trans ((hk.mono hsv).trans hsp.b)); (try clear u0 u1 v0 v1); obtain ⟨_, u0, u1, _, _⟩ := G5.out.below hg.out; obtain ⟨_, v0, v1, _, _⟩ := G6.out.below hg.out; obtain ⟨j1, j2, z15⟩ := Y15.out.spoilt hk hsp; obtain ⟨j3, j4, z16⟩ := Y16.out.spoilt hk hsp; have Z15 := Lib.hid z15; have Z16 := Lib.hid z16; have h22 : w21.heap.size < w22.heap.size := z16.lt; clear z15 z16 hk hsp c0 c1 d0 d1; clear hv; have hv := hg; (try clear hsv); have hsv := hv.out.size; clear hg))
  clear CI3 Y15 Y16
  obtain ⟨_, c0, c1, f0, f1⟩ := Z15.out
  go_upto_region 17 with (go_at_call 42; ((with_reducible refine (cS _ ?hb).mono ?_); (case hb => (repeat (first | (with_reducible exact hv.out) | (with_reducible exact Below.refl _ _) | (with_reducible refine Below.drew ?_) | (with_reducible refine Below.alloc ?_ ?_ _) | (with_reducible refine Below.setCell ?_ ?_ _) | omega | (simp <;> omega)))); rintro e w23 ⟨vx2, rx2, rfl, ox2, px2, hk⟩; have hg := Lib.hid ((show Below w3.heap.size w3 _ by (repeat (first | (with_reducible exact hv.out) | (with_reducible exact Below.refl _ _) | (with_reducible refine Below.drew ?_) | (with_reducible refine Below.alloc ?_ ?_ _) | (with_reducible refine Below.setCell ?_ ?_ _) | omega | (simp <;> omega)))).trans (hk.mono (by (first | omega | (simp; done) | (simp; omega))))); (try clear u0 u1 v0 v1); obtain ⟨_, u0, u1, _, _⟩ := G5.out.below hg.out; obtain ⟨_, v0, v1, _, _⟩ := G6.out.below hg.out; have OX := Lib.hid ox2; have PX2 := Lib.hid px2; have T15 := Lib.hid (Z15.out.below hk); have T16 := Lib.hid (Z16.out.below hk); have h322 : w3.heap.size ≤ w22.heap.size := hsv; obtain ⟨ux2, cx2, ex2⟩ := own_len ox2.own; subst ex2; clear ox2 px2 Z15 Z16 c0 c1 f0 f1; obtain ⟨_, c0, c1, f0, f1⟩ := T15.out; clear hv; have hv := hg; (try clear hsv); have hsv := hv.out.size; clear hg hk))
  obtain ⟨W23, hW23⟩ : ∃ W, (w23.setCell ⟨w20.heap.size, 0, none⟩ (.int .i64 S1)).setCell ⟨w20.heap.size, 1, none⟩ (.int .i64 S2) = W := ⟨_, rfl⟩
  have k1 := below_put2 hv.out h20 S1 S2
  have k2 := T15.out.put S1 S2
  have k3 := T16.out.far (Nat.ne_of_lt hlt) S1 S2
  have k4 := OX.out.put2 (Nat.lt_trans hlt h22) S1 S2
  rw [hW23] at k1 k2 k3 k4 ⊢
  have U15 := Lib.hid k2
  have U16 := Lib.hid k3
  have OX3 := Lib.hid k4
  have hv2 := Lib.hid k1
  clear hv hsv u0 u1 v0 v1 hW23 k1 k2 k3 k4 OX T15 T16 c0 c1 f0 f1 cS
  have hv := hv2
  have hsv := hv.out.size
  clear hv2
  obtain ⟨_, u0, u1, _, _⟩ := G5.out.below hv.out
  obtain ⟨_, v0, v1, _, _⟩ := G6.out.below hv.out
  obtain ⟨_, c0, c1, f0, f1⟩ := U16.out
  go_upto_region 18 with (go_at_call 43; ((with_reducible refine (cSR _ ?hb).mono ?_); (case hb => (repeat (first | (with_reducible exact hv.out) | (with_reducible exact Below.refl _ _) | (with_reducible refine Below.drew ?_) | (with_reducible refine Below.alloc ?_ ?_ _) | (with_reducible refine Below.setCell ?_ ?_ _) | omega | (simp <;> omega)))); rintro e w24 ⟨vy2, ry2, rfl, oy2, py2, hk⟩; have hg := Lib.hid ((show Below w3.heap.size w3 _ by (repeat (first | (with_reducible exact hv.out) | (with_reducible exact Below.refl _ _) | (with_reducible refine Below.drew ?_) | (with_reducible refine Below.alloc ?_ ?_ _) | (with_reducible refine Below.setCell ?_ ?_ _) | omega | (simp <;> omega)))).trans (hk.mono (by (first | omega | (simp; done) | (simp; omega))))); (try clear u0 u1 v0 v1); obtain ⟨_, u0, u1, _, _⟩ := G5.out.below hg.out; obtain ⟨_, v0, v1, _, _⟩ := G6.out.below hg.out; have OY := Lib.hid oy2; have PY2 := Lib.hid py2; have V15 := Lib.hid (U15.out.below hk); have V16 := Lib.hid (U16.out.below hk); have OX4 := Lib.hid (OX3.out.below hk); obtain ⟨uy2, cy2, ey2⟩ := own_len oy2.own; subst ey2; clear oy2 py2 c0 c1 f0 f1; obtain ⟨_, c0, c1, f0, f1⟩ := V16.out; clear hv; have hv := hg; (try clear hsv); have hsv := hv.out.size; clear hg hk))
  obtain ⟨W24, hW24⟩ : ∃ W, (w24.setCell ⟨w21.heap.size, 0, none⟩ (.int .i64 S1)).setCell ⟨w21.heap.size, 1, none⟩ (.int .i64 S2) = W := ⟨_, rfl⟩
  have k1 := below_put2 hv.out (Nat.le_trans h20 (Nat.le_of_lt hlt)) S1 S2
  have k2 := V15.out.far (Nat.ne_of_gt hlt) S1 S2
  have k3 := V16.out.put S1 S2
  have k4 := OX4.out.put2 h22 S1 S2
  have k5 := OY.out.put2 U16.out.lt S1 S2
  rw [hW24] at k1 k2 k3 k4 k5 ⊢
  have hv2 := Lib.hid k1
  have CI4 := Lib.hid (cIsL _ _ rx2 _ ry2 se W24 k1 (k4.mono h322) k5.at PX2.out PY2.out F4.out)
  obtain ⟨_, c0, c1, _, _⟩ := k2
  obtain ⟨_, d0, d1, _, _⟩ := k3
  clear hv hsv u0 u1 v0 v1 hW24 k1 k4 k5 OX4 OY V15 V16 cSR cIsL PX2 PY2 F4 U15 U16 OX3
  have hv := hv2
  have hsv := hv.out.size
  clear hv2
  go_wp2_with (first
    | (go_at_call 31; ((with_reducible refine CI4.out.mono ?_); rintro e w25 ⟨rfl, hk⟩; have hg := Lib.hid (hv.out.trans hk); clear c0 c1 d0 d1; clear hv; have hv := hg; (try clear hsv); have hsv := hv.out.size; clear hg hk))
    | (go_at_call 33; ((with_reducible refine (cSame _ ?hb).mono ?_); (case hb => (repeat (first | (with_reducible exact hv.out) | (with_reducible exact Below.refl _ _) | (with_reducible refine Below.drew ?_) | (with_reducible refine Below.alloc ?_ ?_ _) | (with_reducible refine Below.setCell ?_ ?_ _) | omega | (simp <;> omega)))); rintro e w26 ⟨rfl, hk⟩; have hg := Lib.hid ((show Below w3.heap.size w3 _ by (repeat (first | (with_reducible exact hv.out) | (with_reducible exact Below.refl _ _) | (with_reducible refine Below.drew ?_) | (with_reducible refine Below.alloc ?_ ?_ _) | (with_reducible refine Below.setCell ?_ ?_ _) | omega | (simp <;> omega)))).trans (hk.mono (by (first | omega | (simp; done) | (simp; omega))))); clear hv; have hv := hg; (try clear hsv); have hsv := hv.out.size; clear hg hk))
    | (go_at_call 44; ((with_reducible refine (cSm5 _ ?hb).mono ?_); (case hb => (repeat (first | (with_reducible exact hv.out) | (with_reducible exact Below.refl _ _) | (with_reducible refine Below.drew ?_) | (with_reducible refine Below.alloc ?_ ?_ _) | (with_reducible refine Below.setCell ?_ ?_ _) | omega | (simp <;> omega)))); rintro e w27 ⟨rfl, hk⟩; have hg := Lib.hid ((show Below w3.heap.size w3 _ by (repeat (first | (with_reducible exact hv.out) | (with_reducible exact Below.refl _ _) | (with_reducible refine Below.drew ?_) | (with_reducible refine Below.alloc ?_ ?_ _) | (with_reducible refine Below.setCell ?_ ?_ _) | omega | (simp <;> omega)))).trans (hk.mono (by (first | omega | (simp; done) | (simp; omega))))); clear hv; have hv := hg; (try clear hsv); have hsv := hv.out.size; clear hg hk))
    | (go_at_call 11; ((with_reducible refine (cAw _ ?hb).mono ?_); (case hb => (repeat (first | (with_reducible exact hv.out) | (with_reducible exact Below.refl _ _) | (with_reducible refine Below.drew ?_) | (with_reducible refine Below.alloc ?_ ?_ _) | (with_reducible refine Below.setCell ?_ ?_ _) | omega | (simp <;> omega)))); rintro e w28 ⟨rfl, hk⟩; have hg := Lib.hid ((show Below w3.heap.size w3 _ by (repeat (first | (with_reducible exact hv.out) | (with_reducible exact Below.refl _ _) | (with_reducible refine Below.drew ?_) | (with_reducible refine Below.alloc ?_ ?_ _) | (with_reducible refine Below.setCell ?_ ?_ _) | omega | (simp <;> omega)))).trans (hk.mono (by (first | omega | (simp; done) | (simp; omega))))); clear hv; have hv := hg; (try clear hsv); have hsv := hv.out.size; clear hg hk)))
  go_ret
  exact ⟨rfl, hb.out.trans (hv.out.mono hb.out.size)⟩

end Go.Proofs.YtafincmcmgedbaaGreatDoor
