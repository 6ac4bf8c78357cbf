/-
  What was answered is written over (the law's spoil, is).
-/
import Derived.Test.YtafincmcmgedbaaGreatDoorCAppG
import Derived.Test.YtafincmcmgedbaaGreatDoorCDocD
import Derived.Test.YtafincmcmgedbaaGreatDoorCDocO

namespace Go.Proofs.YtafincmcmgedbaaGreatDoor
open Go.RowKit Go.Lib

/-- Where an own document's line lies, and its rows. -/
structure SpotL (B : Nat) (w : World) (g r : Nat) (x : Lw) : Prop where
  lo : B ≤ g
  z : w.cell? ⟨g, r * 4 + 1, none⟩ = some x.sl
  c : w.cell? ⟨g, r * 4 + 3, none⟩ = some x.sc
  k : w.cell? ⟨g, r * 4 + 2, none⟩ = some (.int .i64 x.ln.k)
  f : w.frozen? ⟨g, r * 4 + 2, none⟩ = false
  zs : 0 < x.ln.ls.length → ∃ b o, x.za = some ⟨b, o, none⟩ ∧ B ≤ b ∧ x.ln.ls.length ≤ x.zc ∧ x.zc ≤ maxLen ∧ ∀ j, j < x.ln.ls.length → (∃ y, w.cell? ⟨b, o + j, none⟩ = some (.int .i64 y)) ∧ w.frozen? ⟨b, o + j, none⟩ = false
  cs : 0 < x.ln.cs.length → ∃ b o, x.ra = some ⟨b, o, none⟩ ∧ B ≤ b ∧ x.ln.cs.length ≤ x.rc ∧ x.rc ≤ maxLen ∧ ∀ j, j < x.ln.cs.length → (∃ y, w.cell? ⟨b, o + j * 3 + 1, none⟩ = some (.int .i64 y)) ∧ w.frozen? ⟨b, o + j * 3 + 1, none⟩ = false
theorem OwnD.spot {B : Nat} {w : World} {a : Option Addr} {n c : Nat} {l : List Lw} (h : OwnD B w (.slice a n c) l) {r : Nat} (hr : r < l.length) : ∃ g, a = some ⟨g, 0, none⟩ ∧ l.length ≤ c ∧ c ≤ maxLen ∧ SpotL B w g r l[r]! := by
  have hs := h.at.s
  obtain ⟨b, o, c', e, hlc, hcm, hbl, hcs⟩ := hs.lies (by omega)
  obtain ⟨_, ⟨_, hn⟩ | ⟨g, cap, cur, e2, hB, hg, _⟩⟩ := h.own
  · omega
  · rw [e] at e2
    simp only [Value.slice.injEq, Option.some.injEq, Addr.mk.injEq, and_true] at e e2
    obtain ⟨⟨rfl, rfl⟩, _, rfl⟩ := e2
    obtain ⟨rfl, rfl, rfl⟩ := e
    have hx := h.n _ (show l[r]! ∈ l by rw [List.getElem!_eq_getElem?_getD, List.getElem?_eq_getElem hr]; exact List.getElem_mem hr)
    obtain ⟨_, x1, x2, x3⟩ := hcs r hr
    rw [Nat.zero_add] at x1 x2 x3
    refine ⟨_, rfl, hlc, hcm, hB, x1, x3, x2, frozen_cells hg _, fun hl => ?_, fun hl => ?_⟩
    · obtain ⟨b, o, c, e, e1, e2, _, e3⟩ := hx.z.here.lies hl
      unfold Lw.sl at e
      obtain ⟨ea, _, ec⟩ := Value.slice.inj e
      subst ec
      obtain ⟨m1, _, m3⟩ := hx.z.mine hl b o _ _ (by unfold Lw.sl; rw [ea])
      exact ⟨b, o, ea, m1, e1, e2, fun j hj => ⟨⟨_, e3 j hj⟩, m3 j hj⟩⟩
    · obtain ⟨b, o, c, e, e1, e2, _, e3⟩ := hx.r.here.lies hl
      unfold Lw.sc at e
      obtain ⟨ea, _, ec⟩ := Value.slice.inj e
      subst ec
      obtain ⟨m1, _, m3⟩ := hx.r.mine hl b o _ _ (by unfold Lw.sc; rw [ea])
      exact ⟨b, o, ea, m1, e1, e2, fun j hj => ⟨⟨_, (e3 j hj).2.1⟩, m3 j hj⟩⟩

set_option maxRecDepth 20000 in
set_option maxHeartbeats 8000000 in
theorem spoil_any (v : Value) (l : List Lw) (B : Nat) (w : World) (h : OwnD B w v l) :
    Calls Tryz.prog 67 #[v] w fun e w' => e = .returned (.tuple #[]) ∧ Spoilt B w w' := by
  obtain ⟨a, c, rfl⟩ := h.at.s.len
  have V := Lib.hid h
  obtain ⟨n, hn⟩ : ∃ n, l.length = n := ⟨_, rfl⟩
  rw [hn] at V ⊢
  have N := Lib.hid hn
  have hcap : n ≤ 9223372036854775807 := by
    obtain ⟨_, _, e, h1, h2⟩ := h.at.s.cap
    unfold maxLen at h2
    rw [hn] at h1
    omega
  clear h hn
  go_enter Tryz.func67, Tryz.ntmps67
  go_wp2
  go_loopw [2, 3, 4] (fun i _ _ wr => ∃ r : Nat, r ≤ n ∧ i = .int .i64 r ∧ Hid (Spoilt B w wr)) (fun i _ _ _ => n - (RowKit.intOf i).toNat)
  case atStart => exact ⟨0, Nat.zero_le _, rfl, Lib.hid (Spoilt.refl _ _)⟩
  case round =>
    obtain ⟨r, hr, rfl, HS0⟩ := hrel
    by_cases hlt : r < n
    · obtain ⟨g, rfl, hlc, hcm, hsp⟩ := V.out.spot (r := r) (by rw [N.out]; exact hlt)
      rw [N.out] at hlc
      unfold maxLen at hcm
      obtain ⟨X, hX⟩ : ∃ X, l[r]! = X := ⟨_, rfl⟩
      rw [hX] at hsp
      have P := Lib.hid hsp
      have hrI : (r : Int) < (n : Int) := by omega
      have x3 := HS0.out.slice (show w.cell? ⟨g, r * 4 + 3, none⟩ = some (.slice X.ra X.ln.cs.length X.rc) from hsp.c)
      clear hX hsp
      obtain ⟨za, zc, ra, rc, ⟨q, ls, kk, cs⟩⟩ := X
      dsimp only at x3
      obtain ⟨n2, hn2⟩ : ∃ n2, cs.length = n2 := ⟨_, rfl⟩
      rw [hn2] at x3
      have N2 := Lib.hid hn2
      clear hn2
      go_wp2
      go_loopw [3] (fun i wr => ∃ j : Nat, j ≤ n2 ∧ i = .int .i64 j ∧ Hid (Spoilt B w wr)) (fun i _ => n2 - (RowKit.intOf i).toNat)
      case atStart => exact ⟨0, Nat.zero_le _, rfl, HS0⟩
      case round =>
        obtain ⟨j, hj, rfl, HS⟩ := hrel
        have x3 := HS.out.slice (show w.cell? ⟨g, r * 4 + 3, none⟩ = some (.slice ra n2 rc) by rw [← N2.out]; exact P.out.c)
        by_cases hjl : j < n2
        · have hjI : (j : Int) < (n2 : Int) := by omega
          obtain ⟨b, o, e, hb, h1, h2, h3⟩ := P.out.cs (by show 0 < cs.length; rw [N2.out]; omega)
          obtain rfl : ra = some ⟨b, o, none⟩ := e
          obtain ⟨⟨y, hy⟩, hfz⟩ := h3 j (by show j < cs.length; rw [N2.out]; exact hjl)
          have h1' : n2 ≤ rc := by rw [← N2.out]; exact h1
          have h2' : rc ≤ maxLen := h2
          unfold maxLen at h2'
          obtain ⟨y', hy'⟩ := HS.out.int hy
          have hfz' := HS.out.frozen hfz
          have hnx := HS.out.set (p := ⟨b, o + j * 3 + 1, none⟩) hb hy' 77
          have HN := Lib.hid hnx
          clear h1 h2 h3 hy hfz hnx
          go_wp2
          go_roundw
          case rel => exact ⟨j + 1, by omega, by go_num, HN⟩
          case measure => simp [RowKit.intOf]; omega
        · have hje : j = n2 := by omega
          subst hje
          have x1 := HS.out.slice (show w.cell? ⟨g, r * 4 + 1, none⟩ = some (.slice za ls.length zc) from P.out.z)
          obtain ⟨n1, hn1⟩ : ∃ n1, ls.length = n1 := ⟨_, rfl⟩
          rw [hn1] at x1
          have N1 := Lib.hid hn1
          clear hn1
          go_wp2
          go_loopw [4] (fun i wr => ∃ j : Nat, j ≤ n1 ∧ i = .int .i64 j ∧ Hid (Spoilt B w wr)) (fun i _ => n1 - (RowKit.intOf i).toNat)
          case atStart => exact ⟨0, Nat.zero_le _, rfl, HS⟩
          case round =>
            obtain ⟨i, hi, rfl, HT⟩ := hrel
            have z1 := HT.out.slice (show w.cell? ⟨g, r * 4 + 1, none⟩ = some (.slice za n1 zc) by rw [← N1.out]; exact P.out.z)
            by_cases hil : i < n1
            · have hiI : (i : Int) < (n1 : Int) := by omega
              obtain ⟨b, o, e, hb, h1, h2, h3⟩ := P.out.zs (by show 0 < ls.length; rw [N1.out]; omega)
              obtain rfl : za = some ⟨b, o, none⟩ := e
              obtain ⟨⟨y, hy⟩, hfz⟩ := h3 i (by show i < ls.length; rw [N1.out]; exact hil)
              have h1' : n1 ≤ zc := by rw [← N1.out]; exact h1
              have h2' : zc ≤ maxLen := h2
              unfold maxLen at h2'
              obtain ⟨y', hy'⟩ := HT.out.int hy
              have hfz' := HT.out.frozen hfz
              have hnx := HT.out.set (p := ⟨b, o + i, none⟩) hb hy' 77
              have HN := Lib.hid hnx
              clear h1 h2 h3 hy hfz hnx
              go_wp2
              go_roundw
              case rel => exact ⟨i + 1, by omega, by go_num, HN⟩
              case measure => simp [RowKit.intOf]; omega
            · have hie : i = n1 := by omega
              subst hie
              obtain ⟨y', hy'⟩ := HT.out.int (show w.cell? ⟨g, r * 4 + 2, none⟩ = some (.int .i64 kk) from P.out.k)
              have hfz' := HT.out.frozen P.out.f
              have hnx := HT.out.set (p := ⟨g, r * 4 + 2, none⟩) P.out.lo hy' 77
              have HN := Lib.hid hnx
              clear hnx
              go_wp2
              go_roundw
              case rel => exact ⟨r + 1, by omega, by go_num, HN⟩
              case measure => simp [RowKit.intOf]; omega
    · have hkn : r = n := by omega
      subst hkn
      go_wp2
      exact bodyPost_end (v := .tuple #[]) (by simp [results, Tryz.results67, go_sem]) rfl ⟨rfl, HS0.out⟩

set_option maxHeartbeats 4000000 in
theorem isL_any (v u : Value) (l m : List Lw) (e f : Int) (B : Nat) (w : World) (h : OwnD B w v l) (hu : DocAt w u m) (hf : Fine (pl l)) (hB : B ≤ w.heap.size) :
    Calls Tryz.prog 31 #[v, .int .i64 e, u, .int .i64 f] w fun en w' => en = .returned (.bool (decide (e = f) && sameD (pl l) (pl m))) ∧ Below B w w' := by
  have cS := rdsame_any v u l m w h.at hu hf
  have cX : ∀ w1, Below w.heap.size w w1 → _ := fun w1 h1 => spoil_any v l B w1 (h.below h1)
  obtain ⟨a, c, rfl⟩ := h.at.s.len
  obtain ⟨a2, c2, rfl⟩ := hu.s.len
  obtain ⟨S, hS⟩ : ∃ S, sameD (pl l) (pl m) = S := ⟨_, rfl⟩
  rw [hS] at cS ⊢
  clear h hu hf hS
  by_cases he : e = f
  · subst he
    rw [decide_eq_true rfl, Bool.true_and]
    go_enter Tryz.func31, Tryz.ntmps31
    go_wp2_with (first
      | (go_at_call 33; ((with_reducible refine cS.mono ?_); rintro en w2 ⟨rfl, hb⟩))
      | (go_at_call 67; ((with_reducible refine (cX _ hb).mono ?_); rintro en w3 ⟨rfl, hsp⟩)))
    go_ret
    exact ⟨rfl, (hb.mono hB).trans hsp.b⟩
  · have he2 : (e == f) = false := by simpa using he
    have he3 : decide (e = f) = false := decide_eq_false he
    rw [he3, Bool.false_and]
    go_enter Tryz.func31, Tryz.ntmps31
    go_wp2_with (go_at_call 67; ((with_reducible refine (cX _ (Below.refl _ _)).mono ?_); rintro en w3 ⟨rfl, hsp⟩))
    go_ret
    exact ⟨rfl, hsp.b⟩

end Go.Proofs.YtafincmcmgedbaaGreatDoor
