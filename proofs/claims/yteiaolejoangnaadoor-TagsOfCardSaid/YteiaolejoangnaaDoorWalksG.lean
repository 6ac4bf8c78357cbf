/-
  The contracts of Find, the program's and the document's: both answer what the dictionary has of the name turned small.
-/
import Derived.Test.YteiaolejoangnaaDoorWalksF
namespace Go.Proofs.YteiaolejoangnaaDoor
open Go.RowKit Go.Maps Go.WideMaps

theorem ownsMap_below {H : Type} {P : Program} {k : TypeId} {R : Value → Option (DataW H × List MemPlace)} {w w' : World} {b n B : Nat} {D : DataW H} (h : w.ownsMap P k R b n D) (hb : Below B w w') (hB : b < B) : w'.ownsMap P k R b n D := by
  obtain ⟨es, clock, h1, F, h2, h3⟩ := h
  exact ⟨es, clock, (hb.block b hB).trans h1, F, h2, h3⟩

theorem lit_inj {H : Type} {a b : Int} (h : (DataW.lit (.int .i64 a) : DataW H) = .lit (.int .i64 b)) : a = b := by
  injection h with h; injection h

set_option maxHeartbeats 2000000 in
theorem find_any (s : ByteArray) (w : World) (hT : OwnT w) (hs : s.size ≤ maxLen) :
    Calls Tryd.prog 18 #[.string s] w fun e w' => e = .returned (fndV s) ∧ Below w.heap.size w w' := by
  have hs' : s.size ≤ 9223372036854775807 := hs
  have hkey : keyOf Tryd.prog 9 (.string (lowB s)) = some (sk (lowL s.data.toList)) := keyOf_string_mk Tryd.underlying9 (by rw [lowB_size]; exact hs)
  have H1 := Lib.hid (dict_at (lowL s.data.toList))
  have H2 := Lib.hid (dict_has (lowL s.data.toList))
  go_enter Tryd.func18, Tryd.ntmps18
  go_wp2_with (first
    | (go_at_call 27; refine (named_any w hT).mono ?_; rintro e w1 ⟨rfl, n, hown, hb1⟩)
    | (go_at_call 28; refine (small_any s w1 hs').mono ?_; rintro e w2 ⟨rfl, hb2⟩; have hown2 := ownsMap_below hown hb2 hown.lt; have hb := hb1.trans (hb2.mono hb1.size); clear hown hb1 hb2)
    | (at_lookup; refine wpList_lookup_own_ok_int _ rfl _ _ 41 rfl 9 3 .i64 lawS Tryd.underlying41 Tryd.underlying3 (zeroI _) w.heap.size n _ rfl hown2 _ _ rfl hkey ?_; intro c hat hwc; have hc := Lib.hid (lit_inj (hat.symm.trans H1.out)); clear hat))
  go_ret2
  exact ⟨fndV_mk hc.out H2.out, hb⟩

end Go.Proofs.YteiaolejoangnaaDoor
