/-
  Set, Link, of the program and of the document, with what they answer where a part is none.
-/
import Derived.Test.YtiaoflagjaclmaaDoorDocSets
namespace Go.Proofs.YtiaoflagjaclmaaDoor
open Go.RowKit Go.Lib

def ErrPost (R : Row) (er : Int) (w : World) (e : Ending) (w' : World) : Prop := ∃ v, e = .returned (.tuple #[v, .int .i64 er]) ∧ w'.ownsRow w.heap.size 37 3 v R.length (cellsR R) ∧ Below w.heap.size w w'
theorem errPost_err {w : World} {e : Ending} {w' : World} (h : e = .returned errV ∧ Below w.heap.size w w') : ErrPost [] 1 w e w' := ⟨_, h.1, World.ownsRow_nil _ _ _ _, h.2⟩
def setO (l : Row) (f t s c : Int) : Row × Int := if fitB l.length f t = true then (turnR (setC s c) l f.toNat t.toNat, 0) else ([], 1)
def linkO (l : Row) (f t : Int) (h : ByteArray) : Row × Int := if (linkS h && fitB l.length f t) = true then (turnR (linkC h) l f.toNat t.toNat, 0) else ([], 1)
theorem setO_len (l : Row) (f t s c : Int) (hl : l.length ≤ 20000) : (setO l f t s c).1.length ≤ 20000 := by
  unfold setO
  split
  · rw [turnR_length]; exact hl
  · simp
theorem linkO_len (l : Row) (f t : Int) (h : ByteArray) (hl : l.length ≤ 20000) : (linkO l f t h).1.length ≤ 20000 := by
  unfold linkO
  split
  · rw [turnR_length]; exact hl
  · simp

theorem set_out (v : Value) (l : Row) (f t s c : Int) (w : World) (hv : RowAt w v l) (hl : l.length ≤ 20000) :
    Calls Tryd.prog 15 #[v, .int .i64 f, .int .i64 t, .int .i64 s, .int .i64 c] w (ErrPost (setO l f t s c).1 (setO l f t s c).2 w) := by
  unfold setO
  by_cases h : fitB l.length f t = true
  · rw [if_pos h]
    have h' := of_decide_eq_true h
    obtain ⟨q, rfl⟩ := Int.eq_ofNat_of_zero_le h'.1
    obtain ⟨p, rfl⟩ := Int.eq_ofNat_of_zero_le (show 0 ≤ t by omega)
    exact set_on v l q p s c w hv (by omega) (by omega) (by omega)
  · rw [if_neg h]
    exact (set_off v l f t s c w hv (by simpa using h)).mono fun e w' h => errPost_err h
theorem rset_out (v : Value) (l : Row) (f t s c : Int) (w : World) (hv : RowAt w v l) (hl : l.length ≤ 20000) :
    Calls Tryd.prog 16 #[v, .int .i64 f, .int .i64 t, .int .i64 s, .int .i64 c] w (ErrPost (setO l f t s c).1 (setO l f t s c).2 w) := by
  unfold setO
  by_cases h : fitB l.length f t = true
  · rw [if_pos h]
    have h' := of_decide_eq_true h
    obtain ⟨q, rfl⟩ := Int.eq_ofNat_of_zero_le h'.1
    obtain ⟨p, rfl⟩ := Int.eq_ofNat_of_zero_le (show 0 ≤ t by omega)
    exact rset_on v l q p s c w hv (by omega) (by omega) (by omega)
  · rw [if_neg h]
    exact (rset_off v l f t s c w hv (by simpa using h)).mono fun e w' h => errPost_err h
theorem link_out (v : Value) (l : Row) (f t : Int) (h : ByteArray) (w : World) (hv : RowAt w v l) (hl : l.length ≤ 20000) (hs : h.size ≤ 1000000) (hE : Tg.Env w) :
    Calls Tryd.prog 17 #[v, .int .i64 f, .int .i64 t, .string h] w (ErrPost (linkO l f t h).1 (linkO l f t h).2 w) := by
  unfold linkO
  by_cases hh : (linkS h && fitB l.length f t) = true
  · rw [if_pos hh]
    rw [Bool.and_eq_true] at hh
    have h' := of_decide_eq_true hh.2
    obtain ⟨q, rfl⟩ := Int.eq_ofNat_of_zero_le h'.1
    obtain ⟨p, rfl⟩ := Int.eq_ofNat_of_zero_le (show 0 ≤ t by omega)
    exact link_on v l q p h w hv (by omega) (by omega) (by omega) hs hE hh.1
  · rw [if_neg hh]
    exact (link_off v l f t h w hv hs hE (by simpa using hh)).mono fun e w' h => errPost_err h
theorem rlinks_out (v : Value) (l : Row) (f t : Int) (h : ByteArray) (w : World) (hv : RowAt w v l) (hl : l.length ≤ 20000) (hs : h.size ≤ 1000000) :
    Calls Tryd.prog 18 #[v, .int .i64 f, .int .i64 t, .string h] w (ErrPost (linkO l f t h).1 (linkO l f t h).2 w) := by
  unfold linkO
  by_cases hh : (linkS h && fitB l.length f t) = true
  · rw [if_pos hh]
    rw [Bool.and_eq_true] at hh
    have h' := of_decide_eq_true hh.2
    obtain ⟨q, rfl⟩ := Int.eq_ofNat_of_zero_le h'.1
    obtain ⟨p, rfl⟩ := Int.eq_ofNat_of_zero_le (show 0 ≤ t by omega)
    exact rlinks_on v l q p h w hv (by omega) (by omega) (by omega) hs hh.1
  · rw [if_neg hh]
    exact (rlinks_off v l f t h w hv hs (by simpa using hh)).mono fun e w' h => errPost_err h

end Go.Proofs.YtiaoflagjaclmaaDoor
