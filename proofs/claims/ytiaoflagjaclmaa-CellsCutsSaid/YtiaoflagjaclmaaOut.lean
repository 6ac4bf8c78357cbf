/-
  Insert, Cut, Part, of the program and of the document, with what they answer where a place is none.
-/
import Derived.Test.YtiaoflagjaclmaaDocCuts
namespace Go.Proofs.Ytiaoflagjaclmaa
open Go.RowKit Go.Lib

def ErrPost (R : Row) (er : Int) (w : World) (e : Ending) (w' : World) : Prop := ∃ v, e = .returned (.tuple #[v, .int .i64 er]) ∧ w'.ownsRow w.heap.size 47 3 v R.length (cellsR R) ∧ Below w.heap.size w w'
theorem errPost_err {w : World} {e : Ending} {w' : World} (h : e = .returned errV ∧ Below w.heap.size w w') : ErrPost [] 1 w e w' := ⟨_, h.1, World.ownsRow_nil _ _ _ _, h.2⟩
def insO (l m : Row) (k : Int) : Row × Int := if insB l.length k = true then (l.take k.toNat ++ m ++ l.drop k.toNat, 0) else ([], 1)
def cutO (l : Row) (f t : Int) : Row × Int := if fitB l.length f t = true then (l.take f.toNat ++ l.drop t.toNat, 0) else ([], 1)
def partO (l : Row) (f t : Int) : Row × Int := if fitB l.length f t = true then ((l.drop f.toNat).take (t.toNat - f.toNat), 0) else ([], 1)
theorem fit_ins (n : Nat) (k : Int) : fitB n k k = insB n k := by
  unfold fitB insB
  rw [Bool.eq_iff_iff]
  simp only [decide_eq_true_eq]
  omega
theorem insO_len (l m : Row) (k : Int) (hl : l.length ≤ 20000) (hm : m.length ≤ 20000) : (insO l m k).1.length ≤ 40000 := by
  unfold insO
  split
  · simp only [List.length_append, List.length_take, List.length_drop]; omega
  · simp
theorem cutO_len (l : Row) (f t : Int) (hl : l.length ≤ 20000) : (cutO l f t).1.length ≤ 40000 := by
  unfold cutO
  split
  · simp only [List.length_append, List.length_take, List.length_drop]; omega
  · simp
theorem partO_len (l : Row) (f t : Int) (hl : l.length ≤ 20000) : (partO l f t).1.length ≤ 40000 := by
  unfold partO
  split
  · simp only [List.length_take, List.length_drop]; omega
  · simp

theorem insert_out (v u : Value) (l m : Row) (k : Int) (w : World) (hv : RowAt w v l) (hu : RowAt w u m) (hl : l.length ≤ 20000) (hm : m.length ≤ 20000) :
    Calls Try.prog 15 #[v, .int .i64 k, u] w (ErrPost (insO l m k).1 (insO l m k).2 w) := by
  unfold insO
  by_cases h : insB l.length k = true
  · rw [if_pos h]
    have h' := of_decide_eq_true h
    obtain ⟨q, rfl⟩ := Int.eq_ofNat_of_zero_le h'.1
    exact insert_on v u l m q w hv hu (by omega) (by omega) (by omega)
  · rw [if_neg h]
    exact (insert_off v u l k w hv (by simpa using h)).mono fun e w' h => errPost_err h
theorem rinsert_out (v u : Value) (l m : Row) (k : Int) (w : World) (hv : RowAt w v l) (hu : RowAt w u m) (hl : l.length ≤ 20000) (hm : m.length ≤ 20000) :
    Calls Try.prog 16 #[v, .int .i64 k, u] w (ErrPost (insO l m k).1 (insO l m k).2 w) := by
  unfold insO
  by_cases h : insB l.length k = true
  · rw [if_pos h]
    have h' := of_decide_eq_true h
    obtain ⟨q, rfl⟩ := Int.eq_ofNat_of_zero_le h'.1
    exact rinsert_on v u l m q w hv hu (by omega) (by omega) (by omega)
  · rw [if_neg h]
    exact (rinsert_off v u l k w hv (by rw [fit_ins]; simpa using h)).mono fun e w' h => errPost_err h
theorem cut_out (v : Value) (l : Row) (f t : Int) (w : World) (hv : RowAt w v l) (hl : l.length ≤ 20000) :
    Calls Try.prog 17 #[v, .int .i64 f, .int .i64 t] w (ErrPost (cutO l f t).1 (cutO l f t).2 w) := by
  unfold cutO
  by_cases h : fitB l.length f t = true
  · rw [if_pos h]
    have h' := of_decide_eq_true h
    obtain ⟨q, rfl⟩ := Int.eq_ofNat_of_zero_le h'.1
    obtain ⟨p, rfl⟩ := Int.eq_ofNat_of_zero_le (show 0 ≤ t by omega)
    exact cut_on v l q p w hv (by omega) (by omega) (by omega)
  · rw [if_neg h]
    exact (cut_off v l f t w hv (by simpa using h)).mono fun e w' h => errPost_err h
theorem rcut_out (v : Value) (l : Row) (f t : Int) (w : World) (hv : RowAt w v l) (hl : l.length ≤ 20000) :
    Calls Try.prog 18 #[v, .int .i64 f, .int .i64 t] w (ErrPost (cutO l f t).1 (cutO l f t).2 w) := by
  unfold cutO
  by_cases h : fitB l.length f t = true
  · rw [if_pos h]
    have h' := of_decide_eq_true h
    obtain ⟨q, rfl⟩ := Int.eq_ofNat_of_zero_le h'.1
    obtain ⟨p, rfl⟩ := Int.eq_ofNat_of_zero_le (show 0 ≤ t by omega)
    exact rcut_on v l q p w hv (by omega) (by omega) (by omega)
  · rw [if_neg h]
    exact (rcut_off v l f t w hv (by simpa using h)).mono fun e w' h => errPost_err h
theorem part_out (v : Value) (l : Row) (f t : Int) (w : World) (hv : RowAt w v l) (hl : l.length ≤ 20000) :
    Calls Try.prog 19 #[v, .int .i64 f, .int .i64 t] w (ErrPost (partO l f t).1 (partO l f t).2 w) := by
  unfold partO
  by_cases h : fitB l.length f t = true
  · rw [if_pos h]
    have h' := of_decide_eq_true h
    obtain ⟨q, rfl⟩ := Int.eq_ofNat_of_zero_le h'.1
    obtain ⟨p, rfl⟩ := Int.eq_ofNat_of_zero_le (show 0 ≤ t by omega)
    exact part_on v l q p w hv (by omega) (by omega) (by omega)
  · rw [if_neg h]
    exact (part_off v l f t w hv (by simpa using h)).mono fun e w' h => errPost_err h
theorem rpart_out (v : Value) (l : Row) (f t : Int) (w : World) (hv : RowAt w v l) (hl : l.length ≤ 20000) :
    Calls Try.prog 20 #[v, .int .i64 f, .int .i64 t] w (ErrPost (partO l f t).1 (partO l f t).2 w) := by
  unfold partO
  by_cases h : fitB l.length f t = true
  · rw [if_pos h]
    have h' := of_decide_eq_true h
    obtain ⟨q, rfl⟩ := Int.eq_ofNat_of_zero_le h'.1
    obtain ⟨p, rfl⟩ := Int.eq_ofNat_of_zero_le (show 0 ≤ t by omega)
    exact rpart_on v l q p w hv (by omega) (by omega) (by omega)
  · rw [if_neg h]
    exact (rpart_off v l f t w hv (by simpa using h)).mono fun e w' h => errPost_err h

end Go.Proofs.Ytiaoflagjaclmaa
