/-
  What a style's declarations say: on bytes, and on numbers of 64 bits.
-/
import Derived.Test.YthoinlapopongaaDoorRows
import Derived.WalkKit
import Derived.Lib.TrimByte
import Derived.Lib.IndexMore
namespace Go.Proofs.YthoinlapopongaaDoor
open Go.RowKit Go.Lib

abbrev B64 := BitVec 64
/-- Go's bits &^ clear | set. -/
def overS (x s c : B64) : B64 := (x &&& ~~~c) ||| s
theorem wrap_bits (r : B64) : wrap64 (r.toNat : Int) = r.toInt := by
  have h1 := BitVec.toInt_eq_toNat_cond r
  have h2 := r.isLt
  unfold wrap64
  rw [h1]
  split <;> omega
theorem bits_or (x y : Int) : bits .or .i64 x y = (BitVec.ofInt 64 x ||| BitVec.ofInt 64 y).toInt := by
  rw [← wrap_bits]; unfold bits wrap64; exact IntKind.wrap_i64 _
theorem bits_and (x y : Int) : bits .and .i64 x y = (BitVec.ofInt 64 x &&& BitVec.ofInt 64 y).toInt := by
  rw [← wrap_bits]; unfold bits wrap64; exact IntKind.wrap_i64 _
theorem bits_andNot (x y : Int) : bits .andNot .i64 x y = (BitVec.ofInt 64 x &&& ~~~BitVec.ofInt 64 y).toInt := by
  rw [← wrap_bits]; unfold bits wrap64; exact IntKind.wrap_i64 _
theorem ofInt_bits (r : B64) : BitVec.ofInt 64 r.toInt = r := BitVec.ofInt_toInt
theorem bits_ofInt {x : Int} (h : -9223372036854775808 ≤ x) (h' : x ≤ 9223372036854775807) : (BitVec.ofInt 64 x).toInt = x := by
  rw [BitVec.toInt_ofInt]
  exact Int.bmod_eq_of_le (by omega) (by omega)
theorem toInt_zero_iff (r : B64) : r.toInt = 0 ↔ r = 0#64 := by
  rw [← BitVec.toInt_inj]; rfl

abbrev kWeight : ByteArray := ⟨#[102, 111, 110, 116, 45, 119, 101, 105, 103, 104, 116]⟩
abbrev kStyle : ByteArray := ⟨#[102, 111, 110, 116, 45, 115, 116, 121, 108, 101]⟩
abbrev kDeco : ByteArray := ⟨#[116, 101, 120, 116, 45, 100, 101, 99, 111, 114, 97, 116, 105, 111, 110]⟩
abbrev kBold : ByteArray := ⟨#[98, 111, 108, 100]⟩
abbrev kHeavy : ByteArray := ⟨#[55, 48, 48]⟩
abbrev kPlain : ByteArray := ⟨#[52, 48, 48]⟩
abbrev kItalic : ByteArray := ⟨#[105, 116, 97, 108, 105, 99]⟩
abbrev kNormal : ByteArray := ⟨#[110, 111, 114, 109, 97, 108]⟩
abbrev kUnder : ByteArray := ⟨#[117, 110, 100, 101, 114, 108, 105, 110, 101]⟩
abbrev kThrough : ByteArray := ⟨#[108, 105, 110, 101, 45, 116, 104, 114, 111, 117, 103, 104]⟩
abbrev kNone : ByteArray := ⟨#[110, 111, 110, 101]⟩

/-- A word that sets a bit; "normal", which clears it. -/
def oneS (bit : B64) (v word : ByteArray) : B64 × B64 := if v = word then (bit, 0#64) else if v = kNormal then (0#64, bit) else (0#64, 0#64)

/-- The bit of a word of text-decoration: 0: it is none. -/
def strokeS (v : ByteArray) : B64 := if v = kUnder then 4#64 else if v = kThrough then 8#64 else 0#64
/-- What known words set together. -/
def strokesOf (l : List ByteArray) : B64 := l.foldl (fun a v => a ||| strokeS v) 0#64
def allStrokes (l : List ByteArray) : Bool := l.all fun v => decide (v = kUnder ∨ v = kThrough)

/-- A text parted at each byte c: never without a part. -/
def partsB (c : UInt8) : List UInt8 → List (List UInt8)
  | [] => [[]]
  | b :: t => if b = c then [] :: partsB c t else ((b :: (partsB c t).headD []) :: (partsB c t).tail)
theorem partsB_ne (c : UInt8) (l : List UInt8) : partsB c l ≠ [] := by
  cases l with
  | nil => simp [partsB]
  | cons b t => unfold partsB; split <;> simp
theorem partsB_eq (c : UInt8) (l : List UInt8) : (partsB c l).headD [] :: (partsB c l).tail = partsB c l := by
  cases h : partsB c l with
  | nil => exact absurd h (partsB_ne c l)
  | cons => rfl
theorem partsB_cons (c b : UInt8) (t : List UInt8) : partsB c (b :: t) = if b = c then [] :: partsB c t else ((b :: (partsB c t).headD []) :: (partsB c t).tail) := rfl
theorem partsB_append (c : UInt8) : ∀ s t : List UInt8, partsB c (s ++ c :: t) = partsB c s ++ partsB c t
  | [], t => by rw [List.nil_append, partsB_cons, if_pos rfl]; rfl
  | b :: s, t => by
    have ih := partsB_append c s t
    have hne := partsB_ne c s
    rw [List.cons_append, partsB_cons, partsB_cons, ih]
    split
    · rfl
    · cases h : partsB c s with
      | nil => exact absurd h hne
      | cons => simp
theorem partsB_none (c : UInt8) : ∀ s : List UInt8, c ∉ s → partsB c s = [s]
  | [], _ => rfl
  | b :: s, h => by
    have h1 : b ≠ c := fun e => h (by simp [e])
    have h2 : c ∉ s := fun e => h (by simp [e])
    unfold partsB
    rw [if_neg h1, partsB_none c s h2]; rfl
theorem partsB_len (c : UInt8) : ∀ (l p : List UInt8), p ∈ partsB c l → p.length ≤ l.length
  | [], p, h => by simp [partsB] at h; simp [h]
  | b :: t, p, h => by
    unfold partsB at h
    split at h
    · rcases List.mem_cons.1 h with rfl | h
      · simp
      · have := partsB_len c t p h; simp; omega
    · rcases List.mem_cons.1 h with rfl | h
      · have h0 : (partsB c t).headD [] ∈ partsB c t := by
          have := partsB_eq c t
          generalize (partsB c t).headD [] = x at this ⊢
          rw [← this]; exact List.mem_cons_self
        have h1 := partsB_len c t _ h0
        rw [List.length_cons, List.length_cons]; omega
      · have := partsB_len c t p (by rw [← partsB_eq c t]; exact List.mem_cons_of_mem _ h)
        simp; omega

/-- The words: what stands between blanks. -/
def wordsB (l : List UInt8) : List (List UInt8) := (partsB 32 l).filter (fun p => !p.isEmpty)
theorem wordsB_blank (t : List UInt8) : wordsB (32 :: t) = wordsB t := by
  unfold wordsB; rw [partsB_cons, if_pos rfl]; rfl
theorem wordsB_nil : wordsB [] = [] := by decide
theorem wordsB_one {p : List UInt8} (h0 : p ≠ []) (h : (32 : UInt8) ∉ p) : wordsB p = [p] := by
  unfold wordsB; rw [partsB_none _ _ h]; cases p with
  | nil => exact absurd rfl h0
  | cons => rfl
theorem wordsB_cons {p : List UInt8} (h0 : p ≠ []) (h : (32 : UInt8) ∉ p) (t : List UInt8) : wordsB (p ++ 32 :: t) = p :: wordsB t := by
  unfold wordsB; rw [partsB_append, partsB_none _ _ h, List.filter_append]
  cases p with
  | nil => exact absurd rfl h0
  | cons => rfl
theorem wordsB_len (l p : List UInt8) (h : p ∈ wordsB l) : p.length ≤ l.length := partsB_len 32 l p (List.mem_filter.1 h).1
def wordsS (v : ByteArray) : List ByteArray := (wordsB v.data.toList).map fun l => ⟨l.toArray⟩

def strokesS (v : ByteArray) : B64 × B64 :=
  if v = kNone then (0#64, 12#64) else if allStrokes (wordsS v) = false ∨ strokesOf (wordsS v) = 0#64 then (0#64, 0#64) else (strokesOf (wordsS v), 12#64 &&& ~~~(strokesOf (wordsS v)))
/-- A weight that may be told by its number: its word. -/
def weightS (v : ByteArray) : ByteArray := if v = kHeavy then kBold else if v = kPlain then kNormal else v
/-- What a property and a value say: set, cleared. -/
def toldS (p v : ByteArray) : B64 × B64 :=
  if p = kWeight then oneS 1#64 (weightS v) kBold
  else if p = kStyle then oneS 2#64 v kItalic
  else if p = kDeco then strokesS v
  else (0#64, 0#64)

/-- Small letters. -/
def lowB (b : UInt8) : UInt8 := if 65 ≤ b ∧ b ≤ 90 then b - 65 + 97 else b
def plainB (l : List UInt8) : List UInt8 := (trimB l 32).map lowB
theorem trimB_len (l : List UInt8) (c : UInt8) : (trimB l c).length ≤ l.length := by
  have h1 := (List.dropWhile_sublist (fun x => x == c) (l := l.reverse)).length_le
  have h2 := (List.dropWhile_sublist (fun x => x == c) (l := trimRightB l c)).length_le
  unfold trimB trimLeftB
  unfold trimRightB at h2 ⊢
  simp at h1 h2 ⊢
  omega
theorem plainB_len (l : List UInt8) : (plainB l).length ≤ l.length := by
  unfold plainB; rw [List.length_map]; exact trimB_len l 32
/-- A declaration: property and value; none: it has no colon. -/
def declB (l : List UInt8) : Option (ByteArray × ByteArray) :=
  if (cut l [58]).2.2 then some (⟨(plainB (cut l [58]).1).toArray⟩, ⟨(plainB (cut l [58]).2.1).toArray⟩) else none
def declsB (l : List UInt8) : List (ByteArray × ByteArray) := (partsB 59 l).filterMap declB

/-- What is set and cleared, once a declaration more has been read. -/
def stepS (z : B64 × B64) (d : ByteArray × ByteArray) : B64 × B64 := (overS z.1 (toldS d.1 d.2).1 (toldS d.1 d.2).2, overS z.2 (toldS d.1 d.2).2 (toldS d.1 d.2).1)
def foldS (l : List (ByteArray × ByteArray)) : B64 × B64 := l.foldl stepS (0#64, 0#64)
theorem foldS_snoc (l : List (ByteArray × ByteArray)) (d : ByteArray × ByteArray) : foldS (l ++ [d]) = stepS (foldS l) d := by simp [foldS]
def parseS (s : ByteArray) : B64 × B64 := foldS (declsB s.data.toList)

end Go.Proofs.YthoinlapopongaaDoor
