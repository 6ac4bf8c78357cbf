/-
  Plain facts on texts: names, values, targets, by bytes and by decoded characters. No step of the program.
-/
import Derived.Lib.ValidLaws
import Derived.Lib.MapLaws
import Derived.Lib.IndexMore
import Derived.Lib.Strings
import Derived.Laws.Cover4
import Derived.Laws.IdiomStrings
namespace Go.Proofs.YtafincmcmgedbaaGreatDoor.Tg
open Go.Lib

def letN (c : Nat) : Bool := decide (97 ≤ c ∧ c ≤ 122)
def nameN (c : Nat) : Bool := decide ((97 ≤ c ∧ c ≤ 122) ∨ (48 ≤ c ∧ c ≤ 57) ∨ c = 45)
def nameL (l : List UInt8) : Bool := l.all fun b => nameN b.toNat
/-- Is it a name? -/
def nameS (s : ByteArray) : Bool := decide (0 < s.size ∧ s.size ≤ 16) && letN (s.data.toList.getD 0 0).toNat && nameL s.data.toList

theorem head_high (l : List UInt8) (h : 128 ≤ (l.getD 0 0).toNat) : 128 ≤ (decodeL l).1 := by
  rw [decodeL_N]
  rcases decodeN_shape l.length (l.getD 0 0).toNat (l.getD 1 0).toNat (l.getD 2 0).toNat (l.getD 3 0).toNat with ⟨h1, h2⟩ | ⟨_, _, _, h1, h2⟩ | ⟨_, _, _, _, h1, _, h2⟩ | ⟨_, _, _, _, _, h1, _, h2⟩ | h2 <;> rw [h2] <;> simp only <;> omega

theorem nameL_step (l : List UInt8) (hne : l ≠ []) : nameL l = (nameN (decodeL l).1 && nameL (l.drop (decodeL l).2)) := by
  obtain ⟨b, t, rfl⟩ := List.exists_cons_of_ne_nil hne
  by_cases hb : b.toNat < 128
  · rw [decodeL_ascii b t hb]
    simp [nameL]
  · have h := head_high (b :: t) (by simpa using hb)
    have e1 : nameN (decodeL (b :: t)).1 = false := by unfold nameN; simp; omega
    have e2 : nameN b.toNat = false := by unfold nameN; simp; omega
    rw [e1]
    simp [nameL, e2]

/-- May a character be? -/
def mayN (c : Nat) : Bool := decide (32 ≤ c ∧ c ≠ 127 ∧ ¬ (55296 ≤ c ∧ c ≤ 57343) ∧ c ≤ 1114111)

def runesG : Nat → List UInt8 → List Nat
  | 0, _ => []
  | n + 1, l => if l = [] then [] else (decodeL l).1 :: runesG n (l.drop (decodeL l).2)
theorem runesG_nil : ∀ n, runesG n [] = []
  | 0 => rfl
  | _ + 1 => by simp [runesG]
theorem runesG_fuel : ∀ (n m : Nat) (l : List UInt8), l.length ≤ n → l.length ≤ m → runesG n l = runesG m l
  | 0, m, l, hn, _ => by
    have : l = [] := List.eq_nil_of_length_eq_zero (by omega)
    subst this
    rw [runesG_nil, runesG_nil]
  | n + 1, 0, l, _, hm => by
    have : l = [] := List.eq_nil_of_length_eq_zero (by omega)
    subst this
    rw [runesG_nil, runesG_nil]
  | n + 1, m + 1, l, hn, hm => by
    by_cases hne : l = []
    · subst hne
      rw [runesG_nil, runesG_nil]
    · have hw := decodeL_width l
      have hl : 0 < l.length := List.length_pos_iff.2 hne
      simp only [runesG, if_neg hne]
      rw [runesG_fuel n m _ (by rw [List.length_drop]; omega) (by rw [List.length_drop]; omega)]
def runesD (l : List UInt8) : List Nat := runesG l.length l
theorem runesD_nil : runesD [] = [] := rfl
theorem runesD_step (l : List UInt8) (hne : l ≠ []) : runesD l = (decodeL l).1 :: runesD (l.drop (decodeL l).2) := by
  have hw := decodeL_width l
  have hl : 0 < l.length := List.length_pos_iff.2 hne
  unfold runesD
  obtain ⟨n, hn⟩ : ∃ n, l.length = n + 1 := ⟨l.length - 1, by omega⟩
  rw [hn]
  simp only [runesG, if_neg hne]
  rw [runesG_fuel n _ _ (by rw [List.length_drop]; omega) (Nat.le_refl _)]
theorem runesD_length : ∀ (n : Nat) (l : List UInt8), l.length ≤ n → (runesD l).length ≤ l.length
  | 0, l, h => by
    have : l = [] := List.eq_nil_of_length_eq_zero (by omega)
    subst this; simp [runesD_nil]
  | n + 1, l, h => by
    by_cases hne : l = []
    · subst hne; simp [runesD_nil]
    · have hw := decodeL_width l
      have hl : 0 < l.length := List.length_pos_iff.2 hne
      rw [runesD_step l hne, List.length_cons]
      have := runesD_length n (l.drop (decodeL l).2) (by rw [List.length_drop]; omega)
      rw [List.length_drop] at this
      omega

def mayL' (l : List UInt8) : Bool := (runesD l).all mayN
theorem mayL'_step (l : List UInt8) (hne : l ≠ []) : mayL' l = (mayN (decodeL l).1 && mayL' (l.drop (decodeL l).2)) := by
  unfold mayL'
  rw [runesD_step l hne, List.all_cons]
theorem mayL'_nil : mayL' [] = true := rfl

/-- May it be a value? -/
def valueS (s : ByteArray) : Bool := decide (s.size ≤ 200) && validD s.data.toList && mayL' s.data.toList

/-- The characters' bytes. -/
def encD (l : List UInt8) : List UInt8 := (runesD l).flatMap fun (r : Nat) => encodeRune (r : Int)
theorem encD_step (l : List UInt8) (hne : l ≠ []) : encD l = encodeRune ((decodeL l).1 : Int) ++ encD (l.drop (decodeL l).2) := by
  unfold encD
  rw [runesD_step l hne, List.flatMap_cons]

theorem encodeBad : encodeRune 65533 = [239, 191, 189] := by decide

theorem encD_valid : ∀ (n : Nat) (l : List UInt8), l.length ≤ n → (encD l = l ↔ validD l = true)
  | 0, l, h => by
    have : l = [] := List.eq_nil_of_length_eq_zero (by omega)
    subst this; simp [encD, runesD_nil, validD_nil]
  | n + 1, l, h => by
    by_cases hne : l = []
    · subst hne; simp [encD, runesD_nil, validD_nil]
    · have hw := decodeL_width l
      have hl : 0 < l.length := List.length_pos_iff.2 hne
      rw [encD_step l hne, validD_step l hne]
      by_cases hv : (decodeL l).1 = 65533 ∧ (decodeL l).2 = 1
      · rw [if_pos hv]
        simp only [Bool.false_eq_true, iff_false]
        intro he
        rw [hv.1, hv.2] at he
        have e5 : encodeRune ((65533 : Nat) : Int) = [239, 191, 189] := encodeBad
        rw [e5] at he
        have e6 : decodeL l = (65533, 3) := by
          rw [← he, decodeL_N]
          have hlen : 3 ≤ ([239, 191, 189] ++ encD (List.drop 1 l)).length := by simp
          rcases decodeN_shape ([239, 191, 189] ++ encD (List.drop 1 l)).length 239 191 189 (([239, 191, 189] ++ encD (List.drop 1 l)).getD 3 0).toNat with ⟨h1, h2⟩ | ⟨h1, _⟩ | ⟨_, _, _, _, h1, _, h2⟩ | ⟨h1, _⟩ | h2
          · omega
          · omega
          · show decodeN _ 239 191 189 _ = _
            rw [h2]
          · omega
          · exfalso
            unfold decodeN at h2
            rw [if_neg (by omega), if_neg (by omega), if_pos (by omega), if_pos (by omega)] at h2
            simp at h2
        rw [e6] at hv
        simp at hv
      · rw [if_neg hv, encode_decode l hne hv]
        have ih := encD_valid n (l.drop (decodeL l).2) (by rw [List.length_drop]; omega)
        rw [← ih]
        constructor
        · intro he
          have : List.take (decodeL l).2 l ++ encD (List.drop (decodeL l).2 l) = List.take (decodeL l).2 l ++ List.drop (decodeL l).2 l := by rw [he, List.take_append_drop]
          exact List.append_cancel_left this
        · intro he
          rw [he, List.take_append_drop]

theorem toB (n : Nat) (z : Int) (h : z = (n : Int)) : z.toNat.toUInt8 = UInt8.ofNat n := by subst h; rfl
theorem utf8_enc_c (r : Nat) (h : r < 55296 ∨ (57344 ≤ r ∧ r ≤ 1114111)) : (if Utf8.valid (r : Int) = true then (r : Int).toNat else Utf8.runeError) = r := by
  have hv : Utf8.valid (r : Int) = true := by unfold Utf8.valid; simp; omega
  rw [if_pos hv]; rfl
theorem utf8_encode (r : Nat) : (Utf8.encode (r : Int)).data.toList = encodeRune (r : Int) := by
  by_cases h1 : r ≤ 127
  · unfold Utf8.encode encodeRune
    simp only [utf8_enc_c r (by omega)]
    rw [encodeRuneZ_one (by omega) (by omega), if_pos (by omega)]
    simp
  · by_cases h2 : r ≤ 2047
    · unfold Utf8.encode encodeRune
      simp only [utf8_enc_c r (by omega)]
      rw [encodeRuneZ_two (by omega) (by omega), if_neg (by omega), if_pos (by omega)]
      simp only [List.map, toB (192 + r / 64) _ (show 192 + (r : Int) / 64 = _ by omega), toB (128 + r % 64) _ (show 128 + (r : Int) % 64 = _ by omega)]
    · by_cases h3 : r < 55296 ∨ (57343 < r ∧ r ≤ 65535)
      · unfold Utf8.encode encodeRune
        simp only [utf8_enc_c r (by omega)]
        rw [encodeRuneZ_three (by omega), if_neg (by omega), if_neg (by omega), if_pos (by omega)]
        simp only [List.map, toB (224 + r / 4096) _ (show 224 + (r : Int) / 4096 = _ by omega), toB (128 + r / 64 % 64) _ (show 128 + (r : Int) / 64 % 64 = _ by omega), toB (128 + r % 64) _ (show 128 + (r : Int) % 64 = _ by omega)]
      · by_cases h4 : 65536 ≤ r ∧ r ≤ 1114111
        · unfold Utf8.encode encodeRune
          simp only [utf8_enc_c r (by omega)]
          rw [encodeRuneZ_four (by omega) (by omega), if_neg (by omega), if_neg (by omega), if_neg (by omega)]
          simp only [List.map, toB (240 + r / 262144) _ (show 240 + (r : Int) / 262144 = _ by omega), toB (128 + r / 4096 % 64) _ (show 128 + (r : Int) / 4096 % 64 = _ by omega), toB (128 + r / 64 % 64) _ (show 128 + (r : Int) / 64 % 64 = _ by omega), toB (128 + r % 64) _ (show 128 + (r : Int) % 64 = _ by omega)]
        · have hv : Utf8.valid (r : Int) = false := by unfold Utf8.valid; simp; omega
          unfold Utf8.encode encodeRune
          rw [encodeRuneZ_bad (show (r : Int) < 0 ∨ (55296 ≤ (r : Int) ∧ (r : Int) ≤ 57343) ∨ 1114111 < (r : Int) by omega)]
          have hc : (if Utf8.valid (r : Int) = true then (r : Int).toNat else Utf8.runeError) = 65533 := by rw [hv]; rfl
          simp only [hc]
          decide

theorem foldl_bytes (ns : List Nat) : ∀ s : ByteArray, ((ns.map fun (r : Nat) => (r : Int)).foldl (fun r n => r ++ Utf8.encode n) s).data.toList = s.data.toList ++ ns.flatMap fun (r : Nat) => encodeRune (r : Int) := by
  induction ns with
  | nil => intro s; simp
  | cons n ns ih =>
    intro s
    rw [List.map_cons, List.foldl_cons, ih, List.flatMap_cons, ByteArray.data_append, Array.toList_append, utf8_encode, List.append_assoc]
/-- The characters, written again: the text itself just where it is UTF-8. -/
theorem runesBytes_eq (s : ByteArray) : (runesBytes ((runesD s.data.toList).map fun (r : Nat) => (r : Int)) = s) ↔ validD s.data.toList = true := by
  rw [← encD_valid _ _ (Nat.le_refl _)]
  have h : (runesBytes ((runesD s.data.toList).map fun (r : Nat) => (r : Int))).data.toList = encD s.data.toList := by
    unfold runesBytes encD
    rw [foldl_bytes]
    rfl
  rw [← h]
  constructor
  · intro e; rw [e]
  · intro e
    generalize runesBytes ((runesD s.data.toList).map fun (r : Nat) => (r : Int)) = t at e
    cases t with | mk a => cases s with | mk b => simpa using Array.toList_inj.1 e

def runeCellsD (l : List UInt8) : List Value := (runesD l).map fun (r : Nat) => Value.int .i32 (r : Int)
theorem convRunes (s : ByteArray) : ∀ (bound i : Nat) (acc : Array Value), s.size ≤ bound + i → (Conv.runesFrom s bound i acc).toList = acc.toList ++ runeCellsD (s.data.toList.drop i)
  | 0, i, acc, h => by
    have : s.data.toList.drop i = [] := List.drop_eq_nil_of_le (by rw [← size_eq]; omega)
    rw [this]; simp [Conv.runesFrom, runeCellsD, runesD_nil]
  | bound + 1, i, acc, h => by
    unfold Conv.runesFrom
    by_cases hi : i < s.size
    · have hne : s.data.toList.drop i ≠ [] := by
        intro h0
        have := congrArg List.length h0
        rw [List.length_drop, ← size_eq] at this
        simp at this; omega
      have hw := decodeL_width (s.data.toList.drop i)
      rw [decodeL_drop] at hw
      rw [if_pos hi, convRunes s bound _ _ (by omega)]
      unfold runeCellsD
      rw [runesD_step _ hne, decodeL_drop, List.drop_drop]
      simp
    · rw [if_neg hi]
      have : s.data.toList.drop i = [] := List.drop_eq_nil_of_le (by rw [← size_eq]; omega)
      rw [this]; simp [runeCellsD, runesD_nil]

/-! ### targets -/
def jsL : List UInt8 := [106, 97, 118, 97, 115, 99, 114, 105, 112, 116]
def smallB (b : UInt8) : UInt8 := if 65 ≤ b.toNat ∧ b.toNat ≤ 90 then b + 32 else b
def smallZ (c : Int) : Int := if 65 ≤ c ∧ c ≤ 90 then c + 32 else c
/-- What stands ahead of the first colon. -/
def aheadL (l : List UInt8) : List UInt8 := l.takeWhile fun b => b != 58
/-- Is it a target? -/
def targetS (s : ByteArray) : Bool := decide (0 < s.size) && valueS s && (s.data.toList.getD 0 0 != 32) && (s.data.toList.getD (s.size - 1) 0 != 32) && !(((aheadL s.data.toList).map smallB) == jsL)

theorem smallB_high (b : UInt8) (h : 128 ≤ b.toNat) : 128 ≤ (smallB b).toNat := by
  unfold smallB; rw [if_neg (by omega)]; exact h
theorem smallB_low (b : UInt8) (h : b.toNat < 128) : encodeRune (smallZ (b.toNat : Int)) = [smallB b] ∧ (smallB b).toNat < 128 := by
  revert h
  have : ∀ n : Fin 256, (UInt8.ofNat n.val).toNat < 128 → encodeRune (smallZ ((UInt8.ofNat n.val).toNat : Int)) = [smallB (UInt8.ofNat n.val)] ∧ (smallB (UInt8.ofNat n.val)).toNat < 128 := by decide +kernel
  have h2 := this ⟨b.toNat, b.toNat_lt⟩
  simpa using h2
theorem encode_head (r : Nat) (h : 128 ≤ r) : ∃ b t, encodeRune (r : Int) = b :: t ∧ 128 ≤ b.toNat := by
  unfold encodeRune
  by_cases h2 : r ≤ 2047
  · rw [encodeRuneZ_two (by omega) (by omega)]
    refine ⟨_, _, rfl, ?_⟩
    rw [show ((fun (x : Int) => x.toNat.toUInt8) (192 + (r : Int) / 64)) = UInt8.ofNat (192 + r / 64) from toB (192 + r / 64) _ (by omega)]
    simp; omega
  · by_cases h3 : r < 55296 ∨ (57343 < r ∧ r ≤ 65535)
    · rw [encodeRuneZ_three (by omega)]
      refine ⟨_, _, rfl, ?_⟩
      rw [show ((fun (x : Int) => x.toNat.toUInt8) (224 + (r : Int) / 4096)) = UInt8.ofNat (224 + r / 4096) from toB (224 + r / 4096) _ (by omega)]
      simp; omega
    · by_cases h4 : 65536 ≤ r ∧ r ≤ 1114111
      · rw [encodeRuneZ_four (by omega) (by omega)]
        refine ⟨_, _, rfl, ?_⟩
        rw [show ((fun (x : Int) => x.toNat.toUInt8) (240 + (r : Int) / 262144)) = UInt8.ofNat (240 + r / 262144) from toB (240 + r / 262144) _ (by omega)]
        simp; omega
      · rw [encodeRuneZ_bad (by omega)]
        exact ⟨_, _, rfl, by decide⟩
theorem map_small : ∀ (n : Nat) (l J : List UInt8), l.length ≤ n → (∀ b ∈ J, b.toNat < 128) → (mapD smallZ l = J ↔ l.map smallB = J)
  | 0, l, J, h, _ => by
    have : l = [] := List.eq_nil_of_length_eq_zero (by omega)
    subst this; simp [mapD_nil]
  | n + 1, [], J, _, _ => by simp [mapD_nil]
  | n + 1, b :: t, J, h, hJ => by
    have ht : t.length ≤ n := by simpa using h
    rw [mapD_step smallZ (b :: t) (by simp)]
    by_cases hb : b.toNat < 128
    · rw [decodeL_ascii b t hb]
      obtain ⟨e1, _⟩ := smallB_low b hb
      have h0 : 0 ≤ smallZ (b.toNat : Int) := by unfold smallZ; split <;> omega
      simp only [if_pos h0, e1, List.drop_succ_cons, List.drop_zero, List.map_cons, List.singleton_append]
      cases J with
      | nil => simp
      | cons j J =>
        have ih := map_small n t J ht (fun x hx => hJ x (by simp [hx]))
        simp only [List.cons.injEq, ih]
    · have hh := head_high (b :: t) (by simpa using hb)
      have e1 : smallZ ((decodeL (b :: t)).1 : Int) = ((decodeL (b :: t)).1 : Int) := by unfold smallZ; rw [if_neg (by omega)]
      obtain ⟨c, u, e2, hc⟩ := encode_head _ hh
      rw [e1, if_pos (by omega), e2]
      cases J with
      | nil => simp
      | cons j J =>
        have hj := hJ j (by simp)
        constructor
        · intro he
          simp at he
          rw [he.1] at hc; omega
        · intro he
          simp at he
          have := smallB_high b (by omega)
          rw [he.1] at this; omega
theorem js_ascii : ∀ b ∈ jsL, b.toNat < 128 := by decide

theorem index_colon : ∀ l : List UInt8, (0 ≤ Lib.index l [58] → l.take (Lib.index l [58]).toNat = aheadL l) ∧ (Lib.index l [58] < 0 → l = aheadL l) ∧ -1 ≤ Lib.index l [58]
  | [] => by simp [Lib.index, aheadL]
  | b :: t => by
    obtain ⟨i1, i2, i3⟩ := index_colon t
    unfold Lib.index
    by_cases hb : b = 58
    · subst hb
      simp [aheadL]
    · have h1 : ([58] : List UInt8).isPrefixOf (b :: t) = false := by simp [List.isPrefixOf]; exact fun h => hb h.symm
      have h2 : (b != 58) = true := by simpa using hb
      rw [h1]
      simp only [Bool.false_eq_true, if_false]
      by_cases hn : Lib.index t [58] = -1
      · rw [hn]
        simp only [beq_self_eq_true, if_true]
        refine ⟨by omega, fun _ => ?_, by omega⟩
        have := i2 (by omega)
        unfold aheadL at this ⊢
        rw [List.takeWhile_cons, h2, if_pos rfl, ← this]
      · have hp : 0 ≤ Lib.index t [58] := by omega
        have hq : (Lib.index t [58] == -1) = false := by simpa using hn
        rw [hq]
        simp only [Bool.false_eq_true, if_false]
        refine ⟨fun _ => ?_, by omega, by omega⟩
        have e : (Lib.index t [58] + 1).toNat = (Lib.index t [58]).toNat + 1 := by omega
        rw [e, List.take_succ_cons, i1 hp]
        unfold aheadL
        rw [List.takeWhile_cons, h2, if_pos rfl]
theorem cut_colon (l : List UInt8) : (Lib.cut l [58]).1 = aheadL l := by
  obtain ⟨i1, i2, i3⟩ := index_colon l
  unfold Lib.cut
  by_cases h : 0 ≤ Lib.index l [58]
  · rw [if_pos h]; exact i1 h
  · rw [if_neg h]; exact i2 (by omega)
theorem ahead_length (l : List UInt8) : (aheadL l).length ≤ l.length := by
  unfold aheadL
  exact List.Sublist.length_le (List.takeWhile_sublist _)

end Go.Proofs.YtafincmcmgedbaaGreatDoor.Tg
