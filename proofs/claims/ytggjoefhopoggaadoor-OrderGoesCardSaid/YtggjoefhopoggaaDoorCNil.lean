/-
  What each method answers of a nil tree. Written by gen_nil.py.
-/
import Derived.Test.YtggjoefhopoggaaDoorCUp

namespace Go.Proofs.YtggjoefhopoggaaDoor
open Go.RowKit Go.Lib

set_option maxRecDepth 20000 in
set_option maxHeartbeats 4000000 in
theorem nil_is (w : World)  :
    Calls Tryd.prog 47 #[.pointer none] w fun e w' => e = .returned (.bool false) ∧ w = w' := by
  go_enter Tryd.func47, Tryd.ntmps47
  go_wp2
  go_ret
  exact ⟨rfl, rfl⟩

set_option maxRecDepth 20000 in
set_option maxHeartbeats 4000000 in
theorem nil_node (w : World) (id : Int) :
    Calls Tryd.prog 43 #[.pointer none, .int .i64 id] w fun e w' => e = .returned (.pointer none) ∧ w = w' := by
  have c_is := nil_is w
  go_enter Tryd.func43, Tryd.ntmps43
  go_wp2_with (go_at_call 47; ((with_reducible refine (c_is).mono ?_); rintro e w1 ⟨rfl, rfl⟩))
  go_ret
  exact ⟨rfl, rfl⟩

set_option maxRecDepth 20000 in
set_option maxHeartbeats 4000000 in
theorem nil_has (w : World) (id : Int) :
    Calls Tryd.prog 22 #[.pointer none, .int .i64 id] w fun e w' => e = .returned (.bool false) ∧ w = w' := by
  have c_node := nil_node w id
  go_enter Tryd.func22, Tryd.ntmps22
  go_wp2_with (go_at_call 43; ((with_reducible refine (c_node).mono ?_); rintro e w1 ⟨rfl, rfl⟩))
  go_ret
  exact ⟨rfl, rfl⟩

set_option maxRecDepth 20000 in
set_option maxHeartbeats 4000000 in
theorem nil_tag (w : World) (id : Int) :
    Calls Tryd.prog 37 #[.pointer none, .int .i64 id] w fun e w' => e = .returned (.int .i64 (-1)) ∧ w = w' := by
  have c_node := nil_node w id
  go_enter Tryd.func37, Tryd.ntmps37
  go_wp2_with (go_at_call 43; ((with_reducible refine (c_node).mono ?_); rintro e w1 ⟨rfl, rfl⟩))
  go_ret
  exact ⟨rfl, rfl⟩

set_option maxRecDepth 20000 in
set_option maxHeartbeats 4000000 in
theorem nil_told (w : World) (id : Int) :
    Calls Tryd.prog 39 #[.pointer none, .int .i64 id] w fun e w' => e = .returned (.string ⟨#[]⟩) ∧ w = w' := by
  have c_node := nil_node w id
  go_enter Tryd.func39, Tryd.ntmps39
  go_wp2_with (go_at_call 43; ((with_reducible refine (c_node).mono ?_); rintro e w1 ⟨rfl, rfl⟩))
  go_ret
  exact ⟨rfl, rfl⟩

set_option maxRecDepth 20000 in
set_option maxHeartbeats 4000000 in
theorem nil_kids (w : World) (id : Int) :
    Calls Tryd.prog 32 #[.pointer none, .int .i64 id] w fun e w' => e = .returned (.slice none 0 0) ∧ w = w' := by
  have c_node := nil_node w id
  go_enter Tryd.func32, Tryd.ntmps32
  go_wp2_with (go_at_call 43; ((with_reducible refine (c_node).mono ?_); rintro e w1 ⟨rfl, rfl⟩))
  go_ret
  exact ⟨rfl, rfl⟩

set_option maxRecDepth 20000 in
set_option maxHeartbeats 4000000 in
theorem nil_parent (w : World) (id : Int) :
    Calls Tryd.prog 23 #[.pointer none, .int .i64 id] w fun e w' => e = .returned (.int .i64 (-1)) ∧ w = w' := by
  have c_node := nil_node w id
  go_enter Tryd.func23, Tryd.ntmps23
  go_wp2_with (go_at_call 43; ((with_reducible refine (c_node).mono ?_); rintro e w1 ⟨rfl, rfl⟩))
  go_ret
  exact ⟨rfl, rfl⟩

set_option maxRecDepth 20000 in
set_option maxHeartbeats 4000000 in
theorem nil_index (w : World) (id : Int) :
    Calls Tryd.prog 34 #[.pointer none, .int .i64 id] w fun e w' => e = .returned (.int .i64 (-1)) ∧ w = w' := by
  have c_parent := nil_parent w id
  have c_node := nil_node w
  go_enter Tryd.func34, Tryd.ntmps34
  go_wp2_with (first | (go_at_call 23; ((with_reducible refine (c_parent).mono ?_); rintro e w1 ⟨rfl, rfl⟩)) | (go_at_call 43; ((with_reducible refine (c_node _).mono ?_); rintro e w1 ⟨rfl, rfl⟩)))
  go_ret
  exact ⟨rfl, rfl⟩

set_option maxRecDepth 20000 in
set_option maxHeartbeats 4000000 in
theorem nil_depth (w : World) (id : Int) :
    Calls Tryd.prog 24 #[.pointer none, .int .i64 id] w fun e w' => e = .returned (.int .i64 (-1)) ∧ w = w' := by
  have c_has := nil_has w id
  go_enter Tryd.func24, Tryd.ntmps24
  go_wp2
  go_loop [1, 5] (fun z d => z = .int .i64 id ∧ d = .int .i64 (-1)) (fun _ _ => 0)
  case atStart => exact ⟨rfl, rfl⟩
  case round =>
    obtain ⟨rfl, rfl⟩ := hrel
    go_wp2_with (go_at_call 22; ((with_reducible refine (c_has).mono ?_); rintro e w1 ⟨rfl, rfl⟩))
    go_ret
    exact ⟨rfl, rfl⟩

set_option maxRecDepth 20000 in
set_option maxHeartbeats 4000000 in
theorem nil_height (w : World) (id : Int) :
    Calls Tryd.prog 75 #[.pointer none, .int .i64 id] w fun e w' => e = .returned (.int .i64 (-1)) ∧ w = w' := by
  have c_node := nil_node w id
  go_enter Tryd.func75, Tryd.ntmps75
  go_wp2_with (go_at_call 43; ((with_reducible refine (c_node).mono ?_); rintro e w1 ⟨rfl, rfl⟩))
  go_ret
  exact ⟨rfl, rfl⟩

set_option maxRecDepth 20000 in
set_option maxHeartbeats 4000000 in
theorem nil_live (w : World) (id : Int) :
    Calls Tryd.prog 25 #[.pointer none, .int .i64 id] w fun e w' => e = .returned (.bool false) ∧ w = w' := by
  have c_has := nil_has w id
  go_enter Tryd.func25, Tryd.ntmps25
  go_wp2_with (go_at_call 22; ((with_reducible refine (c_has).mono ?_); rintro e w1 ⟨rfl, rfl⟩))
  go_ret
  exact ⟨rfl, rfl⟩

set_option maxRecDepth 20000 in
set_option maxHeartbeats 4000000 in
theorem nil_count (w : World)  :
    Calls Tryd.prog 28 #[.pointer none] w fun e w' => e = .returned (.int .i64 0) ∧ w = w' := by
  have c_is := nil_is w
  go_enter Tryd.func28, Tryd.ntmps28
  go_wp2_with (go_at_call 47; ((with_reducible refine (c_is).mono ?_); rintro e w1 ⟨rfl, rfl⟩))
  go_ret
  exact ⟨rfl, rfl⟩

set_option maxRecDepth 20000 in
set_option maxHeartbeats 4000000 in
theorem nil_copy (w : World)  :
    Calls Tryd.prog 61 #[.pointer none] w fun e w' => e = .returned (.pointer none) ∧ w = w' := by
  have c_is := nil_is w
  go_enter Tryd.func61, Tryd.ntmps61
  go_wp2_with (go_at_call 47; ((with_reducible refine (c_is).mono ?_); rintro e w1 ⟨rfl, rfl⟩))
  go_ret
  exact ⟨rfl, rfl⟩

set_option maxRecDepth 20000 in
set_option maxHeartbeats 4000000 in
theorem nil_room (w : World)  :
    Calls Tryd.prog 80 #[.pointer none] w fun e w' => e = .returned (.tuple #[.int .i64 0, .int .i64 0]) ∧ w = w' := by
  have c_is := nil_is w
  go_enter Tryd.func80, Tryd.ntmps80
  go_wp2_with (go_at_call 47; ((with_reducible refine (c_is).mono ?_); rintro e w1 ⟨rfl, rfl⟩))
  go_ret2
  exact ⟨rfl, rfl⟩

set_option maxRecDepth 20000 in
set_option maxHeartbeats 4000000 in
theorem nil_elem (w : World) (tag : Int) (v : Value) :
    Calls Tryd.prog 62 #[.pointer none, .int .i64 tag, v] w fun e w' => e = .returned (.tuple #[.int .i64 0, .int .i64 1]) ∧ w = w' := by
  have c_is := nil_is w
  go_enter Tryd.func62, Tryd.ntmps62
  go_wp2_with (go_at_call 47; ((with_reducible refine (c_is).mono ?_); rintro e w1 ⟨rfl, rfl⟩))
  go_ret2
  exact ⟨rfl, rfl⟩

set_option maxRecDepth 20000 in
set_option maxHeartbeats 4000000 in
theorem nil_text (w : World) (s : ByteArray) :
    Calls Tryd.prog 54 #[.pointer none, .string s] w fun e w' => e = .returned (.tuple #[.int .i64 0, .int .i64 1]) ∧ w = w' := by
  have c_is := nil_is w
  go_enter Tryd.func54, Tryd.ntmps54
  go_wp2_with (go_at_call 47; ((with_reducible refine (c_is).mono ?_); rintro e w1 ⟨rfl, rfl⟩))
  go_ret2
  exact ⟨rfl, rfl⟩

set_option maxRecDepth 20000 in
set_option maxHeartbeats 4000000 in
theorem nil_ask (w : World) (v : Value) :
    Calls Tryd.prog 73 #[.pointer none, v] w fun e w' => e = .returned (.int .i64 1) ∧ w = w' := by
  have c_is := nil_is w
  go_enter Tryd.func73, Tryd.ntmps73
  go_wp2_with (go_at_call 47; ((with_reducible refine (c_is).mono ?_); rintro e w1 ⟨rfl, rfl⟩))
  go_ret
  exact ⟨rfl, rfl⟩

set_option maxRecDepth 20000 in
set_option maxHeartbeats 4000000 in
theorem nil_element (w : World) (id : Int) :
    Calls Tryd.prog 64 #[.pointer none, .int .i64 id] w fun e w' => e = .returned (.tuple #[.pointer none, .int .i64 1]) ∧ Below w.heap.size w w' := by
  have HA := fun (w : World) (v : Value) => nil_ask w v
  have HB : Hid (Below w.heap.size w (w.alloc (.cells #[.int .i64 id] 3))) := Lib.hid ((Below.refl _ w).alloc (Nat.le_refl _) (.cells #[.int .i64 id] 3))
  go_enter Tryd.func64, Tryd.ntmps64
  go_wp2_with (go_at_call 73; ((with_reducible refine (HA _ _).mono ?_); rintro e w1 ⟨rfl, rfl⟩))
  go_ret2
  exact ⟨rfl, HB.out⟩

set_option maxRecDepth 20000 in
set_option maxHeartbeats 4000000 in
theorem nil_remove (w : World) (id : Int) :
    Calls Tryd.prog 56 #[.pointer none, .int .i64 id] w fun e w' => e = .returned (.int .i64 1) ∧ Below w.heap.size w w' := by
  have HA := fun (w : World) (v : Value) => nil_ask w v
  have HB : Hid (Below w.heap.size w (w.alloc (.cells #[.int .i64 id] 3))) := Lib.hid ((Below.refl _ w).alloc (Nat.le_refl _) (.cells #[.int .i64 id] 3))
  go_enter Tryd.func56, Tryd.ntmps56
  go_wp2_with (go_at_call 73; ((with_reducible refine (HA _ _).mono ?_); rintro e w1 ⟨rfl, rfl⟩))
  go_ret
  exact ⟨rfl, HB.out⟩

set_option maxRecDepth 20000 in
set_option maxHeartbeats 4000000 in
theorem nil_drop (w : World) (id : Int) :
    Calls Tryd.prog 57 #[.pointer none, .int .i64 id] w fun e w' => e = .returned (.int .i64 1) ∧ Below w.heap.size w w' := by
  have HA := fun (w : World) (v : Value) => nil_ask w v
  have HB : Hid (Below w.heap.size w (w.alloc (.cells #[.int .i64 id] 3))) := Lib.hid ((Below.refl _ w).alloc (Nat.le_refl _) (.cells #[.int .i64 id] 3))
  go_enter Tryd.func57, Tryd.ntmps57
  go_wp2_with (go_at_call 73; ((with_reducible refine (HA _ _).mono ?_); rintro e w1 ⟨rfl, rfl⟩))
  go_ret
  exact ⟨rfl, HB.out⟩

set_option maxRecDepth 20000 in
set_option maxHeartbeats 4000000 in
theorem nil_settext (w : World) (id : Int) (s : ByteArray) :
    Calls Tryd.prog 59 #[.pointer none, .int .i64 id, .string s] w fun e w' => e = .returned (.int .i64 1) ∧ Below w.heap.size w w' := by
  have HA := fun (w : World) (v : Value) => nil_ask w v
  have HB : Hid (Below w.heap.size w (w.alloc (.cells #[.int .i64 id] 3))) := Lib.hid ((Below.refl _ w).alloc (Nat.le_refl _) (.cells #[.int .i64 id] 3))
  go_enter Tryd.func59, Tryd.ntmps59
  go_wp2_with (go_at_call 73; ((with_reducible refine (HA _ _).mono ?_); rintro e w1 ⟨rfl, rfl⟩))
  go_ret
  exact ⟨rfl, HB.out⟩

set_option maxRecDepth 20000 in
set_option maxHeartbeats 4000000 in
theorem nil_insert (w : World) (a b c : Int) :
    Calls Tryd.prog 55 #[.pointer none, .int .i64 a, .int .i64 b, .int .i64 c] w fun e w' => e = .returned (.int .i64 1) ∧ Below w.heap.size w w' := by
  have HA := fun (w : World) (v : Value) => nil_ask w v
  have HB : Hid (Below w.heap.size w (w.alloc (.cells #[.int .i64 a, .int .i64 c] 3))) := Lib.hid ((Below.refl _ w).alloc (Nat.le_refl _) (.cells #[.int .i64 a, .int .i64 c] 3))
  go_enter Tryd.func55, Tryd.ntmps55
  go_wp2_with (go_at_call 73; ((with_reducible refine (HA _ _).mono ?_); rintro e w1 ⟨rfl, rfl⟩))
  go_ret
  exact ⟨rfl, HB.out⟩

set_option maxRecDepth 20000 in
set_option maxHeartbeats 4000000 in
theorem nil_setattrs (w : World) (id : Int) (v : Value) :
    Calls Tryd.prog 58 #[.pointer none, .int .i64 id, v] w fun e w' => e = .returned (.int .i64 1) ∧ Below w.heap.size w w' := by
  have c_element := nil_element w id
  go_enter Tryd.func58, Tryd.ntmps58
  go_wp2_with (go_at_call 64; ((with_reducible refine (c_element).mono ?_); rintro e w1 ⟨rfl, hb⟩))
  go_ret
  exact ⟨rfl, hb⟩

set_option maxRecDepth 20000 in
set_option maxHeartbeats 4000000 in
theorem nil_settag (w : World) (id z : Int) :
    Calls Tryd.prog 60 #[.pointer none, .int .i64 id, .int .i64 z] w fun e w' => e = .returned (.int .i64 1) ∧ Below w.heap.size w w' := by
  have c_element := nil_element w id
  go_enter Tryd.func60, Tryd.ntmps60
  go_wp2_with (go_at_call 64; ((with_reducible refine (c_element).mono ?_); rintro e w1 ⟨rfl, hb⟩))
  go_ret
  exact ⟨rfl, hb⟩

set_option maxRecDepth 20000 in
set_option maxHeartbeats 4000000 in
theorem nil_graft (w : World) (a b t : Int) (l : Value) (s : ByteArray) (k : Value) :
    Calls Tryd.prog 46 #[.pointer none, .int .i64 a, .int .i64 b, .agg #[.int .i64 t, l, .string s, k]] w fun e w' => e = .returned (.tuple #[.int .i64 0, .int .i64 1]) ∧ Below w.heap.size w w' := by
  have c_element := fun w => nil_element w a
  go_enter Tryd.func46, Tryd.ntmps46
  go_wp2_with (go_at_call 64; ((with_reducible refine (c_element _).mono ?_); rintro e w1 ⟨rfl, hb⟩))
  go_ret2
  exact ⟨rfl, ((Below.refl _ w).alloc (Nat.le_refl _) _).trans (hb.mono (by simp))⟩

end Go.Proofs.YtggjoefhopoggaaDoor
