/-
  What each method answers of a nil tree. Written by gen_nil.py.
-/
import Derived.Test.YtiodjmamghfedaaDoorUp
namespace Go.Proofs.YtiodjmamghfedaaDoor
open Go.RowKit Go.Lib

set_option maxRecDepth 20000 in
set_option maxHeartbeats 4000000 in
theorem nil_is (w : World)  :
    Calls Tryd.prog 29 #[.pointer none] w fun e w' => e = .returned (.bool false) ∧ w = w' := by
  go_enter Tryd.func29, Tryd.ntmps29
  go_wp2
  go_ret
  exact ⟨rfl, rfl⟩

set_option maxRecDepth 20000 in
set_option maxHeartbeats 4000000 in
theorem nil_node (w : World) (id : Int) :
    Calls Tryd.prog 45 #[.pointer none, .int .i64 id] w fun e w' => e = .returned (.pointer none) ∧ w = w' := by
  have c_is := nil_is w
  go_enter Tryd.func45, Tryd.ntmps45
  go_wp2_with (go_at_call 29; ((with_reducible refine (c_is).mono ?_); rintro e w1 ⟨rfl, rfl⟩))
  go_ret
  exact ⟨rfl, rfl⟩

set_option maxRecDepth 20000 in
set_option maxHeartbeats 4000000 in
theorem nil_has (w : World) (id : Int) :
    Calls Tryd.prog 14 #[.pointer none, .int .i64 id] w fun e w' => e = .returned (.bool false) ∧ w = w' := by
  have c_node := nil_node w id
  go_enter Tryd.func14, Tryd.ntmps14
  go_wp2_with (go_at_call 45; ((with_reducible refine (c_node).mono ?_); rintro e w1 ⟨rfl, rfl⟩))
  go_ret
  exact ⟨rfl, rfl⟩

set_option maxRecDepth 20000 in
set_option maxHeartbeats 4000000 in
theorem nil_tag (w : World) (id : Int) :
    Calls Tryd.prog 15 #[.pointer none, .int .i64 id] w fun e w' => e = .returned (.int .i64 (-1)) ∧ w = w' := by
  have c_node := nil_node w id
  go_enter Tryd.func15, Tryd.ntmps15
  go_wp2_with (go_at_call 45; ((with_reducible refine (c_node).mono ?_); rintro e w1 ⟨rfl, rfl⟩))
  go_ret
  exact ⟨rfl, rfl⟩

set_option maxRecDepth 20000 in
set_option maxHeartbeats 4000000 in
theorem nil_attrs (w : World) (id : Int) :
    Calls Tryd.prog 16 #[.pointer none, .int .i64 id] w fun e w' => e = .returned (.slice none 0 0) ∧ w = w' := by
  have c_node := nil_node w id
  go_enter Tryd.func16, Tryd.ntmps16
  go_wp2_with (go_at_call 45; ((with_reducible refine (c_node).mono ?_); rintro e w1 ⟨rfl, rfl⟩))
  go_ret
  exact ⟨rfl, rfl⟩

set_option maxRecDepth 20000 in
set_option maxHeartbeats 4000000 in
theorem nil_told (w : World) (id : Int) :
    Calls Tryd.prog 17 #[.pointer none, .int .i64 id] w fun e w' => e = .returned (.string ⟨#[]⟩) ∧ w = w' := by
  have c_node := nil_node w id
  go_enter Tryd.func17, Tryd.ntmps17
  go_wp2_with (go_at_call 45; ((with_reducible refine (c_node).mono ?_); rintro e w1 ⟨rfl, rfl⟩))
  go_ret
  exact ⟨rfl, rfl⟩

set_option maxRecDepth 20000 in
set_option maxHeartbeats 4000000 in
theorem nil_kids (w : World) (id : Int) :
    Calls Tryd.prog 18 #[.pointer none, .int .i64 id] w fun e w' => e = .returned (.slice none 0 0) ∧ w = w' := by
  have c_node := nil_node w id
  go_enter Tryd.func18, Tryd.ntmps18
  go_wp2_with (go_at_call 45; ((with_reducible refine (c_node).mono ?_); rintro e w1 ⟨rfl, rfl⟩))
  go_ret
  exact ⟨rfl, rfl⟩

set_option maxRecDepth 20000 in
set_option maxHeartbeats 4000000 in
theorem nil_parent (w : World) (id : Int) :
    Calls Tryd.prog 19 #[.pointer none, .int .i64 id] w fun e w' => e = .returned (.int .i64 (-1)) ∧ w = w' := by
  have c_node := nil_node w id
  go_enter Tryd.func19, Tryd.ntmps19
  go_wp2_with (go_at_call 45; ((with_reducible refine (c_node).mono ?_); rintro e w1 ⟨rfl, rfl⟩))
  go_ret
  exact ⟨rfl, rfl⟩

set_option maxRecDepth 20000 in
set_option maxHeartbeats 4000000 in
theorem nil_index (w : World) (id : Int) :
    Calls Tryd.prog 20 #[.pointer none, .int .i64 id] w fun e w' => e = .returned (.int .i64 (-1)) ∧ w = w' := by
  have c_parent := nil_parent w id
  have c_node := nil_node w
  go_enter Tryd.func20, Tryd.ntmps20
  go_wp2_with (first | (go_at_call 19; ((with_reducible refine (c_parent).mono ?_); rintro e w1 ⟨rfl, rfl⟩)) | (go_at_call 45; ((with_reducible refine (c_node _).mono ?_); rintro e w1 ⟨rfl, rfl⟩)))
  go_ret
  exact ⟨rfl, rfl⟩

set_option maxRecDepth 20000 in
set_option maxHeartbeats 4000000 in
theorem nil_depth (w : World) (id : Int) :
    Calls Tryd.prog 21 #[.pointer none, .int .i64 id] w fun e w' => e = .returned (.int .i64 (-1)) ∧ w = w' := by
  have c_has := nil_has w id
  go_enter Tryd.func21, Tryd.ntmps21
  go_wp2
  go_loop [1, 5] (fun z d => z = .int .i64 id ∧ d = .int .i64 (-1)) (fun _ _ => 0)
  case atStart => exact ⟨rfl, rfl⟩
  case round =>
    obtain ⟨rfl, rfl⟩ := hrel
    go_wp2_with (go_at_call 14; ((with_reducible refine (c_has).mono ?_); rintro e w1 ⟨rfl, rfl⟩))
    go_ret
    exact ⟨rfl, rfl⟩

set_option maxRecDepth 20000 in
set_option maxHeartbeats 4000000 in
theorem nil_height (w : World) (id : Int) :
    Calls Tryd.prog 22 #[.pointer none, .int .i64 id] w fun e w' => e = .returned (.int .i64 (-1)) ∧ w = w' := by
  have c_node := nil_node w id
  go_enter Tryd.func22, Tryd.ntmps22
  go_wp2_with (go_at_call 45; ((with_reducible refine (c_node).mono ?_); rintro e w1 ⟨rfl, rfl⟩))
  go_ret
  exact ⟨rfl, rfl⟩

set_option maxRecDepth 20000 in
set_option maxHeartbeats 4000000 in
theorem nil_live (w : World) (id : Int) :
    Calls Tryd.prog 23 #[.pointer none, .int .i64 id] w fun e w' => e = .returned (.bool false) ∧ w = w' := by
  have c_has := nil_has w id
  go_enter Tryd.func23, Tryd.ntmps23
  go_wp2_with (go_at_call 14; ((with_reducible refine (c_has).mono ?_); rintro e w1 ⟨rfl, rfl⟩))
  go_ret
  exact ⟨rfl, rfl⟩

set_option maxRecDepth 20000 in
set_option maxHeartbeats 4000000 in
theorem nil_count (w : World)  :
    Calls Tryd.prog 24 #[.pointer none] w fun e w' => e = .returned (.int .i64 0) ∧ w = w' := by
  have c_is := nil_is w
  go_enter Tryd.func24, Tryd.ntmps24
  go_wp2_with (go_at_call 29; ((with_reducible refine (c_is).mono ?_); rintro e w1 ⟨rfl, rfl⟩))
  go_ret
  exact ⟨rfl, rfl⟩

set_option maxRecDepth 20000 in
set_option maxHeartbeats 4000000 in
theorem nil_copy (w : World)  :
    Calls Tryd.prog 25 #[.pointer none] w fun e w' => e = .returned (.pointer none) ∧ w = w' := by
  have c_is := nil_is w
  go_enter Tryd.func25, Tryd.ntmps25
  go_wp2_with (go_at_call 29; ((with_reducible refine (c_is).mono ?_); rintro e w1 ⟨rfl, rfl⟩))
  go_ret
  exact ⟨rfl, rfl⟩

set_option maxRecDepth 20000 in
set_option maxHeartbeats 4000000 in
theorem nil_room (w : World)  :
    Calls Tryd.prog 7 #[.pointer none] w fun e w' => e = .returned (.tuple #[.int .i64 0, .int .i64 0]) ∧ w = w' := by
  have c_is := nil_is w
  go_enter Tryd.func7, Tryd.ntmps7
  go_wp2_with (go_at_call 29; ((with_reducible refine (c_is).mono ?_); rintro e w1 ⟨rfl, rfl⟩))
  go_ret2
  exact ⟨rfl, rfl⟩

set_option maxRecDepth 20000 in
set_option maxHeartbeats 4000000 in
theorem nil_plain (w : World) (id : Int) :
    Calls Tryd.prog 27 #[.pointer none, .int .i64 id] w fun e w' => e = .returned (.agg #[.int .i64 0, .slice none 0 0, .string ⟨#[]⟩, .slice none 0 0]) ∧ Below w.heap.size w w' := by
  have c_node := fun w => nil_node w id
  go_enter Tryd.func27, Tryd.ntmps27
  go_wp2_with (go_at_call 45; ((with_reducible refine (c_node _).mono ?_); rintro e w1 ⟨rfl, rfl⟩))
  refine bodyPost_ret (results_cell_row rfl _ _ w.heap.size 31 _ _ _ rfl (heap_alloc_new w _) Tryd.underlying31 rfl (by kernel_rfl)) rfl ?_
  exact ⟨rfl, (Below.refl _ w).alloc (Nat.le_refl _) _⟩

set_option maxRecDepth 20000 in
set_option maxHeartbeats 4000000 in
theorem nil_elem (w : World) (tag : Int) (v : Value) :
    Calls Tryd.prog 4 #[.pointer none, .int .i64 tag, v] w fun e w' => e = .returned (.tuple #[.int .i64 0, .int .i64 1]) ∧ w = w' := by
  have c_is := nil_is w
  go_enter Tryd.func4, Tryd.ntmps4
  go_wp2_with (go_at_call 29; ((with_reducible refine (c_is).mono ?_); rintro e w1 ⟨rfl, rfl⟩))
  go_ret2
  exact ⟨rfl, rfl⟩

set_option maxRecDepth 20000 in
set_option maxHeartbeats 4000000 in
theorem nil_text (w : World) (s : ByteArray) :
    Calls Tryd.prog 5 #[.pointer none, .string s] w fun e w' => e = .returned (.tuple #[.int .i64 0, .int .i64 1]) ∧ w = w' := by
  have c_is := nil_is w
  go_enter Tryd.func5, Tryd.ntmps5
  go_wp2_with (go_at_call 29; ((with_reducible refine (c_is).mono ?_); rintro e w1 ⟨rfl, rfl⟩))
  go_ret2
  exact ⟨rfl, rfl⟩

set_option maxRecDepth 20000 in
set_option maxHeartbeats 4000000 in
theorem nil_ask (w : World) (v : Value) :
    Calls Tryd.prog 40 #[.pointer none, v] w fun e w' => e = .returned (.int .i64 1) ∧ w = w' := by
  have c_is := nil_is w
  go_enter Tryd.func40, Tryd.ntmps40
  go_wp2_with (go_at_call 29; ((with_reducible refine (c_is).mono ?_); rintro e w1 ⟨rfl, rfl⟩))
  go_ret
  exact ⟨rfl, rfl⟩

set_option maxRecDepth 20000 in
set_option maxHeartbeats 4000000 in
theorem nil_element (w : World) (id : Int) :
    Calls Tryd.prog 34 #[.pointer none, .int .i64 id] w fun e w' => e = .returned (.tuple #[.pointer none, .int .i64 1]) ∧ Below w.heap.size w w' := by
  have HA := fun (w : World) (v : Value) => nil_ask w v
  have HB : Hid (Below w.heap.size w (w.alloc (.cells #[.int .i64 id] 3))) := Lib.hid ((Below.refl _ w).alloc (Nat.le_refl _) (.cells #[.int .i64 id] 3))
  go_enter Tryd.func34, Tryd.ntmps34
  go_wp2_with (go_at_call 40; ((with_reducible refine (HA _ _).mono ?_); rintro e w1 ⟨rfl, rfl⟩))
  go_ret2
  exact ⟨rfl, HB.out⟩

set_option maxRecDepth 20000 in
set_option maxHeartbeats 4000000 in
theorem nil_remove (w : World) (id : Int) :
    Calls Tryd.prog 9 #[.pointer none, .int .i64 id] w fun e w' => e = .returned (.int .i64 1) ∧ Below w.heap.size w w' := by
  have HA := fun (w : World) (v : Value) => nil_ask w v
  have HB : Hid (Below w.heap.size w (w.alloc (.cells #[.int .i64 id] 3))) := Lib.hid ((Below.refl _ w).alloc (Nat.le_refl _) (.cells #[.int .i64 id] 3))
  go_enter Tryd.func9, Tryd.ntmps9
  go_wp2_with (go_at_call 40; ((with_reducible refine (HA _ _).mono ?_); rintro e w1 ⟨rfl, rfl⟩))
  go_ret
  exact ⟨rfl, HB.out⟩

set_option maxRecDepth 20000 in
set_option maxHeartbeats 4000000 in
theorem nil_drop (w : World) (id : Int) :
    Calls Tryd.prog 10 #[.pointer none, .int .i64 id] w fun e w' => e = .returned (.int .i64 1) ∧ Below w.heap.size w w' := by
  have HA := fun (w : World) (v : Value) => nil_ask w v
  have HB : Hid (Below w.heap.size w (w.alloc (.cells #[.int .i64 id] 3))) := Lib.hid ((Below.refl _ w).alloc (Nat.le_refl _) (.cells #[.int .i64 id] 3))
  go_enter Tryd.func10, Tryd.ntmps10
  go_wp2_with (go_at_call 40; ((with_reducible refine (HA _ _).mono ?_); rintro e w1 ⟨rfl, rfl⟩))
  go_ret
  exact ⟨rfl, HB.out⟩

set_option maxRecDepth 20000 in
set_option maxHeartbeats 4000000 in
theorem nil_settext (w : World) (id : Int) (s : ByteArray) :
    Calls Tryd.prog 12 #[.pointer none, .int .i64 id, .string s] w fun e w' => e = .returned (.int .i64 1) ∧ Below w.heap.size w w' := by
  have HA := fun (w : World) (v : Value) => nil_ask w v
  have HB : Hid (Below w.heap.size w (w.alloc (.cells #[.int .i64 id] 3))) := Lib.hid ((Below.refl _ w).alloc (Nat.le_refl _) (.cells #[.int .i64 id] 3))
  go_enter Tryd.func12, Tryd.ntmps12
  go_wp2_with (go_at_call 40; ((with_reducible refine (HA _ _).mono ?_); rintro e w1 ⟨rfl, rfl⟩))
  go_ret
  exact ⟨rfl, HB.out⟩

set_option maxRecDepth 20000 in
set_option maxHeartbeats 4000000 in
theorem nil_insert (w : World) (a b c : Int) :
    Calls Tryd.prog 8 #[.pointer none, .int .i64 a, .int .i64 b, .int .i64 c] w fun e w' => e = .returned (.int .i64 1) ∧ Below w.heap.size w w' := by
  have HA := fun (w : World) (v : Value) => nil_ask w v
  have HB : Hid (Below w.heap.size w (w.alloc (.cells #[.int .i64 a, .int .i64 c] 3))) := Lib.hid ((Below.refl _ w).alloc (Nat.le_refl _) (.cells #[.int .i64 a, .int .i64 c] 3))
  go_enter Tryd.func8, Tryd.ntmps8
  go_wp2_with (go_at_call 40; ((with_reducible refine (HA _ _).mono ?_); rintro e w1 ⟨rfl, rfl⟩))
  go_ret
  exact ⟨rfl, HB.out⟩

set_option maxRecDepth 20000 in
set_option maxHeartbeats 4000000 in
theorem nil_setattrs (w : World) (id : Int) (v : Value) :
    Calls Tryd.prog 11 #[.pointer none, .int .i64 id, v] w fun e w' => e = .returned (.int .i64 1) ∧ Below w.heap.size w w' := by
  have c_element := nil_element w id
  go_enter Tryd.func11, Tryd.ntmps11
  go_wp2_with (go_at_call 34; ((with_reducible refine (c_element).mono ?_); rintro e w1 ⟨rfl, hb⟩))
  go_ret
  exact ⟨rfl, hb⟩

set_option maxRecDepth 20000 in
set_option maxHeartbeats 4000000 in
theorem nil_settag (w : World) (id z : Int) :
    Calls Tryd.prog 13 #[.pointer none, .int .i64 id, .int .i64 z] w fun e w' => e = .returned (.int .i64 1) ∧ Below w.heap.size w w' := by
  have c_element := nil_element w id
  go_enter Tryd.func13, Tryd.ntmps13
  go_wp2_with (go_at_call 34; ((with_reducible refine (c_element).mono ?_); rintro e w1 ⟨rfl, hb⟩))
  go_ret
  exact ⟨rfl, hb⟩

set_option maxRecDepth 20000 in
set_option maxHeartbeats 4000000 in
theorem nil_graft (w : World) (a b t : Int) (l : Value) (s : ByteArray) (k : Value) :
    Calls Tryd.prog 6 #[.pointer none, .int .i64 a, .int .i64 b, .agg #[.int .i64 t, l, .string s, k]] w fun e w' => e = .returned (.tuple #[.int .i64 0, .int .i64 1]) ∧ Below w.heap.size w w' := by
  have c_element := fun w => nil_element w a
  go_enter Tryd.func6, Tryd.ntmps6
  go_wp2_with (go_at_call 34; ((with_reducible refine (c_element _).mono ?_); rintro e w1 ⟨rfl, hb⟩))
  go_ret2
  exact ⟨rfl, ((Below.refl _ w).alloc (Nat.le_refl _) _).trans (hb.mono (by simp))⟩

end Go.Proofs.YtiodjmamghfedaaDoor
