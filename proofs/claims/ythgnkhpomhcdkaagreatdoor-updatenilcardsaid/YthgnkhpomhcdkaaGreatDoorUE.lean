import Derived.Test.YthgnkhpomhcdkaaGreatDoorUB
import Derived.Test.YthgnkhpomhcdkaaGreatDoorUD
/-! update: makers of changes. -/
namespace Go.Proofs.YthgnkhpomhcdkaaGreatDoor
open Go Go.RowKit

theorem object_v (s : ByteArray) (t : Tr) (u : V5) (w : World) (hV : VRep w t u.cs) :
    Calls Tryz.prog 13 #[.string s, u.v] w fun e w' => Below w.heap.size w w' ∧ ∃ bn bi, e = .returned (objU bn bi).v ∧ VRep w' (objT s t) (objU bn bi).cs :=
  (object_any s u w).mono fun _ _ ⟨hb, bn, bi, he, hn, hi, _⟩ => ⟨hb, bn, bi, he, vrep_obj hn hi (VRep.keep hb _ _ hV)⟩
theorem uobject_v (s : ByteArray) (t : Tr) (u : V5) (w : World) (hV : VRep w t u.cs) :
    Calls Tryz.prog 136 #[.string s, u.v] w fun e w' => Below w.heap.size w w' ∧ ∃ bn bi, e = .returned (objU bn bi).v ∧ VRep w' (objT s t) (objU bn bi).cs :=
  (uobject_any s u w).mono fun _ _ ⟨hb, bn, bi, he, hn, hi, _⟩ => ⟨hb, bn, bi, he, vrep_obj hn hi (VRep.keep hb _ _ hV)⟩
set_option maxHeartbeats 1000000 in
theorem numberOf_inc (w : World) : Calls Tryz.prog 105 #[.string ⟨#[36, 105, 110, 99]⟩] w fun e w' => e = .returned (.tuple #[.int .i64 3, .bool true]) ∧ w' = w := by
  go_enter Tryz.func105, Tryz.ntmps105
  go_wp2_with fail
  go_ret2
  exact ⟨rfl, rfl⟩
set_option maxHeartbeats 1000000 in
theorem numberOf_push (w : World) : Calls Tryz.prog 105 #[.string ⟨#[36, 112, 117, 115, 104]⟩] w fun e w' => e = .returned (.tuple #[.int .i64 8, .bool true]) ∧ w' = w := by
  go_enter Tryz.func105, Tryz.ntmps105
  go_wp2_with fail
  go_ret2
  exact ⟨rfl, rfl⟩
set_option maxHeartbeats 1000000 in
theorem begins_not (u : V5) (hk : u.k ≠ 6) (w : World) : Calls Tryz.prog 86 #[u.v] w fun e w' => e = .returned (.bool false) ∧ Below w.heap.size w w' := by
  have hm := hasMembers_any u
  have h6 : (u.k == 6) = false := by simpa using hk
  rw [h6, Bool.false_and] at hm
  replace h6 := hid_of h6
  unfold V5.v at *
  go_enter Tryz.func86, Tryz.ntmps86
  go_wp2_with fail
  refine (hm _).mono ?_
  rintro e w1 ⟨rfl, hb⟩
  go_wp2_with fail
  go_ret
  exact ⟨rfl, ((Below.refl _ w).alloc (Nat.le_refl _) _).trans (hb.mono (by simp))⟩
set_option maxHeartbeats 1000000 in
theorem isPushed_plain (u : V5) (hk : u.k ≠ 6) (w : World) : Calls Tryz.prog 46 #[u.v] w fun e w' => e = .returned (.bool true) ∧ Below w.heap.size w w' := by
  have hm := begins_not u hk
  unfold V5.v at *
  go_enter Tryz.func46, Tryz.ntmps46
  go_wp2_with fail
  refine (hm _).mono ?_
  rintro e w1 ⟨rfl, hb⟩
  go_wp2_with fail
  go_ret
  exact ⟨rfl, ((Below.refl _ w).alloc (Nat.le_refl _) _).trans (hb.mono (by simp))⟩
theorem sum_any (a b : Int) (h0 : -9223372036854775808 ≤ a + b) (h1 : a + b ≤ 9223372036854775807) (w : World) : Calls Tryz.prog 77 #[.int .i64 a, .int .i64 b] w fun e w' => e = .returned (.tuple #[.int .i64 (a + b), .bool true]) ∧ w' = w := by
  go_enter Tryz.func77, Tryz.ntmps77
  go_wp2_with fail
  go_ret2
  refine ⟨?_, rfl⟩
  by_cases hb : b > 0 <;> simp [hb] <;> omega
theorem reckon_any (x : Int) (n : Nat) (caps : Array Value) (w : World) : Calls Tryz.prog 75 #[.int .i64 x, .func (.func n) #[] caps] w fun e w' => e = .returned (.func (.func 122) #[] #[.pointer (some ⟨w.heap.size, 0, none⟩), .pointer (some ⟨w.heap.size + 1, 0, none⟩)]) ∧ w' = (w.alloc (.cells #[.int .i64 x] 2)).alloc (.cells #[.func (.func n) #[] caps] 123) := by
  go_enter Tryz.func75, Tryz.ntmps75
  go_wp2_with fail
  go_ret
  exact ⟨by simp, rfl⟩
theorem relist_any (n : Nat) (caps : Array Value) (w : World) : Calls Tryz.prog 98 #[.func (.func n) #[] caps] w fun e w' => e = .returned (.func (.func 143) #[] #[.pointer (some ⟨w.heap.size, 0, none⟩)]) ∧ w' = w.alloc (.cells #[.func (.func n) #[] caps] 129) := by
  go_enter Tryz.func98, Tryz.ntmps98
  go_wp2_with fail
  go_ret
  exact ⟨rfl, rfl⟩
theorem failed_ok (w : World) : Calls Tryz.prog 62 #[.int .i64 0] w fun e w' => e = .returned .nilIface ∧ w' = w := by
  go_enter Tryz.func62, Tryz.ntmps62
  go_wp2_with fail
  go_ret
  exact ⟨rfl, rfl⟩
theorem failed_no (z : Int) (h : z ≠ 0) (w : World) : Calls Tryz.prog 62 #[.int .i64 z] w fun e w' => e = .returned (.iface 69 (.int .i64 z)) ∧ w' = w := by
  have h0 : (z == 0) = false := by simpa using h
  go_enter Tryz.func62, Tryz.ntmps62
  go_wp2_with fail
  go_ret
  exact ⟨rfl, rfl⟩
end Go.Proofs.YthgnkhpomhcdkaaGreatDoor
