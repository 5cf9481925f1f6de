import Derived.Test.YtccfpbnkeaoicabDoorIB
import Derived.Test.YtccfpbnkeaoicabDoorNB
/-! The law IdentNames. -/
namespace Go.Proofs.YtccfpbnkeaoicabDoor
open Go Go.RowKit
set_option maxHeartbeats 4000000 in
theorem names_true (s a : ByteArray) (hs0 : s.size ≤ reachBytes) (ha0 : a.size ≤ reachBytes) (w : World) (hR : RoundsAt w) : Calls Tryd.prog 3 #[.string s, .string a] w fun e w' => e = .returned (.bool true) ∧ Below w.heap.size w w' := by
  have hs : s.size ≤ 140737488355328 := by unfold reachBytes at hs0; omega
  have ha : a.size ≤ 140737488355328 := by unfold reachBytes at ha0; omega
  clear hs0 ha0
  have c1 := hid_of (fun w => part_any s (by omega) w)
  have c2 := hid_of (fun w => rpart_any s (by omega) w)
  have c3 := hid_of (fun w => id_any s (by omega) w)
  have c4 := hid_of (fun w => rid_any s (by omega) w)
  have c5 := hid_of (fun w => name_any s (by omega) w)
  have c6 := hid_of (fun w => rname_any s (by omega) w)
  have c7 := hid_of (fun w => join_any a s ha hs w)
  have e1 : ((partIn s).toList == (partIn s).toList) = true := by simp
  have e2 : ((partId s).toList == (partId s).toList) = true := by simp
  have hj : Hid (joinT a s = a ++ ⟨#[47]⟩ ++ s) := rfl
  generalize partIn s = A at *
  generalize partId s = B at *
  generalize partOk s = C at *
  generalize idOk s = D at *
  generalize nameOk s = E at *
  replace hR := hid_of hR
  go_enter Tryd.func3, Tryd.ntmps3
  go_wp2_with fail
  refine (c1.out _).mono ?_
  rintro e w1 ⟨rfl, q1, rfl⟩
  have HB := below_drewN (Below.refl w.heap.size w) q1
  generalize w.drewN q1 = w1 at *
  clear c1 q1
  go_wp2_with fail
  refine (c2.out _).mono ?_
  rintro e w2 ⟨rfl, q2, rfl⟩
  replace HB := below_drewN HB q2
  generalize w1.drewN q2 = w2 at *
  clear c2 q2
  go_wp2_with fail
  refine (c3.out _).mono ?_
  rintro e w' ⟨rfl, rfl⟩
  go_wp2_with fail
  refine (c4.out _).mono ?_
  rintro e w' ⟨rfl, rfl⟩
  go_wp2_with fail
  refine (c5.out _).mono ?_
  rintro e w' ⟨rfl, rfl⟩
  go_wp2_with fail
  refine (c6.out _).mono ?_
  rintro e w' ⟨rfl, rfl⟩
  clear c3 c4 c5 c6
  have hl := hid_of (live_true w' (hR.out.keep HB))
  go_wp2_with fail
  refine (c7.out _).mono ?_
  rw [hj.out]
  rintro e w' ⟨rfl, rfl⟩
  have e3 : ((a ++ ⟨#[47]⟩ ++ s).toList == (a ++ ⟨#[47]⟩ ++ s).toList) = true := by simp
  go_wp2_with fail
  refine hl.out.mono ?_
  rintro e w3 ⟨rfl, hb3⟩
  go_wp2_with fail
  go_ret
  exact ⟨rfl, HB.trans (hb3.mono HB.size)⟩
end Go.Proofs.YtccfpbnkeaoicabDoor
