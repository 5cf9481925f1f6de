import Derived.Test.YtnccaidlcaeeaaaGreatDoorZ1
import Derived.Test.YtnccaidlcaeeaaaGreatDoorW4
namespace Go.Proofs.YtnccaidlcaeeaaaGreatDoor
open Go Go.RowKit
theorem esc45_0 (w : World) : Calls Tryz.prog 73 #[.int .i32 0] w fun e w' => e = .returned (.string ⟨(escB 0).toArray⟩) ∧ ∃ n, w' = w.drewN n := by
  have b1 : bits .and .i32 0 15 = 0 := by decide
  have a1 : Utf8.encode ((({ data := #[48, 49, 50, 51, 52, 53, 54, 55, 56, 57, 97, 98, 99, 100, 101, 102] } : ByteArray)[0]'(by decide)).toNat : Int) = { data := #[48] } := by decide
  have a2 : Utf8.encode ((({ data := #[48, 49, 50, 51, 52, 53, 54, 55, 56, 57, 97, 98, 99, 100, 101, 102] } : ByteArray)[0]'(by decide)).toNat : Int) = { data := #[48] } := by decide
  have g1 : ¬ 9223372036854775807 < ({ data := #[92, 117, 48, 48] } : ByteArray).size + ({ data := #[48] } : ByteArray).size := by decide
  have g2 : ¬ 9223372036854775807 < (({ data := #[92, 117, 48, 48] } : ByteArray) ++ ({ data := #[48] } : ByteArray)).size + ({ data := #[48] } : ByteArray).size := by decide
  go_enter Tryz.func73, Tryz.ntmps73
  go_wp2
  go_quiet (fail)
  go_wp2
  go_ret
  exact ⟨rfl, _, rfl⟩
theorem esc45_1 (w : World) : Calls Tryz.prog 73 #[.int .i32 1] w fun e w' => e = .returned (.string ⟨(escB 1).toArray⟩) ∧ ∃ n, w' = w.drewN n := by
  have b1 : bits .and .i32 1 15 = 1 := by decide
  have a1 : Utf8.encode ((({ data := #[48, 49, 50, 51, 52, 53, 54, 55, 56, 57, 97, 98, 99, 100, 101, 102] } : ByteArray)[0]'(by decide)).toNat : Int) = { data := #[48] } := by decide
  have a2 : Utf8.encode ((({ data := #[48, 49, 50, 51, 52, 53, 54, 55, 56, 57, 97, 98, 99, 100, 101, 102] } : ByteArray)[1]'(by decide)).toNat : Int) = { data := #[49] } := by decide
  have g1 : ¬ 9223372036854775807 < ({ data := #[92, 117, 48, 48] } : ByteArray).size + ({ data := #[48] } : ByteArray).size := by decide
  have g2 : ¬ 9223372036854775807 < (({ data := #[92, 117, 48, 48] } : ByteArray) ++ ({ data := #[48] } : ByteArray)).size + ({ data := #[49] } : ByteArray).size := by decide
  go_enter Tryz.func73, Tryz.ntmps73
  go_wp2
  go_quiet (fail)
  go_wp2
  go_ret
  exact ⟨rfl, _, rfl⟩
theorem esc45_2 (w : World) : Calls Tryz.prog 73 #[.int .i32 2] w fun e w' => e = .returned (.string ⟨(escB 2).toArray⟩) ∧ ∃ n, w' = w.drewN n := by
  have b1 : bits .and .i32 2 15 = 2 := by decide
  have a1 : Utf8.encode ((({ data := #[48, 49, 50, 51, 52, 53, 54, 55, 56, 57, 97, 98, 99, 100, 101, 102] } : ByteArray)[0]'(by decide)).toNat : Int) = { data := #[48] } := by decide
  have a2 : Utf8.encode ((({ data := #[48, 49, 50, 51, 52, 53, 54, 55, 56, 57, 97, 98, 99, 100, 101, 102] } : ByteArray)[2]'(by decide)).toNat : Int) = { data := #[50] } := by decide
  have g1 : ¬ 9223372036854775807 < ({ data := #[92, 117, 48, 48] } : ByteArray).size + ({ data := #[48] } : ByteArray).size := by decide
  have g2 : ¬ 9223372036854775807 < (({ data := #[92, 117, 48, 48] } : ByteArray) ++ ({ data := #[48] } : ByteArray)).size + ({ data := #[50] } : ByteArray).size := by decide
  go_enter Tryz.func73, Tryz.ntmps73
  go_wp2
  go_quiet (fail)
  go_wp2
  go_ret
  exact ⟨rfl, _, rfl⟩
theorem esc45_3 (w : World) : Calls Tryz.prog 73 #[.int .i32 3] w fun e w' => e = .returned (.string ⟨(escB 3).toArray⟩) ∧ ∃ n, w' = w.drewN n := by
  have b1 : bits .and .i32 3 15 = 3 := by decide
  have a1 : Utf8.encode ((({ data := #[48, 49, 50, 51, 52, 53, 54, 55, 56, 57, 97, 98, 99, 100, 101, 102] } : ByteArray)[0]'(by decide)).toNat : Int) = { data := #[48] } := by decide
  have a2 : Utf8.encode ((({ data := #[48, 49, 50, 51, 52, 53, 54, 55, 56, 57, 97, 98, 99, 100, 101, 102] } : ByteArray)[3]'(by decide)).toNat : Int) = { data := #[51] } := by decide
  have g1 : ¬ 9223372036854775807 < ({ data := #[92, 117, 48, 48] } : ByteArray).size + ({ data := #[48] } : ByteArray).size := by decide
  have g2 : ¬ 9223372036854775807 < (({ data := #[92, 117, 48, 48] } : ByteArray) ++ ({ data := #[48] } : ByteArray)).size + ({ data := #[51] } : ByteArray).size := by decide
  go_enter Tryz.func73, Tryz.ntmps73
  go_wp2
  go_quiet (fail)
  go_wp2
  go_ret
  exact ⟨rfl, _, rfl⟩
theorem esc45_4 (w : World) : Calls Tryz.prog 73 #[.int .i32 4] w fun e w' => e = .returned (.string ⟨(escB 4).toArray⟩) ∧ ∃ n, w' = w.drewN n := by
  have b1 : bits .and .i32 4 15 = 4 := by decide
  have a1 : Utf8.encode ((({ data := #[48, 49, 50, 51, 52, 53, 54, 55, 56, 57, 97, 98, 99, 100, 101, 102] } : ByteArray)[0]'(by decide)).toNat : Int) = { data := #[48] } := by decide
  have a2 : Utf8.encode ((({ data := #[48, 49, 50, 51, 52, 53, 54, 55, 56, 57, 97, 98, 99, 100, 101, 102] } : ByteArray)[4]'(by decide)).toNat : Int) = { data := #[52] } := by decide
  have g1 : ¬ 9223372036854775807 < ({ data := #[92, 117, 48, 48] } : ByteArray).size + ({ data := #[48] } : ByteArray).size := by decide
  have g2 : ¬ 9223372036854775807 < (({ data := #[92, 117, 48, 48] } : ByteArray) ++ ({ data := #[48] } : ByteArray)).size + ({ data := #[52] } : ByteArray).size := by decide
  go_enter Tryz.func73, Tryz.ntmps73
  go_wp2
  go_quiet (fail)
  go_wp2
  go_ret
  exact ⟨rfl, _, rfl⟩
theorem esc45_5 (w : World) : Calls Tryz.prog 73 #[.int .i32 5] w fun e w' => e = .returned (.string ⟨(escB 5).toArray⟩) ∧ ∃ n, w' = w.drewN n := by
  have b1 : bits .and .i32 5 15 = 5 := by decide
  have a1 : Utf8.encode ((({ data := #[48, 49, 50, 51, 52, 53, 54, 55, 56, 57, 97, 98, 99, 100, 101, 102] } : ByteArray)[0]'(by decide)).toNat : Int) = { data := #[48] } := by decide
  have a2 : Utf8.encode ((({ data := #[48, 49, 50, 51, 52, 53, 54, 55, 56, 57, 97, 98, 99, 100, 101, 102] } : ByteArray)[5]'(by decide)).toNat : Int) = { data := #[53] } := by decide
  have g1 : ¬ 9223372036854775807 < ({ data := #[92, 117, 48, 48] } : ByteArray).size + ({ data := #[48] } : ByteArray).size := by decide
  have g2 : ¬ 9223372036854775807 < (({ data := #[92, 117, 48, 48] } : ByteArray) ++ ({ data := #[48] } : ByteArray)).size + ({ data := #[53] } : ByteArray).size := by decide
  go_enter Tryz.func73, Tryz.ntmps73
  go_wp2
  go_quiet (fail)
  go_wp2
  go_ret
  exact ⟨rfl, _, rfl⟩
theorem esc45_6 (w : World) : Calls Tryz.prog 73 #[.int .i32 6] w fun e w' => e = .returned (.string ⟨(escB 6).toArray⟩) ∧ ∃ n, w' = w.drewN n := by
  have b1 : bits .and .i32 6 15 = 6 := by decide
  have a1 : Utf8.encode ((({ data := #[48, 49, 50, 51, 52, 53, 54, 55, 56, 57, 97, 98, 99, 100, 101, 102] } : ByteArray)[0]'(by decide)).toNat : Int) = { data := #[48] } := by decide
  have a2 : Utf8.encode ((({ data := #[48, 49, 50, 51, 52, 53, 54, 55, 56, 57, 97, 98, 99, 100, 101, 102] } : ByteArray)[6]'(by decide)).toNat : Int) = { data := #[54] } := by decide
  have g1 : ¬ 9223372036854775807 < ({ data := #[92, 117, 48, 48] } : ByteArray).size + ({ data := #[48] } : ByteArray).size := by decide
  have g2 : ¬ 9223372036854775807 < (({ data := #[92, 117, 48, 48] } : ByteArray) ++ ({ data := #[48] } : ByteArray)).size + ({ data := #[54] } : ByteArray).size := by decide
  go_enter Tryz.func73, Tryz.ntmps73
  go_wp2
  go_quiet (fail)
  go_wp2
  go_ret
  exact ⟨rfl, _, rfl⟩
theorem esc45_7 (w : World) : Calls Tryz.prog 73 #[.int .i32 7] w fun e w' => e = .returned (.string ⟨(escB 7).toArray⟩) ∧ ∃ n, w' = w.drewN n := by
  have b1 : bits .and .i32 7 15 = 7 := by decide
  have a1 : Utf8.encode ((({ data := #[48, 49, 50, 51, 52, 53, 54, 55, 56, 57, 97, 98, 99, 100, 101, 102] } : ByteArray)[0]'(by decide)).toNat : Int) = { data := #[48] } := by decide
  have a2 : Utf8.encode ((({ data := #[48, 49, 50, 51, 52, 53, 54, 55, 56, 57, 97, 98, 99, 100, 101, 102] } : ByteArray)[7]'(by decide)).toNat : Int) = { data := #[55] } := by decide
  have g1 : ¬ 9223372036854775807 < ({ data := #[92, 117, 48, 48] } : ByteArray).size + ({ data := #[48] } : ByteArray).size := by decide
  have g2 : ¬ 9223372036854775807 < (({ data := #[92, 117, 48, 48] } : ByteArray) ++ ({ data := #[48] } : ByteArray)).size + ({ data := #[55] } : ByteArray).size := by decide
  go_enter Tryz.func73, Tryz.ntmps73
  go_wp2
  go_quiet (fail)
  go_wp2
  go_ret
  exact ⟨rfl, _, rfl⟩
theorem esc45_8 (w : World) : Calls Tryz.prog 73 #[.int .i32 8] w fun e w' => e = .returned (.string ⟨(escB 8).toArray⟩) ∧ ∃ n, w' = w.drewN n := by
  go_enter Tryz.func73, Tryz.ntmps73
  go_wp2
  go_ret
  exact ⟨rfl, 0, rfl⟩
theorem esc45_9 (w : World) : Calls Tryz.prog 73 #[.int .i32 9] w fun e w' => e = .returned (.string ⟨(escB 9).toArray⟩) ∧ ∃ n, w' = w.drewN n := by
  go_enter Tryz.func73, Tryz.ntmps73
  go_wp2
  go_ret
  exact ⟨rfl, 0, rfl⟩
theorem esc45_10 (w : World) : Calls Tryz.prog 73 #[.int .i32 10] w fun e w' => e = .returned (.string ⟨(escB 10).toArray⟩) ∧ ∃ n, w' = w.drewN n := by
  go_enter Tryz.func73, Tryz.ntmps73
  go_wp2
  go_ret
  exact ⟨rfl, 0, rfl⟩
theorem esc45_11 (w : World) : Calls Tryz.prog 73 #[.int .i32 11] w fun e w' => e = .returned (.string ⟨(escB 11).toArray⟩) ∧ ∃ n, w' = w.drewN n := by
  have b1 : bits .and .i32 11 15 = 11 := by decide
  have a1 : Utf8.encode ((({ data := #[48, 49, 50, 51, 52, 53, 54, 55, 56, 57, 97, 98, 99, 100, 101, 102] } : ByteArray)[0]'(by decide)).toNat : Int) = { data := #[48] } := by decide
  have a2 : Utf8.encode ((({ data := #[48, 49, 50, 51, 52, 53, 54, 55, 56, 57, 97, 98, 99, 100, 101, 102] } : ByteArray)[11]'(by decide)).toNat : Int) = { data := #[98] } := by decide
  have g1 : ¬ 9223372036854775807 < ({ data := #[92, 117, 48, 48] } : ByteArray).size + ({ data := #[48] } : ByteArray).size := by decide
  have g2 : ¬ 9223372036854775807 < (({ data := #[92, 117, 48, 48] } : ByteArray) ++ ({ data := #[48] } : ByteArray)).size + ({ data := #[98] } : ByteArray).size := by decide
  go_enter Tryz.func73, Tryz.ntmps73
  go_wp2
  go_quiet (fail)
  go_wp2
  go_ret
  exact ⟨rfl, _, rfl⟩
theorem esc45_12 (w : World) : Calls Tryz.prog 73 #[.int .i32 12] w fun e w' => e = .returned (.string ⟨(escB 12).toArray⟩) ∧ ∃ n, w' = w.drewN n := by
  go_enter Tryz.func73, Tryz.ntmps73
  go_wp2
  go_ret
  exact ⟨rfl, 0, rfl⟩
theorem esc45_13 (w : World) : Calls Tryz.prog 73 #[.int .i32 13] w fun e w' => e = .returned (.string ⟨(escB 13).toArray⟩) ∧ ∃ n, w' = w.drewN n := by
  go_enter Tryz.func73, Tryz.ntmps73
  go_wp2
  go_ret
  exact ⟨rfl, 0, rfl⟩
theorem esc45_14 (w : World) : Calls Tryz.prog 73 #[.int .i32 14] w fun e w' => e = .returned (.string ⟨(escB 14).toArray⟩) ∧ ∃ n, w' = w.drewN n := by
  have b1 : bits .and .i32 14 15 = 14 := by decide
  have a1 : Utf8.encode ((({ data := #[48, 49, 50, 51, 52, 53, 54, 55, 56, 57, 97, 98, 99, 100, 101, 102] } : ByteArray)[0]'(by decide)).toNat : Int) = { data := #[48] } := by decide
  have a2 : Utf8.encode ((({ data := #[48, 49, 50, 51, 52, 53, 54, 55, 56, 57, 97, 98, 99, 100, 101, 102] } : ByteArray)[14]'(by decide)).toNat : Int) = { data := #[101] } := by decide
  have g1 : ¬ 9223372036854775807 < ({ data := #[92, 117, 48, 48] } : ByteArray).size + ({ data := #[48] } : ByteArray).size := by decide
  have g2 : ¬ 9223372036854775807 < (({ data := #[92, 117, 48, 48] } : ByteArray) ++ ({ data := #[48] } : ByteArray)).size + ({ data := #[101] } : ByteArray).size := by decide
  go_enter Tryz.func73, Tryz.ntmps73
  go_wp2
  go_quiet (fail)
  go_wp2
  go_ret
  exact ⟨rfl, _, rfl⟩
theorem esc45_15 (w : World) : Calls Tryz.prog 73 #[.int .i32 15] w fun e w' => e = .returned (.string ⟨(escB 15).toArray⟩) ∧ ∃ n, w' = w.drewN n := by
  have b1 : bits .and .i32 15 15 = 15 := by decide
  have a1 : Utf8.encode ((({ data := #[48, 49, 50, 51, 52, 53, 54, 55, 56, 57, 97, 98, 99, 100, 101, 102] } : ByteArray)[0]'(by decide)).toNat : Int) = { data := #[48] } := by decide
  have a2 : Utf8.encode ((({ data := #[48, 49, 50, 51, 52, 53, 54, 55, 56, 57, 97, 98, 99, 100, 101, 102] } : ByteArray)[15]'(by decide)).toNat : Int) = { data := #[102] } := by decide
  have g1 : ¬ 9223372036854775807 < ({ data := #[92, 117, 48, 48] } : ByteArray).size + ({ data := #[48] } : ByteArray).size := by decide
  have g2 : ¬ 9223372036854775807 < (({ data := #[92, 117, 48, 48] } : ByteArray) ++ ({ data := #[48] } : ByteArray)).size + ({ data := #[102] } : ByteArray).size := by decide
  go_enter Tryz.func73, Tryz.ntmps73
  go_wp2
  go_quiet (fail)
  go_wp2
  go_ret
  exact ⟨rfl, _, rfl⟩
theorem esc45_16 (w : World) : Calls Tryz.prog 73 #[.int .i32 16] w fun e w' => e = .returned (.string ⟨(escB 16).toArray⟩) ∧ ∃ n, w' = w.drewN n := by
  have b1 : bits .and .i32 16 15 = 0 := by decide
  have a1 : Utf8.encode ((({ data := #[48, 49, 50, 51, 52, 53, 54, 55, 56, 57, 97, 98, 99, 100, 101, 102] } : ByteArray)[1]'(by decide)).toNat : Int) = { data := #[49] } := by decide
  have a2 : Utf8.encode ((({ data := #[48, 49, 50, 51, 52, 53, 54, 55, 56, 57, 97, 98, 99, 100, 101, 102] } : ByteArray)[0]'(by decide)).toNat : Int) = { data := #[48] } := by decide
  have g1 : ¬ 9223372036854775807 < ({ data := #[92, 117, 48, 48] } : ByteArray).size + ({ data := #[49] } : ByteArray).size := by decide
  have g2 : ¬ 9223372036854775807 < (({ data := #[92, 117, 48, 48] } : ByteArray) ++ ({ data := #[49] } : ByteArray)).size + ({ data := #[48] } : ByteArray).size := by decide
  go_enter Tryz.func73, Tryz.ntmps73
  go_wp2
  go_quiet (fail)
  go_wp2
  go_ret
  exact ⟨rfl, _, rfl⟩
theorem esc45_17 (w : World) : Calls Tryz.prog 73 #[.int .i32 17] w fun e w' => e = .returned (.string ⟨(escB 17).toArray⟩) ∧ ∃ n, w' = w.drewN n := by
  have b1 : bits .and .i32 17 15 = 1 := by decide
  have a1 : Utf8.encode ((({ data := #[48, 49, 50, 51, 52, 53, 54, 55, 56, 57, 97, 98, 99, 100, 101, 102] } : ByteArray)[1]'(by decide)).toNat : Int) = { data := #[49] } := by decide
  have a2 : Utf8.encode ((({ data := #[48, 49, 50, 51, 52, 53, 54, 55, 56, 57, 97, 98, 99, 100, 101, 102] } : ByteArray)[1]'(by decide)).toNat : Int) = { data := #[49] } := by decide
  have g1 : ¬ 9223372036854775807 < ({ data := #[92, 117, 48, 48] } : ByteArray).size + ({ data := #[49] } : ByteArray).size := by decide
  have g2 : ¬ 9223372036854775807 < (({ data := #[92, 117, 48, 48] } : ByteArray) ++ ({ data := #[49] } : ByteArray)).size + ({ data := #[49] } : ByteArray).size := by decide
  go_enter Tryz.func73, Tryz.ntmps73
  go_wp2
  go_quiet (fail)
  go_wp2
  go_ret
  exact ⟨rfl, _, rfl⟩
theorem esc45_18 (w : World) : Calls Tryz.prog 73 #[.int .i32 18] w fun e w' => e = .returned (.string ⟨(escB 18).toArray⟩) ∧ ∃ n, w' = w.drewN n := by
  have b1 : bits .and .i32 18 15 = 2 := by decide
  have a1 : Utf8.encode ((({ data := #[48, 49, 50, 51, 52, 53, 54, 55, 56, 57, 97, 98, 99, 100, 101, 102] } : ByteArray)[1]'(by decide)).toNat : Int) = { data := #[49] } := by decide
  have a2 : Utf8.encode ((({ data := #[48, 49, 50, 51, 52, 53, 54, 55, 56, 57, 97, 98, 99, 100, 101, 102] } : ByteArray)[2]'(by decide)).toNat : Int) = { data := #[50] } := by decide
  have g1 : ¬ 9223372036854775807 < ({ data := #[92, 117, 48, 48] } : ByteArray).size + ({ data := #[49] } : ByteArray).size := by decide
  have g2 : ¬ 9223372036854775807 < (({ data := #[92, 117, 48, 48] } : ByteArray) ++ ({ data := #[49] } : ByteArray)).size + ({ data := #[50] } : ByteArray).size := by decide
  go_enter Tryz.func73, Tryz.ntmps73
  go_wp2
  go_quiet (fail)
  go_wp2
  go_ret
  exact ⟨rfl, _, rfl⟩
theorem esc45_19 (w : World) : Calls Tryz.prog 73 #[.int .i32 19] w fun e w' => e = .returned (.string ⟨(escB 19).toArray⟩) ∧ ∃ n, w' = w.drewN n := by
  have b1 : bits .and .i32 19 15 = 3 := by decide
  have a1 : Utf8.encode ((({ data := #[48, 49, 50, 51, 52, 53, 54, 55, 56, 57, 97, 98, 99, 100, 101, 102] } : ByteArray)[1]'(by decide)).toNat : Int) = { data := #[49] } := by decide
  have a2 : Utf8.encode ((({ data := #[48, 49, 50, 51, 52, 53, 54, 55, 56, 57, 97, 98, 99, 100, 101, 102] } : ByteArray)[3]'(by decide)).toNat : Int) = { data := #[51] } := by decide
  have g1 : ¬ 9223372036854775807 < ({ data := #[92, 117, 48, 48] } : ByteArray).size + ({ data := #[49] } : ByteArray).size := by decide
  have g2 : ¬ 9223372036854775807 < (({ data := #[92, 117, 48, 48] } : ByteArray) ++ ({ data := #[49] } : ByteArray)).size + ({ data := #[51] } : ByteArray).size := by decide
  go_enter Tryz.func73, Tryz.ntmps73
  go_wp2
  go_quiet (fail)
  go_wp2
  go_ret
  exact ⟨rfl, _, rfl⟩
theorem esc45_20 (w : World) : Calls Tryz.prog 73 #[.int .i32 20] w fun e w' => e = .returned (.string ⟨(escB 20).toArray⟩) ∧ ∃ n, w' = w.drewN n := by
  have b1 : bits .and .i32 20 15 = 4 := by decide
  have a1 : Utf8.encode ((({ data := #[48, 49, 50, 51, 52, 53, 54, 55, 56, 57, 97, 98, 99, 100, 101, 102] } : ByteArray)[1]'(by decide)).toNat : Int) = { data := #[49] } := by decide
  have a2 : Utf8.encode ((({ data := #[48, 49, 50, 51, 52, 53, 54, 55, 56, 57, 97, 98, 99, 100, 101, 102] } : ByteArray)[4]'(by decide)).toNat : Int) = { data := #[52] } := by decide
  have g1 : ¬ 9223372036854775807 < ({ data := #[92, 117, 48, 48] } : ByteArray).size + ({ data := #[49] } : ByteArray).size := by decide
  have g2 : ¬ 9223372036854775807 < (({ data := #[92, 117, 48, 48] } : ByteArray) ++ ({ data := #[49] } : ByteArray)).size + ({ data := #[52] } : ByteArray).size := by decide
  go_enter Tryz.func73, Tryz.ntmps73
  go_wp2
  go_quiet (fail)
  go_wp2
  go_ret
  exact ⟨rfl, _, rfl⟩
theorem esc45_21 (w : World) : Calls Tryz.prog 73 #[.int .i32 21] w fun e w' => e = .returned (.string ⟨(escB 21).toArray⟩) ∧ ∃ n, w' = w.drewN n := by
  have b1 : bits .and .i32 21 15 = 5 := by decide
  have a1 : Utf8.encode ((({ data := #[48, 49, 50, 51, 52, 53, 54, 55, 56, 57, 97, 98, 99, 100, 101, 102] } : ByteArray)[1]'(by decide)).toNat : Int) = { data := #[49] } := by decide
  have a2 : Utf8.encode ((({ data := #[48, 49, 50, 51, 52, 53, 54, 55, 56, 57, 97, 98, 99, 100, 101, 102] } : ByteArray)[5]'(by decide)).toNat : Int) = { data := #[53] } := by decide
  have g1 : ¬ 9223372036854775807 < ({ data := #[92, 117, 48, 48] } : ByteArray).size + ({ data := #[49] } : ByteArray).size := by decide
  have g2 : ¬ 9223372036854775807 < (({ data := #[92, 117, 48, 48] } : ByteArray) ++ ({ data := #[49] } : ByteArray)).size + ({ data := #[53] } : ByteArray).size := by decide
  go_enter Tryz.func73, Tryz.ntmps73
  go_wp2
  go_quiet (fail)
  go_wp2
  go_ret
  exact ⟨rfl, _, rfl⟩
theorem esc45_22 (w : World) : Calls Tryz.prog 73 #[.int .i32 22] w fun e w' => e = .returned (.string ⟨(escB 22).toArray⟩) ∧ ∃ n, w' = w.drewN n := by
  have b1 : bits .and .i32 22 15 = 6 := by decide
  have a1 : Utf8.encode ((({ data := #[48, 49, 50, 51, 52, 53, 54, 55, 56, 57, 97, 98, 99, 100, 101, 102] } : ByteArray)[1]'(by decide)).toNat : Int) = { data := #[49] } := by decide
  have a2 : Utf8.encode ((({ data := #[48, 49, 50, 51, 52, 53, 54, 55, 56, 57, 97, 98, 99, 100, 101, 102] } : ByteArray)[6]'(by decide)).toNat : Int) = { data := #[54] } := by decide
  have g1 : ¬ 9223372036854775807 < ({ data := #[92, 117, 48, 48] } : ByteArray).size + ({ data := #[49] } : ByteArray).size := by decide
  have g2 : ¬ 9223372036854775807 < (({ data := #[92, 117, 48, 48] } : ByteArray) ++ ({ data := #[49] } : ByteArray)).size + ({ data := #[54] } : ByteArray).size := by decide
  go_enter Tryz.func73, Tryz.ntmps73
  go_wp2
  go_quiet (fail)
  go_wp2
  go_ret
  exact ⟨rfl, _, rfl⟩
theorem esc45_23 (w : World) : Calls Tryz.prog 73 #[.int .i32 23] w fun e w' => e = .returned (.string ⟨(escB 23).toArray⟩) ∧ ∃ n, w' = w.drewN n := by
  have b1 : bits .and .i32 23 15 = 7 := by decide
  have a1 : Utf8.encode ((({ data := #[48, 49, 50, 51, 52, 53, 54, 55, 56, 57, 97, 98, 99, 100, 101, 102] } : ByteArray)[1]'(by decide)).toNat : Int) = { data := #[49] } := by decide
  have a2 : Utf8.encode ((({ data := #[48, 49, 50, 51, 52, 53, 54, 55, 56, 57, 97, 98, 99, 100, 101, 102] } : ByteArray)[7]'(by decide)).toNat : Int) = { data := #[55] } := by decide
  have g1 : ¬ 9223372036854775807 < ({ data := #[92, 117, 48, 48] } : ByteArray).size + ({ data := #[49] } : ByteArray).size := by decide
  have g2 : ¬ 9223372036854775807 < (({ data := #[92, 117, 48, 48] } : ByteArray) ++ ({ data := #[49] } : ByteArray)).size + ({ data := #[55] } : ByteArray).size := by decide
  go_enter Tryz.func73, Tryz.ntmps73
  go_wp2
  go_quiet (fail)
  go_wp2
  go_ret
  exact ⟨rfl, _, rfl⟩
theorem esc45_24 (w : World) : Calls Tryz.prog 73 #[.int .i32 24] w fun e w' => e = .returned (.string ⟨(escB 24).toArray⟩) ∧ ∃ n, w' = w.drewN n := by
  have b1 : bits .and .i32 24 15 = 8 := by decide
  have a1 : Utf8.encode ((({ data := #[48, 49, 50, 51, 52, 53, 54, 55, 56, 57, 97, 98, 99, 100, 101, 102] } : ByteArray)[1]'(by decide)).toNat : Int) = { data := #[49] } := by decide
  have a2 : Utf8.encode ((({ data := #[48, 49, 50, 51, 52, 53, 54, 55, 56, 57, 97, 98, 99, 100, 101, 102] } : ByteArray)[8]'(by decide)).toNat : Int) = { data := #[56] } := by decide
  have g1 : ¬ 9223372036854775807 < ({ data := #[92, 117, 48, 48] } : ByteArray).size + ({ data := #[49] } : ByteArray).size := by decide
  have g2 : ¬ 9223372036854775807 < (({ data := #[92, 117, 48, 48] } : ByteArray) ++ ({ data := #[49] } : ByteArray)).size + ({ data := #[56] } : ByteArray).size := by decide
  go_enter Tryz.func73, Tryz.ntmps73
  go_wp2
  go_quiet (fail)
  go_wp2
  go_ret
  exact ⟨rfl, _, rfl⟩
theorem esc45_25 (w : World) : Calls Tryz.prog 73 #[.int .i32 25] w fun e w' => e = .returned (.string ⟨(escB 25).toArray⟩) ∧ ∃ n, w' = w.drewN n := by
  have b1 : bits .and .i32 25 15 = 9 := by decide
  have a1 : Utf8.encode ((({ data := #[48, 49, 50, 51, 52, 53, 54, 55, 56, 57, 97, 98, 99, 100, 101, 102] } : ByteArray)[1]'(by decide)).toNat : Int) = { data := #[49] } := by decide
  have a2 : Utf8.encode ((({ data := #[48, 49, 50, 51, 52, 53, 54, 55, 56, 57, 97, 98, 99, 100, 101, 102] } : ByteArray)[9]'(by decide)).toNat : Int) = { data := #[57] } := by decide
  have g1 : ¬ 9223372036854775807 < ({ data := #[92, 117, 48, 48] } : ByteArray).size + ({ data := #[49] } : ByteArray).size := by decide
  have g2 : ¬ 9223372036854775807 < (({ data := #[92, 117, 48, 48] } : ByteArray) ++ ({ data := #[49] } : ByteArray)).size + ({ data := #[57] } : ByteArray).size := by decide
  go_enter Tryz.func73, Tryz.ntmps73
  go_wp2
  go_quiet (fail)
  go_wp2
  go_ret
  exact ⟨rfl, _, rfl⟩
theorem esc45_26 (w : World) : Calls Tryz.prog 73 #[.int .i32 26] w fun e w' => e = .returned (.string ⟨(escB 26).toArray⟩) ∧ ∃ n, w' = w.drewN n := by
  have b1 : bits .and .i32 26 15 = 10 := by decide
  have a1 : Utf8.encode ((({ data := #[48, 49, 50, 51, 52, 53, 54, 55, 56, 57, 97, 98, 99, 100, 101, 102] } : ByteArray)[1]'(by decide)).toNat : Int) = { data := #[49] } := by decide
  have a2 : Utf8.encode ((({ data := #[48, 49, 50, 51, 52, 53, 54, 55, 56, 57, 97, 98, 99, 100, 101, 102] } : ByteArray)[10]'(by decide)).toNat : Int) = { data := #[97] } := by decide
  have g1 : ¬ 9223372036854775807 < ({ data := #[92, 117, 48, 48] } : ByteArray).size + ({ data := #[49] } : ByteArray).size := by decide
  have g2 : ¬ 9223372036854775807 < (({ data := #[92, 117, 48, 48] } : ByteArray) ++ ({ data := #[49] } : ByteArray)).size + ({ data := #[97] } : ByteArray).size := by decide
  go_enter Tryz.func73, Tryz.ntmps73
  go_wp2
  go_quiet (fail)
  go_wp2
  go_ret
  exact ⟨rfl, _, rfl⟩
theorem esc45_27 (w : World) : Calls Tryz.prog 73 #[.int .i32 27] w fun e w' => e = .returned (.string ⟨(escB 27).toArray⟩) ∧ ∃ n, w' = w.drewN n := by
  have b1 : bits .and .i32 27 15 = 11 := by decide
  have a1 : Utf8.encode ((({ data := #[48, 49, 50, 51, 52, 53, 54, 55, 56, 57, 97, 98, 99, 100, 101, 102] } : ByteArray)[1]'(by decide)).toNat : Int) = { data := #[49] } := by decide
  have a2 : Utf8.encode ((({ data := #[48, 49, 50, 51, 52, 53, 54, 55, 56, 57, 97, 98, 99, 100, 101, 102] } : ByteArray)[11]'(by decide)).toNat : Int) = { data := #[98] } := by decide
  have g1 : ¬ 9223372036854775807 < ({ data := #[92, 117, 48, 48] } : ByteArray).size + ({ data := #[49] } : ByteArray).size := by decide
  have g2 : ¬ 9223372036854775807 < (({ data := #[92, 117, 48, 48] } : ByteArray) ++ ({ data := #[49] } : ByteArray)).size + ({ data := #[98] } : ByteArray).size := by decide
  go_enter Tryz.func73, Tryz.ntmps73
  go_wp2
  go_quiet (fail)
  go_wp2
  go_ret
  exact ⟨rfl, _, rfl⟩
theorem esc45_28 (w : World) : Calls Tryz.prog 73 #[.int .i32 28] w fun e w' => e = .returned (.string ⟨(escB 28).toArray⟩) ∧ ∃ n, w' = w.drewN n := by
  have b1 : bits .and .i32 28 15 = 12 := by decide
  have a1 : Utf8.encode ((({ data := #[48, 49, 50, 51, 52, 53, 54, 55, 56, 57, 97, 98, 99, 100, 101, 102] } : ByteArray)[1]'(by decide)).toNat : Int) = { data := #[49] } := by decide
  have a2 : Utf8.encode ((({ data := #[48, 49, 50, 51, 52, 53, 54, 55, 56, 57, 97, 98, 99, 100, 101, 102] } : ByteArray)[12]'(by decide)).toNat : Int) = { data := #[99] } := by decide
  have g1 : ¬ 9223372036854775807 < ({ data := #[92, 117, 48, 48] } : ByteArray).size + ({ data := #[49] } : ByteArray).size := by decide
  have g2 : ¬ 9223372036854775807 < (({ data := #[92, 117, 48, 48] } : ByteArray) ++ ({ data := #[49] } : ByteArray)).size + ({ data := #[99] } : ByteArray).size := by decide
  go_enter Tryz.func73, Tryz.ntmps73
  go_wp2
  go_quiet (fail)
  go_wp2
  go_ret
  exact ⟨rfl, _, rfl⟩
theorem esc45_29 (w : World) : Calls Tryz.prog 73 #[.int .i32 29] w fun e w' => e = .returned (.string ⟨(escB 29).toArray⟩) ∧ ∃ n, w' = w.drewN n := by
  have b1 : bits .and .i32 29 15 = 13 := by decide
  have a1 : Utf8.encode ((({ data := #[48, 49, 50, 51, 52, 53, 54, 55, 56, 57, 97, 98, 99, 100, 101, 102] } : ByteArray)[1]'(by decide)).toNat : Int) = { data := #[49] } := by decide
  have a2 : Utf8.encode ((({ data := #[48, 49, 50, 51, 52, 53, 54, 55, 56, 57, 97, 98, 99, 100, 101, 102] } : ByteArray)[13]'(by decide)).toNat : Int) = { data := #[100] } := by decide
  have g1 : ¬ 9223372036854775807 < ({ data := #[92, 117, 48, 48] } : ByteArray).size + ({ data := #[49] } : ByteArray).size := by decide
  have g2 : ¬ 9223372036854775807 < (({ data := #[92, 117, 48, 48] } : ByteArray) ++ ({ data := #[49] } : ByteArray)).size + ({ data := #[100] } : ByteArray).size := by decide
  go_enter Tryz.func73, Tryz.ntmps73
  go_wp2
  go_quiet (fail)
  go_wp2
  go_ret
  exact ⟨rfl, _, rfl⟩
theorem esc45_30 (w : World) : Calls Tryz.prog 73 #[.int .i32 30] w fun e w' => e = .returned (.string ⟨(escB 30).toArray⟩) ∧ ∃ n, w' = w.drewN n := by
  have b1 : bits .and .i32 30 15 = 14 := by decide
  have a1 : Utf8.encode ((({ data := #[48, 49, 50, 51, 52, 53, 54, 55, 56, 57, 97, 98, 99, 100, 101, 102] } : ByteArray)[1]'(by decide)).toNat : Int) = { data := #[49] } := by decide
  have a2 : Utf8.encode ((({ data := #[48, 49, 50, 51, 52, 53, 54, 55, 56, 57, 97, 98, 99, 100, 101, 102] } : ByteArray)[14]'(by decide)).toNat : Int) = { data := #[101] } := by decide
  have g1 : ¬ 9223372036854775807 < ({ data := #[92, 117, 48, 48] } : ByteArray).size + ({ data := #[49] } : ByteArray).size := by decide
  have g2 : ¬ 9223372036854775807 < (({ data := #[92, 117, 48, 48] } : ByteArray) ++ ({ data := #[49] } : ByteArray)).size + ({ data := #[101] } : ByteArray).size := by decide
  go_enter Tryz.func73, Tryz.ntmps73
  go_wp2
  go_quiet (fail)
  go_wp2
  go_ret
  exact ⟨rfl, _, rfl⟩
theorem esc45_31 (w : World) : Calls Tryz.prog 73 #[.int .i32 31] w fun e w' => e = .returned (.string ⟨(escB 31).toArray⟩) ∧ ∃ n, w' = w.drewN n := by
  have b1 : bits .and .i32 31 15 = 15 := by decide
  have a1 : Utf8.encode ((({ data := #[48, 49, 50, 51, 52, 53, 54, 55, 56, 57, 97, 98, 99, 100, 101, 102] } : ByteArray)[1]'(by decide)).toNat : Int) = { data := #[49] } := by decide
  have a2 : Utf8.encode ((({ data := #[48, 49, 50, 51, 52, 53, 54, 55, 56, 57, 97, 98, 99, 100, 101, 102] } : ByteArray)[15]'(by decide)).toNat : Int) = { data := #[102] } := by decide
  have g1 : ¬ 9223372036854775807 < ({ data := #[92, 117, 48, 48] } : ByteArray).size + ({ data := #[49] } : ByteArray).size := by decide
  have g2 : ¬ 9223372036854775807 < (({ data := #[92, 117, 48, 48] } : ByteArray) ++ ({ data := #[49] } : ByteArray)).size + ({ data := #[102] } : ByteArray).size := by decide
  go_enter Tryz.func73, Tryz.ntmps73
  go_wp2
  go_quiet (fail)
  go_wp2
  go_ret
  exact ⟨rfl, _, rfl⟩
theorem esc45_34 (w : World) : Calls Tryz.prog 73 #[.int .i32 34] w fun e w' => e = .returned (.string ⟨(escB 34).toArray⟩) ∧ ∃ n, w' = w.drewN n := by
  go_enter Tryz.func73, Tryz.ntmps73
  go_wp2
  go_ret
  exact ⟨rfl, 0, rfl⟩
theorem esc45_92 (w : World) : Calls Tryz.prog 73 #[.int .i32 92] w fun e w' => e = .returned (.string ⟨(escB 92).toArray⟩) ∧ ∃ n, w' = w.drewN n := by
  go_enter Tryz.func73, Tryz.ntmps73
  go_wp2
  go_ret
  exact ⟨rfl, 0, rfl⟩

theorem esc45_any (c : Nat) (h : isEsc c = true) (w : World) : Calls Tryz.prog 73 #[.int .i32 (c : Int)] w fun e w' => e = .returned (.string ⟨(escB c).toArray⟩) ∧ ∃ n, w' = w.drewN n := by
  have hc : c = 0 ∨ c = 1 ∨ c = 2 ∨ c = 3 ∨ c = 4 ∨ c = 5 ∨ c = 6 ∨ c = 7 ∨ c = 8 ∨ c = 9 ∨ c = 10 ∨ c = 11 ∨ c = 12 ∨ c = 13 ∨ c = 14 ∨ c = 15 ∨ c = 16 ∨ c = 17 ∨ c = 18 ∨ c = 19 ∨ c = 20 ∨ c = 21 ∨ c = 22 ∨ c = 23 ∨ c = 24 ∨ c = 25 ∨ c = 26 ∨ c = 27 ∨ c = 28 ∨ c = 29 ∨ c = 30 ∨ c = 31 ∨ c = 34 ∨ c = 92 := by
    unfold isEsc at h; simp at h; omega
  rcases hc with rfl | rfl | rfl | rfl | rfl | rfl | rfl | rfl | rfl | rfl | rfl | rfl | rfl | rfl | rfl | rfl | rfl | rfl | rfl | rfl | rfl | rfl | rfl | rfl | rfl | rfl | rfl | rfl | rfl | rfl | rfl | rfl | rfl | rfl
  · exact esc45_0 w
  · exact esc45_1 w
  · exact esc45_2 w
  · exact esc45_3 w
  · exact esc45_4 w
  · exact esc45_5 w
  · exact esc45_6 w
  · exact esc45_7 w
  · exact esc45_8 w
  · exact esc45_9 w
  · exact esc45_10 w
  · exact esc45_11 w
  · exact esc45_12 w
  · exact esc45_13 w
  · exact esc45_14 w
  · exact esc45_15 w
  · exact esc45_16 w
  · exact esc45_17 w
  · exact esc45_18 w
  · exact esc45_19 w
  · exact esc45_20 w
  · exact esc45_21 w
  · exact esc45_22 w
  · exact esc45_23 w
  · exact esc45_24 w
  · exact esc45_25 w
  · exact esc45_26 w
  · exact esc45_27 w
  · exact esc45_28 w
  · exact esc45_29 w
  · exact esc45_30 w
  · exact esc45_31 w
  · exact esc45_34 w
  · exact esc45_92 w
theorem esc_is (c : Nat) (w : World) : Calls Tryz.prog 72 #[.int .i32 (c : Int)] w fun e w' => e = .returned (.bool (isEsc c)) ∧ w' = w := by
  by_cases h1 : c < 32
  · have e1 : (c : Int) < 32 := by omega
    have hr : isEsc c = true := by unfold isEsc; simp [h1]
    rw [hr]
    go_enter Tryz.func72, Tryz.ntmps72
    go_wp2
    go_ret
    exact ⟨rfl, rfl⟩
  · have e1 : ¬ ((c : Int) < 32) := by omega
    by_cases h2 : c = 34
    · subst h2
      go_enter Tryz.func72, Tryz.ntmps72
      go_wp2
      go_ret
      exact ⟨rfl, rfl⟩
    · by_cases h3 : c = 92
      · subst h3
        go_enter Tryz.func72, Tryz.ntmps72
        go_wp2
        go_ret
        exact ⟨rfl, rfl⟩
      · have e2 : ((c : Int) == 34) = false := by simp; omega
        have e3 : ((c : Int) == 92) = false := by simp; omega
        have hr : isEsc c = false := by unfold isEsc; simp [h1, h2, h3]
        rw [hr]
        go_enter Tryz.func72, Tryz.ntmps72
        go_wp2
        go_ret
        exact ⟨rfl, rfl⟩
end Go.Proofs.YtnccaidlcaeeaaaGreatDoor
