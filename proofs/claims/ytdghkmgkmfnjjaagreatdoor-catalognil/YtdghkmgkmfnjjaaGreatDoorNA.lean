import Derived.Test.YtdghkmgkmfnjjaaGreatDoorCO
/-! A nil catalog. -/
namespace Go.Proofs.YtdghkmgkmfnjjaaGreatDoor
open Go Go.RowKit Go.Maps

set_option maxHeartbeats 1000000 in
theorem nfind (nm : ByteArray) (w : World) : Calls Tryz.prog 18 #[.pointer none, .string nm] w fun e w' => e = .returned (.pointer none) ∧ w' = w := by
  go_enter Tryz.func18, Tryz.ntmps18
  go_wp2_with fail
  go_ret
  exact ⟨rfl, rfl⟩
set_option maxHeartbeats 1000000 in
theorem nedited (nm : ByteArray) (fid : Nat) (cap : Array Value) (w : World) : Calls Tryz.prog 31 #[.pointer none, .string nm, .func (.func fid) #[] cap] w fun e w' => e = .returned (.tuple #[.pointer none, .int .i64 0]) ∧ w' = w := by
  go_enter Tryz.func31, Tryz.ntmps31
  go_wp2_with fail
  go_ret2
  exact ⟨rfl, rfl⟩
set_option maxHeartbeats 1000000 in
theorem ncreate (nm : ByteArray) (ms k x : Int) (s : ByteArray) (a : Option Addr) (l c : Nat) (b : Option Addr) (l2 c2 : Nat) (w : World) : Calls Tryz.prog 12 #[.pointer none, .string nm, .int .i64 ms, .agg #[.int .i64 k, .int .i64 x, .string s, .slice a l c, .slice b l2 c2]] w fun e w' => e = .returned (.tuple #[.pointer none, .int .i64 0]) ∧ Below w.heap.size w w' := by
  go_enter Tryz.func12, Tryz.ntmps12
  go_wp2_with fail
  go_ret2
  exact ⟨rfl, (Below.refl _ w).alloc (Nat.le_refl _) _⟩
set_option maxHeartbeats 1000000 in
theorem ndrop (nm : ByteArray) (w : World) : Calls Tryz.prog 13 #[.pointer none, .string nm] w fun e w' => e = .returned (.tuple #[.pointer none, .int .i64 0]) ∧ Below w.heap.size w w' := by
  go_enter Tryz.func13, Tryz.ntmps13
  go_wp2_with fail
  refine (nfind nm w).mono ?_
  rintro e Z ⟨rfl, hZ⟩
  obtain rfl : w = Z := hZ.symm
  clear hZ
  go_wp2_with fail
  go_ret2
  exact ⟨rfl, Below.refl _ _⟩
set_option maxHeartbeats 1000000 in
theorem nindex (nm pn pp : ByteArray) (pu : Bool) (a : Option Addr) (l c : Nat) (w : World) : Calls Tryz.prog 14 #[.pointer none, .string nm, .agg #[.string pn, .string pp, .bool pu], .slice a l c] w fun e w' => e = .returned (.tuple #[.pointer none, .int .i64 0]) ∧ Below w.heap.size w w' := by
  have hB := ((Below.refl _ w).alloc (Nat.le_refl _) (.cells #[.string pn, .string pp, .bool pu] 27)).alloc (by simp) (.cells #[.slice a l c] 28)
  go_enter Tryz.func14, Tryz.ntmps14
  go_wp2_with fail
  refine (nedited nm _ _ _).mono ?_
  rintro e Z ⟨rfl, hZ⟩
  have hZ := hZ.symm
  subst hZ
  go_wp2_with fail
  go_ret2
  exact ⟨rfl, hB⟩
set_option maxHeartbeats 1000000 in
theorem nunindex (nm ix : ByteArray) (w : World) : Calls Tryz.prog 15 #[.pointer none, .string nm, .string ix] w fun e w' => e = .returned (.tuple #[.pointer none, .int .i64 0]) ∧ Below w.heap.size w w' := by
  have hB := (Below.refl _ w).alloc (Nat.le_refl _) (.cells #[.string ix] 9)
  go_enter Tryz.func15, Tryz.ntmps15
  go_wp2_with fail
  refine (nedited nm _ _ _).mono ?_
  rintro e Z ⟨rfl, hZ⟩
  have hZ := hZ.symm
  subst hZ
  go_wp2_with fail
  go_ret2
  exact ⟨rfl, hB⟩
set_option maxHeartbeats 1000000 in
theorem ncommit (nm : ByteArray) (a : Option Addr) (l c : Nat) (b : Option Addr) (l2 c2 : Nat) (w : World) : Calls Tryz.prog 16 #[.pointer none, .string nm, .slice a l c, .slice b l2 c2] w fun e w' => e = .returned (.tuple #[.pointer none, .int .i64 0]) ∧ Below w.heap.size w w' := by
  have hB := ((Below.refl _ w).alloc (Nat.le_refl _) (.cells #[.slice a l c] 28)).alloc (by simp) (.cells #[.slice b l2 c2] 28)
  go_enter Tryz.func16, Tryz.ntmps16
  go_wp2_with fail
  refine (nedited nm _ _ _).mono ?_
  rintro e Z ⟨rfl, hZ⟩
  have hZ := hZ.symm
  subst hZ
  go_wp2_with fail
  go_ret2
  exact ⟨rfl, hB⟩
set_option maxHeartbeats 1000000 in
theorem nmoved (nm : ByteArray) (x y : Int) (w : World) : Calls Tryz.prog 17 #[.pointer none, .string nm, .agg #[.int .i64 x, .int .i64 y]] w fun e w' => e = .returned (.pointer none) ∧ Below w.heap.size w w' := by
  have hB := (Below.refl _ w).alloc (Nat.le_refl _) (.cells #[.int .i64 x, .int .i64 y] 30)
  go_enter Tryz.func17, Tryz.ntmps17
  go_wp2_with fail
  refine (nedited nm _ _ _).mono ?_
  rintro e Z ⟨rfl, hZ⟩
  have hZ := hZ.symm
  subst hZ
  go_wp2_with fail
  go_ret
  exact ⟨rfl, hB⟩
set_option maxHeartbeats 1000000 in
theorem nnames (w : World) : Calls Tryz.prog 8 #[.pointer none] w fun e w' => e = .returned (.slice none 0 0) ∧ w' = w := by
  go_enter Tryz.func8, Tryz.ntmps8
  go_wp2_with fail
  go_ret
  exact ⟨rfl, rfl⟩
set_option maxHeartbeats 1000000 in
theorem nchoose (nm : ByteArray) (a : Option Addr) (l c : Nat) (w : World) : Calls Tryz.prog 7 #[.pointer none, .string nm, .slice a l c] w fun e w' => e = .returned (.tuple #[.slice none 0 0, .string ⟨#[]⟩, .bool false]) ∧ w' = w := by
  go_enter Tryz.func7, Tryz.ntmps7
  go_wp2_with fail
  refine (nfind nm w).mono ?_
  rintro e Z ⟨rfl, hZ⟩
  obtain rfl : w = Z := hZ.symm
  clear hZ
  go_wp2_with fail
  refine bodyPost_ret (results_tmp3 rfl _ _ _) rfl ?_
  exact ⟨rfl, rfl⟩
set_option maxHeartbeats 4000000 in
set_option maxRecDepth 100000 in
theorem ncoll (nm : ByteArray) (w : World) : Calls Tryz.prog 6 #[.pointer none, .string nm] w fun e w' => e = .returned (.tuple #[.agg #[.string ⟨#[]⟩, .int .i64 0, .int .i64 0, .int .i64 0, .int .i64 0, .string ⟨#[]⟩, .slice none 0 0, .slice none 0 0, .int .i64 0, .int .i64 0, .slice none 0 0], .bool false]) ∧ Below w.heap.size w w' := by
  have hB := (Below.refl _ w).alloc (Nat.le_refl _) (.cells #[.string ⟨#[]⟩, .int .i64 0, .int .i64 0, .int .i64 0, .int .i64 0, .string ⟨#[]⟩, .slice none 0 0, .slice none 0 0, .int .i64 0, .int .i64 0, .slice none 0 0] 39)
  go_enter Tryz.func6, Tryz.ntmps6
  go_wp2_with fail
  refine (nfind nm _).mono ?_
  rintro e Z ⟨rfl, hZ⟩
  have hZ := hZ.symm
  subst hZ
  go_wp2_with fail
  go_returns
  exact ⟨rfl, hB⟩
end Go.Proofs.YtdghkmgkmfnjjaaGreatDoor
