import Derived.Test.YtbhjbicbgmeboaaC1
import Derived.Laws.CopyOwn
import Derived.Deep.WholeRow
/-! Copies of lists of no item and of one; bare, anew. -/
namespace Go.Proofs.Ytbhjbicbgmeboaa
open Go Go.RowKit

theorem A25 : (Try.prog.info? 25).map (fun i => (i.zero, i.size, i.bytes)) = some (some (.agg #[.int .i64 0, .int .i64 0, .string ⟨#[]⟩, .slice none 0 0, .slice none 0 0]), 5, 80) := by kernel_rfl
theorem make_s (l c : Int) (h0 : 0 ≤ l) (hlc : l ≤ c) (hc : c ≤ 100) (w : World) : (Instr.makeSlice 22 (.int .i64 l) (.int .i64 c)).run Try.prog w = .ok (.slice (some ⟨w.heap.size, 0, none⟩) l.toNat c.toNat) (w.alloc (.cells (madeCells #[.string ⟨#[]⟩] c.toNat) 9)) := by
  obtain ⟨i9, hi9, hz90, hz91, hz92⟩ := info_parts A9
  have := run_make (P := Try.prog) w 22 9 i9 _ Try.underlying22 hi9 hz90 .i64 .i64 l c h0 hlc (by rw [hz92]; omega) (by omega)
  rw [this, hz91, Nat.mul_one]
  rfl
theorem make_v (l c : Int) (h0 : 0 ≤ l) (hlc : l ≤ c) (hc : c ≤ 100) (w : World) : (Instr.makeSlice 23 (.int .i64 l) (.int .i64 c)).run Try.prog w = .ok (.slice (some ⟨w.heap.size, 0, none⟩) l.toNat c.toNat) (w.alloc (.cells (madeCells #[.int .i64 0, .int .i64 0, .string ⟨#[]⟩, .slice none 0 0, .slice none 0 0] (c.toNat * 5)) 25)) := by
  obtain ⟨i, hi, hz0, hz1, hz2⟩ := info_parts A25
  have := run_make (P := Try.prog) w 23 25 i _ Try.underlying23 hi hz0 .i64 .i64 l c h0 hlc (by rw [hz2]; omega) (by omega)
  rw [this, hz1]
  rfl
theorem add_lit (b o j : Nat) : (⟨b, o, none⟩ : Addr).add j = ⟨b, o + j, none⟩ := by unfold Addr.add; split <;> simp_all
theorem copy_zero {P : Program} (w : World) (t ty elem : TypeId) (i : TypeInfo) (d a : Option Addr) (dCap sCap : Nat) (hu : P.underlying t = some (.slice elem)) (hi : P.info? elem = some i) :
    (Builtin.copy_ #[t, t] ty #[.slice d 0 dCap, .slice a 0 sCap]).run P w = .ok (goInt 0) w := by
  cases a with
  | none => cases d <;> simp [Builtin.copy_, run_underlying hu, Builtin.lenOf, Builtin.firstCells, sizeOf, typeInfo, hi, storeCells]
  | some a =>
    have hl := run_loadCells_list (P := P) w a [] (fun j v h => by simp at h)
    simp only [List.length_nil] at hl
    cases d <;> simp [Builtin.copy_, run_underlying hu, Builtin.lenOf, Builtin.firstCells, sizeOf, typeInfo, hi, storeCells, hl]
theorem copy_one {P : Program} (w : World) (T ty elem : TypeId) (i : TypeInfo) (g dCap : Nat) (a : Addr) (sCap : Nat) (cur : Array Value) (t : TypeId) (cs : List Value) (hu : P.underlying T = some (.slice elem)) (hi : P.info? elem = some i)
    (hg : w.heap[g]? = some (.cells cur t (0, 0))) (hn : cs.length = i.size) (hsrc : ∀ j v, cs[j]? = some v → w.cell? (a.add j) = some v) (hfit : cs.length ≤ cur.size) (h1 : ∀ v ∈ cs, v.oneCell' = true) :
    (Builtin.copy_ #[T, T] ty #[.slice (some ⟨g, 0, none⟩) 1 dCap, .slice (some a) 1 sCap]).run P w = .ok (goInt 1) (w.setRow g (cs ++ cur.toList.drop cs.length).toArray) := by
  have hl := run_loadCells_list (P := P) w a cs hsrc
  have hst := run_storeCells_at P g 0 t cs 0 cur w hg (by simpa using hfit) h1
  simp at hst
  simp [Builtin.copy_, run_underlying hu, Builtin.lenOf, Builtin.firstCells, sizeOf, typeInfo, hi, ← hn, hl, hst]
theorem made_s1 : madeCells #[Value.string ⟨#[]⟩] 1 = #[.string ⟨#[]⟩] := by kernel_rfl
theorem made_s2 : madeCells #[Value.string ⟨#[]⟩] 2 = #[.string ⟨#[]⟩, .string ⟨#[]⟩] := by kernel_rfl
theorem made_v1 : madeCells #[Value.int .i64 0, .int .i64 0, .string ⟨#[]⟩, .slice none 0 0, .slice none 0 0] 5 = #[.int .i64 0, .int .i64 0, .string ⟨#[]⟩, .slice none 0 0, .slice none 0 0] := by kernel_rfl
theorem made_v2 : madeCells #[Value.int .i64 0, .int .i64 0, .string ⟨#[]⟩, .slice none 0 0, .slice none 0 0] 10 = #[.int .i64 0, .int .i64 0, .string ⟨#[]⟩, .slice none 0 0, .slice none 0 0, .int .i64 0, .int .i64 0, .string ⟨#[]⟩, .slice none 0 0, .slice none 0 0] := by kernel_rfl

set_option maxHeartbeats 1000000 in
set_option maxRecDepth 100000 in
theorem copied_s0 (a : Option Addr) (c : Nat) (w : World) : Calls Try.prog 56 #[.slice a 0 c] w fun e w' => e = .returned (.slice (some ⟨w.heap.size, 0, none⟩) 0 1) ∧ w' = w.alloc (.cells #[.string ⟨#[]⟩] 9) := by
  have hmk := fun w => make_s 0 1 (by decide) (by decide) (by decide) w
  simp only [Int.toNat_zero, show (1 : Int).toNat = 1 from rfl, made_s1] at hmk
  obtain ⟨i9, hi9, -, -, -⟩ := info_parts A9
  have hcp := fun w d a dCap sCap => copy_zero (P := Try.prog) w 22 3 9 i9 d a dCap sCap Try.underlying22 hi9
  cases a
  all_goals
    go_enter Try.func56, Try.ntmps56
    go_wp2
    go_ret
    exact ⟨rfl, rfl⟩
set_option maxHeartbeats 1000000 in
set_option maxRecDepth 100000 in
theorem copied_v0 (a : Option Addr) (c : Nat) (w : World) : Calls Try.prog 55 #[.slice a 0 c] w fun e w' => e = .returned (.slice (some ⟨w.heap.size, 0, none⟩) 0 1) ∧ w' = w.alloc (.cells #[.int .i64 0, .int .i64 0, .string ⟨#[]⟩, .slice none 0 0, .slice none 0 0] 25) := by
  have hmk := fun w => make_v 0 1 (by decide) (by decide) (by decide) w
  simp only [Int.toNat_zero, show (1 : Int).toNat = 1 from rfl, Nat.one_mul, made_v1] at hmk
  obtain ⟨i, hi, -, -, -⟩ := info_parts A25
  have hcp := fun w d a dCap sCap => copy_zero (P := Try.prog) w 23 3 25 i d a dCap sCap Try.underlying23 hi
  cases a
  all_goals
    go_enter Try.func55, Try.ntmps55
    go_wp2
    go_ret
    exact ⟨rfl, rfl⟩
set_option maxHeartbeats 1000000 in
set_option maxRecDepth 100000 in
theorem copied_s1 (b o c : Nat) (s : ByteArray) (w : World) (hs : w.cell? ⟨b, o, none⟩ = some (.string s)) : Calls Try.prog 56 #[.slice (some ⟨b, o, none⟩) 1 c] w fun e w' => e = .returned (.slice (some ⟨w.heap.size, 0, none⟩) 1 2) ∧ w' = w.alloc (.cells #[.string s, .string ⟨#[]⟩] 9) := by
  have hmk := fun w => make_s 1 2 (by decide) (by decide) (by decide) w
  simp only [show (1 : Int).toNat = 1 from rfl, show (2 : Int).toNat = 2 from rfl, made_s2] at hmk
  obtain ⟨i9, hi9, hz0, hz1, -⟩ := info_parts A9
  have hcp := copy_one (P := Try.prog) (w.alloc (.cells #[.string ⟨#[]⟩, .string ⟨#[]⟩] 9)) 22 3 9 i9 w.heap.size 2 ⟨b, o, none⟩ c _ 9 [.string s] Try.underlying22 hi9 (heap_alloc_new w _) (by rw [hz1]; rfl) (fun j v hj => by
    rcases j with _ | j
    · cases hj; rw [add_lit]; exact cell_alloc' hs _
    · simp at hj) (by simp) (one_string s)
  rw [World.setRow_alloc_new] at hcp
  simp at hcp
  go_enter Try.func56, Try.ntmps56
  go_wp2
  go_ret
  exact ⟨rfl, rfl⟩
set_option maxHeartbeats 1000000 in
set_option maxRecDepth 100000 in
theorem copied_v1 (b o c : Nat) (c0 c1 c2 c3 c4 : Value) (h1 : (c0.oneCell' && c1.oneCell' && c2.oneCell' && c3.oneCell' && c4.oneCell') = true) (w : World) (h : CellsAt w b o [c0, c1, c2, c3, c4]) : Calls Try.prog 55 #[.slice (some ⟨b, o, none⟩) 1 c] w fun e w' => e = .returned (.slice (some ⟨w.heap.size, 0, none⟩) 1 2) ∧ w' = w.alloc (.cells #[c0, c1, c2, c3, c4, .int .i64 0, .int .i64 0, .string ⟨#[]⟩, .slice none 0 0, .slice none 0 0] 25) := by
  have hmk := fun w => make_v 1 2 (by decide) (by decide) (by decide) w
  simp only [show (1 : Int).toNat = 1 from rfl, show (2 : Int).toNat = 2 from rfl, Nat.reduceMul, made_v2] at hmk
  obtain ⟨i, hi, hz0, hz1, -⟩ := info_parts A25
  have hcp := copy_one (P := Try.prog) (w.alloc (.cells #[.int .i64 0, .int .i64 0, .string ⟨#[]⟩, .slice none 0 0, .slice none 0 0, .int .i64 0, .int .i64 0, .string ⟨#[]⟩, .slice none 0 0, .slice none 0 0] 25)) 23 3 25 i w.heap.size 2 ⟨b, o, none⟩ c _ 25 [c0, c1, c2, c3, c4] Try.underlying23 hi (heap_alloc_new w _) (by rw [hz1]; rfl) (fun j v hj => by
    rw [add_lit]; exact cell_alloc' (h j v hj) _) (by simp) (by simpa [and_assoc] using h1)
  rw [World.setRow_alloc_new] at hcp
  simp at hcp
  go_enter Try.func55, Try.ntmps55
  go_wp2
  go_ret
  exact ⟨rfl, rfl⟩
set_option maxHeartbeats 1000000 in
set_option maxRecDepth 100000 in
theorem bare_obj (x : Int) (tx : ByteArray) (an : Option Addr) (n cn : Nat) (ai : Option Addr) (ci : Nat) (hn : n ≤ cn) (hi : n ≤ ci) (w : World) :
    Calls Try.prog 37 #[.agg #[.int .i64 6, .int .i64 x, .string tx, .slice an n cn, .slice ai n ci]] w fun e w' => e = .returned (.agg #[.int .i64 6, .int .i64 0, .string ⟨#[]⟩, .slice an n cn, .slice ai n ci]) ∧
      w' = ((w.alloc (.cells #[.int .i64 6, .int .i64 x, .string tx, .slice an n cn, .slice ai n ci] 25)).alloc (.cells #[.int .i64 6, .int .i64 0, .string ⟨#[]⟩, .slice an n cn, .slice ai n ci] 25)).drew := by
  go_enter Try.func37, Try.ntmps37
  go_wp2
  go_region
  go_wp2
  go_returns
  exact ⟨rfl, rfl⟩
set_option maxHeartbeats 2000000 in
set_option maxRecDepth 100000 in
theorem anew0 (x : Int) (tx : ByteArray) (an : Option Addr) (cn : Nat) (ai : Option Addr) (ci : Nat) (w : World) :
    Calls Try.prog 46 #[.agg #[.int .i64 6, .int .i64 x, .string tx, .slice an 0 cn, .slice ai 0 ci]] w fun e w' => e = .returned (.agg #[.int .i64 6, .int .i64 0, .string ⟨#[]⟩, .slice (some ⟨w.heap.size + 1 + 1 + 1 + 1 + 1, 0, none⟩) 0 1, .slice (some ⟨w.heap.size + 1 + 1 + 1 + 1, 0, none⟩) 0 1]) ∧ w' = ((((((w.alloc (.cells #[.int .i64 6, .int .i64 0, .string ⟨#[]⟩, .slice (some ⟨w.heap.size + 1 + 1 + 1 + 1 + 1, 0, none⟩) 0 1, .slice (some ⟨w.heap.size + 1 + 1 + 1 + 1, 0, none⟩) 0 1] 25)).alloc (.cells #[.int .i64 6, .int .i64 0, .string ⟨#[]⟩, .slice (some ⟨w.heap.size + 1 + 1 + 1 + 1 + 1, 0, none⟩) 0 1, .slice (some ⟨w.heap.size + 1 + 1 + 1 + 1, 0, none⟩) 0 1] 25)).alloc (.cells #[.int .i64 6, .int .i64 x, .string tx, .slice an 0 cn, .slice ai 0 ci] 25)).alloc (.cells #[.int .i64 6, .int .i64 0, .string ⟨#[]⟩, .slice an 0 cn, .slice ai 0 ci] 25)).alloc (.cells #[.int .i64 0, .int .i64 0, .string ⟨#[]⟩, .slice none 0 0, .slice none 0 0] 25)).alloc (.cells #[.string ⟨#[]⟩] 9)).drew := by
  go_enter Try.func46, Try.ntmps46
  go_wp2_with fail
  refine (bare_obj x tx an 0 cn ai ci (Nat.zero_le _) (Nat.zero_le _) _).mono ?_
  rintro e w1 ⟨rfl, rfl⟩
  go_wp2_with fail
  refine (copied_v0 ai ci _).mono ?_
  rintro e w1 ⟨rfl, rfl⟩
  go_wp2_with fail
  refine (copied_s0 an cn _).mono ?_
  rintro e w1 ⟨rfl, rfl⟩
  go_wp2_with fail
  go_returns
  exact ⟨rfl, rfl⟩
set_option maxHeartbeats 2000000 in
set_option maxRecDepth 100000 in
theorem anew1 (x : Int) (tx : ByteArray) (b o cn : Nat) (b2 o2 ci : Nat) (s : ByteArray) (c0 c1 c2 c3 c4 : Value) (h1 : (c0.oneCell' && c1.oneCell' && c2.oneCell' && c3.oneCell' && c4.oneCell') = true) (hcn : 1 ≤ cn) (hci : 1 ≤ ci) (w : World) (hs : w.cell? ⟨b, o, none⟩ = some (.string s)) (h : CellsAt w b2 o2 [c0, c1, c2, c3, c4]) :
    Calls Try.prog 46 #[.agg #[.int .i64 6, .int .i64 x, .string tx, .slice (some ⟨b, o, none⟩) 1 cn, .slice (some ⟨b2, o2, none⟩) 1 ci]] w fun e w' => e = .returned (.agg #[.int .i64 6, .int .i64 0, .string ⟨#[]⟩, .slice (some ⟨w.heap.size + 1 + 1 + 1 + 1 + 1, 0, none⟩) 1 2, .slice (some ⟨w.heap.size + 1 + 1 + 1 + 1, 0, none⟩) 1 2]) ∧ w' = ((((((w.alloc (.cells #[.int .i64 6, .int .i64 0, .string ⟨#[]⟩, .slice (some ⟨w.heap.size + 1 + 1 + 1 + 1 + 1, 0, none⟩) 1 2, .slice (some ⟨w.heap.size + 1 + 1 + 1 + 1, 0, none⟩) 1 2] 25)).alloc (.cells #[.int .i64 6, .int .i64 0, .string ⟨#[]⟩, .slice (some ⟨w.heap.size + 1 + 1 + 1 + 1 + 1, 0, none⟩) 1 2, .slice (some ⟨w.heap.size + 1 + 1 + 1 + 1, 0, none⟩) 1 2] 25)).alloc (.cells #[.int .i64 6, .int .i64 x, .string tx, .slice (some ⟨b, o, none⟩) 1 cn, .slice (some ⟨b2, o2, none⟩) 1 ci] 25)).alloc (.cells #[.int .i64 6, .int .i64 0, .string ⟨#[]⟩, .slice (some ⟨b, o, none⟩) 1 cn, .slice (some ⟨b2, o2, none⟩) 1 ci] 25)).alloc (.cells #[c0, c1, c2, c3, c4, .int .i64 0, .int .i64 0, .string ⟨#[]⟩, .slice none 0 0, .slice none 0 0] 25)).alloc (.cells #[.string s, .string ⟨#[]⟩] 9)).drew := by
  have hs' : ∀ o1 o2 o3 o4 o5, (((((w.alloc o1).alloc o2).alloc o3).alloc o4).alloc o5).drew.cell? ⟨b, o, none⟩ = some (.string s) := fun o1 o2 o3 o4 o5 => cell_alloc' (cell_alloc' (cell_alloc' (cell_alloc' (cell_alloc' hs _) _) _) _) _
  have h' : ∀ p1 p2 p3 p4, CellsAt ((((w.alloc p1).alloc p2).alloc p3).alloc p4).drew b2 o2 [c0, c1, c2, c3, c4] := fun p1 p2 p3 p4 j u hj => cell_alloc' (cell_alloc' (cell_alloc' (cell_alloc' (h j u hj) _) _) _) _
  go_enter Try.func46, Try.ntmps46
  go_wp2_with fail
  refine (bare_obj x tx _ 1 cn _ ci hcn hci _).mono ?_
  rintro e w1 ⟨rfl, rfl⟩
  go_wp2_with fail
  refine (copied_v1 b2 o2 ci c0 c1 c2 c3 c4 h1 _ (h' _ _ _ _)).mono ?_
  rintro e w1 ⟨rfl, rfl⟩
  go_wp2_with fail
  refine (copied_s1 b o cn s _ (hs' _ _ _ _ _)).mono ?_
  rintro e w1 ⟨rfl, rfl⟩
  go_wp2_with fail
  go_returns
  exact ⟨rfl, rfl⟩
end Go.Proofs.Ytbhjbicbgmeboaa
