import Derived.Test.YthijpmomcompaaaDoorL2
import Derived.Test.YthijpmomcompaaaDoorU1
import Derived.Deep.RegionHeld3
/-! live: Bytes of the number one. -/
namespace Go.Proofs.YthijpmomcompaaaDoor
open Go Go.RowKit

set_option maxHeartbeats 4000000 in
set_option maxRecDepth 100000 in
theorem laid1 (w : World) :
    Calls Tryd.prog 40 #[.slice none 0 0, .agg #[.int .i64 3, .int .i64 1, .string ⟨#[]⟩, .slice none 0 0, .slice none 0 0]] w fun e w' => ∃ v', e = .returned v' ∧ w'.ownsRow w.heap.size 5 1 v' 9 (.int .u8 16 :: num1) ∧ Below w.heap.size w w' := by
  obtain ⟨i5, hi5, hz0, hz1, hz2⟩ := info_parts A5
  go_enter Tryd.func40, Tryd.ntmps40
  go_wp2_with fail
  have hc : (w.alloc (.cells #[.int .i64 3, .int .i64 1, .string ⟨#[]⟩, .slice none 0 0, .slice none 0 0] 31)).drew.cell? ⟨w.heap.size, 1, none⟩ = some (.int .i64 1) := box_cells (Below.refl _ _) 1
  have hB0 : Below w.heap.size w (w.alloc (.cells #[.int .i64 3, .int .i64 1, .string ⟨#[]⟩, .slice none 0 0, .slice none 0 0] 31)).drew := below_drew ((Below.refl _ w).alloc (Nat.le_refl _) _)
  have hsz0 : w.heap.size < (w.alloc (.cells #[.int .i64 3, .int .i64 1, .string ⟨#[]⟩, .slice none 0 0, .slice none 0 0] 31)).drew.heap.size := by simp
  generalize hX : (w.alloc (.cells #[.int .i64 3, .int .i64 1, .string ⟨#[]⟩, .slice none 0 0, .slice none 0 0] 31)).drew = X at hc hB0 hsz0
  refine wp_region_noPanic ?_
  refine Until.wp_region_U (fun w' => w'.cell? ⟨w.heap.size, 1, none⟩ = some (.int .i64 1)) (fun _ => True) 6 (by kernel_rfl) ?_
  rw [hX]
  clear hX
  refine Until.wpU_pure (i := 0) (oi := { dst := some 13, op := Op.move (Operand.tmp 0), type := 42, pos := "key.go:44", after := #[], guard := none }) (v := .slice none 0 0) rfl (by kernel_rfl) (by kernel_rfl) (by kernel_rfl) (by kernel_rfl) (by kernel_rfl) (fun _ _ _ h => h) (hc) (fun _ => trivial) (by rfl) (by intro w'; go_simp) ?_
  try simp only [Act.put, List.setIfInBounds_toArray, List.set_cons_zero, List.set_cons_succ]
  refine Until.wpU_pure (i := 3) (oi := { dst := some 16, op := Op.fieldAddr 31 (Operand.tmp 3) 1, type := 0, pos := "key.go:44", after := #[], guard := none }) (v := .pointer (some ⟨w.heap.size, 1, none⟩)) rfl (by kernel_rfl) (by kernel_rfl) (by kernel_rfl) (by kernel_rfl) (by kernel_rfl) (fun _ _ _ h => h) (hc) (fun _ => trivial) (by rfl) (by intro w'; go_simp) ?_
  try simp only [Act.put, List.setIfInBounds_toArray, List.set_cons_zero, List.set_cons_succ]
  refine Until.wpU_load0 (i := 4) (oi := { dst := some 17, op := Op.load 2 (Operand.tmp 16), type := 2, pos := "key.go:44", after := #[{ on := 3, ground := Ground.data }], guard := none }) (v := .int .i64 1) rfl (by kernel_rfl) (by kernel_rfl) (by kernel_rfl) (by kernel_rfl) (by kernel_rfl) (fun _ _ _ h => h) (hc) (fun _ => trivial) (by rfl) (by intro w' hw'; (try dsimp only at hw'); go_simp) ?_
  try simp only [Act.put, List.setIfInBounds_toArray, List.set_cons_zero, List.set_cons_succ]
  refine Until.wpU_ready (rs := [1]) (by kernel_rfl) (by simp) ?_
  refine (Until.AllU.cons (o := { dst := some 14, op := Op.buildSlice 42 1 #[(0, Operand.const (Value.int IntKind.u8 16))], type := 42, pos := "key.go:44", after := #[], guard := none }) rfl (fun K hK => ?_) Until.AllU.nil)
  go_simp
  refine hK.out _ _ (cell_alloc' hc _) (fun _ => trivial) ?_
  clear hK K
  try simp only [Act.put, List.setIfInBounds_toArray, List.set_cons_zero, List.set_cons_succ]
  refine Until.wpU_ready (rs := [2]) (by kernel_rfl) (by simp) ?_
  refine (Until.AllU.cons (o := { dst := some 15, op := Op.call { callee := Callee.builtin Builtin.append, args := #[Operand.tmp 13, Operand.tmp 14], argTypes := #[42, 42] }, type := 42, pos := "key.go:44", after := #[{ on := 0, ground := Ground.data }, { on := 1, ground := Ground.data }], guard := none }) rfl (fun K hK => ?_) Until.AllU.nil)
  refine step_append_lies _ (by rfl) _ _ 42 (by rfl) X.heap.size 5 i5 _ 1 1 Tryd.underlying42 hi5 hz0 hz1 hz2 (by rfl) (by omega) _ 0 [] (by rfl) (World.ownsRow_nil _ _ _ _) _ 1 1 [.int .u8 16] (by rfl) (by rfl) (World.news_of_block (heap_alloc_new X _)) (one_u8 _) (by omega) (by unfold maxLen; omega) (by omega) (by simp only [World.size_alloc]; omega) _ rfl ?_
  intro g cap w3 hown3 hgrow3 hat3 hlt3
  clear hat3
  replace hgrow3 : (X.alloc (.cells #[.int .u8 16] 5)).grownBy w3 none := hgrow3
  have hb3 : Below (X.alloc (.cells #[.int .u8 16] 5)).heap.size (X.alloc (.cells #[.int .u8 16] 5)) w3 := grown_below hgrow3 (Nat.le_refl _) (fun g hg => by cases hg)
  have hb3' : Below w.heap.size w w3 := (hB0.alloc (by omega) _).trans (hb3.mono (by simp only [World.size_alloc]; omega))
  have hc3 := stay hb3 (cell_alloc' hc (.cells #[.int .u8 16] 5))
  have hcall := hid_e (laidNumber1 X.heap.size _ _ _ w3 hown3 (by omega) (by have := hb3.size; simp only [World.size_alloc] at this; omega))
  refine hK.out _ _ hc3 (fun _ => trivial) ?_
  clear hK K
  try simp only [Act.put, List.setIfInBounds_toArray, List.set_cons_zero, List.set_cons_succ]
  refine Until.wpU_ready (rs := [5]) (by kernel_rfl) (by simp) ?_
  refine (Until.AllU.cons (o := { dst := some 18, op := Op.call { callee := Callee.value (Operand.func 50), args := #[Operand.tmp 15, Operand.tmp 17], argTypes := #[42, 2] }, type := 42, pos := "key.go:44", after := #[{ on := 2, ground := Ground.data }, { on := 4, ground := Ground.data }, { on := 2, ground := Ground.chain }], guard := none }) rfl (fun K hK => ?_) Until.AllU.nil)
  go_simp
  refine hcall.out.mono ?_
  rintro e w4 ⟨v', rfl, hown4, hb4⟩
  have hc4 : w4.cell? ⟨w.heap.size, 1, none⟩ = some (.int .i64 1) := (hb4.cell (p := ⟨w.heap.size, 1, none⟩) hsz0).trans hc3
  refine hK.out _ _ hc4 (fun _ => trivial) ?_
  clear hK K
  try simp only [Act.put, List.setIfInBounds_toArray, List.set_cons_zero, List.set_cons_succ]
  refine Until.wpU_ready (rs := [6]) (by kernel_rfl) (by simp) ?_
  refine (Until.AllU.cons (o := { dst := some 4, op := Op.assign (Operand.tmp 18), type := 42, pos := "key.go:44", after := #[{ on := 5, ground := Ground.data }, { on := 5, ground := Ground.chain }, { on := 0, ground := Ground.phase }, { on := 1, ground := Ground.phase }, { on := 2, ground := Ground.phase }, { on := 3, ground := Ground.phase }, { on := 4, ground := Ground.phase }, { on := 5, ground := Ground.phase }], guard := none }) rfl (fun K hK => ?_) Until.AllU.nil)
  go_simp
  refine hK.out _ _ hc4 (fun _ => trivial) ?_
  clear hK K
  try simp only [Act.put, List.setIfInBounds_toArray, List.set_cons_zero, List.set_cons_succ]
  refine Until.wpU_done (by kernel_rfl) ?_ _
  refine NoPanic.normal ?_
  go_wp2_with fail
  go_ret
  exact ⟨v', rfl, ownsRow_lo hown4 (by omega), hb3'.trans (hb4.mono (by omega))⟩

set_option maxHeartbeats 1000000 in
theorem bytes1 (w : World) :
    Calls Tryd.prog 24 #[.agg #[.int .i64 3, .int .i64 1, .string ⟨#[]⟩, .slice none 0 0, .slice none 0 0]] w fun e w' => ∃ v', e = .returned (.tuple #[v', .int .i64 0]) ∧ w'.ownsRow w.heap.size 5 1 v' 9 (.int .u8 16 :: num1) ∧ Below w.heap.size w w' := by
  go_enter Tryd.func24, Tryd.ntmps24
  go_wp2_with fail
  refine (check1 _).mono ?_
  rintro e w1 ⟨rfl, hb1⟩
  have z0 : w1.cell? ⟨w.heap.size, 0, none⟩ = some (.int .i64 3) := box_cells hb1 0
  have z1 : w1.cell? ⟨w.heap.size, 1, none⟩ = some (.int .i64 1) := box_cells hb1 1
  have z2 : w1.cell? ⟨w.heap.size, 2, none⟩ = some (.string ⟨#[]⟩) := box_cells hb1 2
  have z3 : w1.cell? ⟨w.heap.size, 3, none⟩ = some (.slice none 0 0) := box_cells hb1 3
  have z4 : w1.cell? ⟨w.heap.size, 4, none⟩ = some (.slice none 0 0) := box_cells hb1 4
  go_wp2_with fail
  refine (laid1 w1).mono ?_
  rintro e w2 ⟨v', rfl, hown, hb2⟩
  go_wp2_with fail
  go_ret2
  have hb : Below w.heap.size w w1 := below_box hb1
  exact ⟨v', rfl, ownsRow_lo hown hb.size, hb.trans (hb2.mono hb.size)⟩
end Go.Proofs.YthijpmomcompaaaDoor
