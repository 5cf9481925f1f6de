import Derived.Test.YtgjemghfejaifaaGreatDoorTA
import Derived.Stop.Asserts
/-! schema: one rule of numbers, in a list: kept, broken, told. -/
namespace Go.Proofs.YtgjemghfejaifaaGreatDoor
open Go Go.RowKit

theorem block_keep {w wx : World} {g : Nat} {o : Obj} (h : w.heap[g]? = some o) (hb : Below w.heap.size w wx) : wx.heap[g]? = some o := (hb.block _ (Array.getElem?_eq_some_iff.1 h).1).trans h
def numU (x : Int) : V5 := ⟨3, x, ⟨#[]⟩, none, 0, 0, none, 0, 0⟩
/-- The rule minimum 1, alone in a list. -/
structure MinAt (w : World) (b o : Nat) : Prop where
  word : w.cell? ⟨b, o, none⟩ = some (.string wMinimum)
  rule : w.cell? ⟨b, o + 1, none⟩ = some (.iface 114 (boundI 1))
theorem MinAt.keep {w w' : World} {b o : Nat} (h : MinAt w b o) (hb : Below w.heap.size w w') : MinAt w' b o := ⟨stay hb h.word, stay hb h.rule⟩
set_option maxHeartbeats 2000000 in
set_option maxRecDepth 100000 in
theorem min_keeps (b o c : Nat) (x : Int) (w : World) (h : MinAt w b o) :
    Calls Tryz.prog 26 #[.slice (some ⟨b, o, none⟩) 1 c, (numU x).v] w fun e w' => e = .returned (.bool (decide (1 ≤ x))) ∧ Below w.heap.size w w' := by
  have hk := fun W => hid_of (bound_keeps 1 (numU x) W)
  have e0 : boundK 1 (numU x) = decide (1 ≤ x) := by by_cases h : 1 ≤ x <;> simp [boundK, numU, h]
  rw [e0] at hk
  obtain ⟨z, hz⟩ : ∃ z, Hid (decide (1 ≤ x) = z) := ⟨_, rfl⟩
  rw [hz.out] at hk ⊢
  have hb0 := (Below.refl _ w).alloc (Nat.le_refl _) ((numU x).obj 25)
  have hb1 := hid_of (hb0.alloc hb0.size (.cells #[.string wMinimum, .iface 114 (boundI 1)] 84))
  have m0 := stay hb0 h.word
  have m1 := stay hb0 h.rule
  unfold numU V5.v V5.obj boundI fnV wMinimum at *
  simp only at *
  go_enter Tryz.func26, Tryz.ntmps26
  go_wp2_with fail
  refine wp_loop_rounds 2 ?_
  rw [rounds_succ]
  go_wp2_with fail
  refine (hk _).out.mono ?_
  rintro e W ⟨rfl, hb⟩
  have hB := hid_of (hb1.out.trans (hb.mono hb1.out.size))
  clear hk hb m0 m1 hb0 hb1
  cases z with
  | true =>
    go_wp2_with fail
    rw [rounds_succ]
    go_wp2_with fail
    go_ret
    exact ⟨rfl, hB.out⟩
  | false =>
    go_wp2_with fail
    go_ret
    exact ⟨rfl, hB.out⟩
theorem as_bound (v : Value) (xT : TypeId) (w : World) : (Instr.typeAssert (.iface 114 v) xT 88 true).run Tryz.prog w = .ok (.tuple #[.nilIface, .bool false]) w := run_typeAssert_lacksB Tryz.underlying88 (by kernel_rfl) (by kernel_rfl) v xT w
theorem as_props (v : Value) (xT : TypeId) (w : World) : (Instr.typeAssert (.iface 105 v) xT 88 true).run Tryz.prog w = .ok (.tuple #[.iface 105 v, .bool true]) w := run_typeAssert_hasB Tryz.underlying88 (by kernel_rfl) v xT w
def breachV (p : Value) (s : ByteArray) : Value := .iface 62 (.agg #[p, .string s])
def breachC (p : Value) (s : ByteArray) : List PanicEntry := [{ v := breachV p s, recovered := false }]
set_option maxHeartbeats 2000000 in
set_option maxRecDepth 100000 in
theorem min_seek (b o c : Nat) (pa : Nat) (w : World) (h : MinAt w b o) :
    Calls Tryz.prog 24 #[.slice (some ⟨b, o, none⟩) 1 c, (numU 0).v, .pointer (some ⟨pa, 0, none⟩)] w fun e w' => e = .panicked (breachC (.pointer (some ⟨pa, 0, none⟩)) wMinimum) ∧ Below w.heap.size w w' := by
  have hk := fun W => hid_of (bound_keeps 1 (numU 0) W)
  have e0 : boundK 1 (numU 0) = false := by decide
  rw [e0] at hk
  have ta : ∀ w, (Instr.typeAssert (.iface 114 (boundI 1)) 78 88 true).run Tryz.prog w = .ok (.tuple #[.nilIface, .bool false]) w := fun w => as_bound _ _ w
  have hb0 := (Below.refl _ w).alloc (Nat.le_refl _) ((numU 0).obj 25)
  have hb1 := hid_of (hb0.alloc hb0.size (.cells #[.string wMinimum, .iface 114 (boundI 1)] 84))
  have m0 := stay hb0 h.word
  have m1 := stay hb0 h.rule
  have n1 := new2 w ((numU 0).obj 25) (.cells #[.string wMinimum, .iface 114 (boundI 1)] 84)
  unfold breachC breachV
  unfold numU V5.v V5.obj boundI fnV wMinimum at *
  simp only at *
  go_enter Tryz.func24, Tryz.ntmps24
  go_wp2_with fail
  refine wp_loop_rounds 2 ?_
  rw [rounds_succ]
  go_wp2_with fail
  refine (hk _).out.mono ?_
  rintro e W ⟨rfl, hb⟩
  have hB := hid_of (hb1.out.trans (hb.mono hb1.out.size))
  have q := block_keep n1 hb
  have q0 : W.cell? ⟨w.heap.size + 1, 0, none⟩ = some (.string ⟨#[109, 105, 110, 105, 109, 117, 109]⟩) := cell_of q 0
  clear hk hb m0 m1 hb0 hb1 q n1
  go_wp2_with fail
  exact ⟨rfl, rfl, hB.out⟩
end Go.Proofs.YtgjemghfejaifaaGreatDoor
