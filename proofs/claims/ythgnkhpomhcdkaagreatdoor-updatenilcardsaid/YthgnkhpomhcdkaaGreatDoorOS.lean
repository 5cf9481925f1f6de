import Derived.Test.YthgnkhpomhcdkaaGreatDoorUO
import Derived.Test.YthgnkhpomhcdkaaGreatDoorV2
/-! errors.As at *fault, of an error that is located: one turn by Unwrap, then the fault is set. -/
namespace Go.Proofs.YthgnkhpomhcdkaaGreatDoor
open Go Go.RowKit Go.Extern.Stop Go.Stop Go.Extern

theorem methodKind (h : Value) (w : World) : (Go.method 459 149 (.agg #[h]) "Kind").run Tryz.prog w = .ok (350, h) w := by kernel_rfl
theorem methodElem (h : Value) (w : World) : (Go.method 459 149 (.agg #[h]) "Elem").run Tryz.prog w = .ok (367, .agg #[h]) w := by kernel_rfl
theorem methodImplements (h : Value) (w : World) : (Go.method 459 149 (.agg #[h]) "Implements").run Tryz.prog w = .ok (368, .agg #[h]) w := by kernel_rfl
theorem methodAssignable (h : Value) (w : World) : (Go.method 459 149 (.agg #[h]) "AssignableTo").run Tryz.prog w = .ok (365, .agg #[h]) w := by kernel_rfl
theorem methodUnwrap (v : Value) (w : World) : (Go.method 459 66 v "Unwrap").run Tryz.prog w = .ok (354, v) w := by kernel_rfl
/-- (Value).Set: the fault variable at ta gets what the Value's own variable b holds. -/
theorem setE (ta b : Addr) (z : Int) (old : Value) (W : World) (hb : W.cell? b = some (.int .i64 z)) (ht : W.cell? ta = some old) (hf : W.frozen? ta = false) :
    (ReflectliteValue.set #[.agg #[.pointer (some ⟨7, 69, none⟩), .pointer (some ta), .int .u64 386], .agg #[.pointer (some ⟨7, 69, none⟩), .pointer (some b), .int .u64 130]]).run Tryz.prog W
      = .ok (.tuple #[]) (W.setCell ta (.int .i64 z)) := by
  change Sem.run Tryz.prog (ReflectliteValue.parts (.agg #[.pointer (some ⟨7, 69, none⟩), .pointer (some ta), .int .u64 386]) >>= fun y => ReflectliteValue.parts (.agg #[.pointer (some ⟨7, 69, none⟩), .pointer (some b), .int .u64 130]) >>= (_ : Option (TypeId × Addr × Nat) → Sem Value)) W = _
  simp only [Sem.run_bind, partsEa, partsE, Result.andThen]
  simp [ReflectliteValue.flagAddr, loadVar, isAgg, underlying, Tryz.underlying69, hb, Result.andThen, directE, storeVar, Value.cells, storeCells, Addr.add]
  rw [run_store Tryz.prog W ta _ _ (by rfl)]
  simp [ht, hf]
theorem unwrap_any (c : Value) (i : Int) (w : World) : Calls Tryz.prog 354 #[.agg #[c, .int .i64 i]] w fun e w' => e = .returned c ∧ Below w.heap.size w w' := by
  go_enter Tryz.func354, Tryz.ntmps354
  go_wp2_with fail
  go_ret
  exact ⟨rfl, (Below.refl _ w).alloc (Nat.le_refl _) _⟩
end Go.Proofs.YthgnkhpomhcdkaaGreatDoor
/-! errors.As at *fault, of an error that is located: Unwrap, then the fault is set. -/
namespace Go.Proofs.YthgnkhpomhcdkaaGreatDoor
open Go Go.RowKit Go.Extern.Stop Go.Stop Go.Extern

set_option maxHeartbeats 4000000 in
set_option maxRecDepth 100000 in
theorem as_fault (z i : Int) (t : Addr) (old : Value) (w : World) (hg : w.cell? ⟨0, 0, none⟩ = some (.iface 149 (.agg #[.pointer (some ⟨7, 44, none⟩)]))) (ht0 : w.cell? t = some old) (hf0 : w.frozen? t = false) :
    Calls Tryz.prog 29 #[.iface 66 (.agg #[.iface 69 (.int .i64 z), .int .i64 i]), .iface 72 (.pointer (some t))] w fun ev w' => ev = .returned (.bool true) ∧ w' = World.setCell (World.alloc ((((w.alloc (.cells #[.pointer (some t)] 72)).alloc (.cells #[.pointer (some ⟨7, 72, none⟩), .pointer (some ⟨w.heap.size, 0, none⟩), .int .u64 150] 101)).alloc (.cells #[.pointer (some ⟨7, 72, none⟩), .pointer (some ⟨w.heap.size, 0, none⟩), .int .u64 150] 101)).alloc (.cells #[.iface 69 (.int .i64 z), .int .i64 i] 66)) (.cells #[.int .i64 z] 69)) t (.int .i64 z) := by
  have h63 := @run_callFunc_extern Tryz.prog 63 _ (fun args => ReflectliteValue.unpack (args.getD 0 (.tuple #[]))) Tryz.func63 (by kernel_rfl) (by kernel_rfl) (by kernel_rfl) (by kernel_rfl)
  have h64 := @run_callFunc_extern Tryz.prog 64 _ (ReflectliteValue.methodAny (ReflectliteValue.valueError "reflectlite.Value.Type" 0) (fun t _ _ _ => ReflectliteType.toType t)) Tryz.func64 (by kernel_rfl) (by kernel_rfl) (by kernel_rfl) (by kernel_rfl)
  have h65 := @run_callFunc_extern Tryz.prog 65 _ (ReflectliteValue.method (ReflectliteValue.valueError "reflectlite.Value.IsNil" 0) ReflectliteValue.isNil) Tryz.func65 (by kernel_rfl) (by kernel_rfl) (by kernel_rfl) (by kernel_rfl)
  have hK := @run_callFunc_extern Tryz.prog 350 _ (ReflectliteType.abiMethod fun t => do pure (.int .u8 (← Rtype.kind t))) Tryz.func350 (by kernel_rfl) (by kernel_rfl) (by kernel_rfl) (by kernel_rfl)
  have hE := @run_callFunc_extern Tryz.prog 367 _ (ReflectliteType.method ReflectliteType.elem) Tryz.func367 (by kernel_rfl) (by kernel_rfl) (by kernel_rfl) (by kernel_rfl)
  have hI := @run_callFunc_extern Tryz.prog 368 _ (ReflectliteType.relation "Implements" ReflectliteType.implements_) Tryz.func368 (by kernel_rfl) (by kernel_rfl) (by kernel_rfl) (by kernel_rfl)
  have hT := @run_callFunc_extern Tryz.prog 113 _ ReflectliteType.typeOf Tryz.func113 (by kernel_rfl) (by kernel_rfl) (by kernel_rfl) (by kernel_rfl)
  have hA := @run_callFunc_extern Tryz.prog 365 _ (ReflectliteType.relation "AssignableTo" ReflectliteType.assignableTo) Tryz.func365 (by kernel_rfl) (by kernel_rfl) (by kernel_rfl) (by kernel_rfl)
  have hV := @run_callFunc_extern Tryz.prog 114 _ (ReflectliteValue.method (ReflectliteValue.valueError "reflectlite.Value.Elem" 0) ReflectliteValue.elem) Tryz.func114 (by kernel_rfl) (by kernel_rfl) (by kernel_rfl) (by kernel_rfl)
  have hS := @run_callFunc_extern Tryz.prog 115 _ ReflectliteValue.set Tryz.func115 (by kernel_rfl) (by kernel_rfl) (by kernel_rfl) (by kernel_rfl)
  have e1 := valueOfF; have e2 := typeF; have e3 := methodKind; have e4 := methodElem; have e5 := methodImplements; have e6 := methodAssignable; have e7 := kindF; have e8 := kindE; have e9 := elemF; have e10 := implementsE; have e11 := typeOfL; have e12 := typeOfE; have e13 := assignableEE; have e14 := assignableLE; have e15 := valueOfE; have e16 := typeAsNo; have e17 := typeUnwrap; have e18 := methodUnwrap
  have n8 := isNilF ⟨w.heap.size, 0, none⟩ t ((w.alloc (.cells #[.pointer (some t)] 72)).alloc (.cells #[.pointer (some ⟨7, 72, none⟩), .pointer (some ⟨w.heap.size, 0, none⟩), .int .u64 150] 101)) (by simp)
  have hlt : 0 < w.heap.size := lt_of_cell hg
  have hg2 : ((w.alloc (.cells #[.pointer (some t)] 72)).alloc (.cells #[.pointer (some ⟨7, 72, none⟩), .pointer (some ⟨w.heap.size, 0, none⟩), .int .u64 150] 101)).cell? ⟨0, 0, none⟩ = some (.iface 149 (.agg #[.pointer (some ⟨7, 44, none⟩)])) := cell_alloc' (cell_alloc' hg _) _
  have htl : t.block < w.heap.size := lt_of_cell ht0
  have cA : (w.alloc (.cells #[.pointer (some t)] 72)).cell? ⟨w.heap.size, 0, none⟩ = some (.pointer (some t)) := by simp
  have el := elemVF ⟨w.heap.size, 0, none⟩ t ((((w.alloc (.cells #[.pointer (some t)] 72)).alloc (.cells #[.pointer (some ⟨7, 72, none⟩), .pointer (some ⟨w.heap.size, 0, none⟩), .int .u64 150] 101)).alloc (.cells #[.pointer (some ⟨7, 72, none⟩), .pointer (some ⟨w.heap.size, 0, none⟩), .int .u64 150] 101)).alloc (.cells #[.iface 69 (.int .i64 z), .int .i64 i] 66)) (cell_alloc' (cell_alloc' (cell_alloc' cA _) _) _)
  have st := setE t ⟨w.heap.size + 1 + 1 + 1 + 1, 0, none⟩ z old (World.alloc ((((w.alloc (.cells #[.pointer (some t)] 72)).alloc (.cells #[.pointer (some ⟨7, 72, none⟩), .pointer (some ⟨w.heap.size, 0, none⟩), .int .u64 150] 101)).alloc (.cells #[.pointer (some ⟨7, 72, none⟩), .pointer (some ⟨w.heap.size, 0, none⟩), .int .u64 150] 101)).alloc (.cells #[.iface 69 (.int .i64 z), .int .i64 i] 66)) (.cells #[.int .i64 z] 69))
    (by rw [World.cell?_alloc_at _ _ _ _ (by simp)]; rfl) (cell_alloc' (cell_alloc' (cell_alloc' (cell_alloc' (cell_alloc' ht0 _) _) _) _) _)
    (by rw [World.frozen?_alloc_old _ _ t (by simp; omega), World.frozen?_alloc_old _ _ t (by simp; omega), World.frozen?_alloc_old _ _ t (by simp; omega), World.frozen?_alloc_old _ _ t (by simp; omega), World.frozen?_alloc_old _ _ t (Nat.ne_of_lt htl)]; exact hf0)
  go_enter Tryz.func29, Tryz.ntmps29
  go_wp2
  refine wp_loop_rounds 2 ?_
  rw [rounds_succ]
  go_wp2
  rw [rounds_succ]
  go_wp2
  go_ret
  exact ⟨rfl, rfl⟩
end Go.Proofs.YthgnkhpomhcdkaaGreatDoor
/-! errors.As at *located: it hits at once. -/
namespace Go.Proofs.YthgnkhpomhcdkaaGreatDoor
open Go Go.RowKit Go.Extern.Stop Go.Stop Go.Extern

theorem typeL (a : Addr) (w : World) : (ReflectliteValue.methodAny (ReflectliteValue.valueError "reflectlite.Value.Type" 0) (fun t _ _ _ => ReflectliteType.toType t) #[.agg #[.pointer (some ⟨7, 73, none⟩), .pointer (some a), .int .u64 150]]).run Tryz.prog w
    = .ok (.iface 149 (.agg #[.pointer (some ⟨7, 73, none⟩)])) w := by kernel_rfl
theorem kindL (w : World) : ((ReflectliteType.abiMethod fun t => (fun a : Nat => Value.int IntKind.u8 (a : Int)) <$> Rtype.kind t) #[.pointer (some ⟨7, 73, none⟩)]).run Tryz.prog w = .ok (.int .u8 22) w := by kernel_rfl
theorem kindLoc (w : World) : ((ReflectliteType.abiMethod fun t => (fun a : Nat => Value.int IntKind.u8 (a : Int)) <$> Rtype.kind t) #[.pointer (some ⟨7, 66, none⟩)]).run Tryz.prog w = .ok (.int .u8 25) w := by kernel_rfl
theorem elemL (w : World) : (ReflectliteType.method ReflectliteType.elem #[.agg #[.pointer (some ⟨7, 73, none⟩)]]).run Tryz.prog w = .ok (.iface 149 (.agg #[.pointer (some ⟨7, 66, none⟩)])) w := by kernel_rfl
theorem valueOfLoc (c : Value) (i : Int) (w : World) : (ReflectliteValue.unpack (.iface 66 (.agg #[c, .int .i64 i]))).run Tryz.prog w
    = .ok (.agg #[.pointer (some ⟨7, 66, none⟩), .pointer (some ⟨w.heap.size, 0, none⟩), .int .u64 153]) (w.alloc (.cells #[c, .int .i64 i] 66)) := by kernel_rfl
theorem partsL (a : Addr) (w : World) : (ReflectliteValue.parts (.agg #[.pointer (some ⟨7, 73, none⟩), .pointer (some a), .int .u64 150])).run Tryz.prog w = .ok (some (73, a, 150)) w := by kernel_rfl
theorem isNilL (a p : Addr) (W : World) (ha : W.cell? a = some (.pointer (some p))) :
    (ReflectliteValue.method (ReflectliteValue.valueError "reflectlite.Value.IsNil" 0) ReflectliteValue.isNil #[.agg #[.pointer (some ⟨7, 73, none⟩), .pointer (some a), .int .u64 150]]).run Tryz.prog W = .ok (.bool false) W := by
  change Sem.run Tryz.prog (ReflectliteValue.parts (.agg #[.pointer (some ⟨7, 73, none⟩), .pointer (some a), .int .u64 150]) >>= _) W = _
  simp only [Sem.run_bind, partsL, Result.andThen]
  simp [ReflectliteValue.isNil, loadVar, isAgg, underlying, Tryz.underlying73, ha, Result.andThen]
theorem elemOfL (w : World) : (Rtype.elem? 73).run Tryz.prog w = .ok (some 66) w := by kernel_rfl
theorem mkL (p : Addr) (w : World) : (ReflectliteValue.mk 66 p ReflectliteValue.flagAddr).run Tryz.prog w = .ok (.agg #[.pointer (some ⟨7, 66, none⟩), .pointer (some p), .int .u64 409]) w := by kernel_rfl
theorem elemVL (a p : Addr) (W : World) (ha : W.cell? a = some (.pointer (some p))) :
    (ReflectliteValue.method (ReflectliteValue.valueError "reflectlite.Value.Elem" 0) ReflectliteValue.elem #[.agg #[.pointer (some ⟨7, 73, none⟩), .pointer (some a), .int .u64 150]]).run Tryz.prog W
      = .ok (.agg #[.pointer (some ⟨7, 66, none⟩), .pointer (some p), .int .u64 409]) W := by
  change Sem.run Tryz.prog (ReflectliteValue.parts (.agg #[.pointer (some ⟨7, 73, none⟩), .pointer (some a), .int .u64 150]) >>= _) W = _
  simp only [Sem.run_bind, partsL, Result.andThen]
  simp [ReflectliteValue.elem, loadVar, isAgg, underlying, Tryz.underlying73, ha, Result.andThen, elemOfL, mkL]
theorem partsLa (a : Addr) (w : World) : (ReflectliteValue.parts (.agg #[.pointer (some ⟨7, 66, none⟩), .pointer (some a), .int .u64 409])).run Tryz.prog w = .ok (some (66, a, 409)) w := by kernel_rfl
theorem partsLb (a : Addr) (w : World) : (ReflectliteValue.parts (.agg #[.pointer (some ⟨7, 66, none⟩), .pointer (some a), .int .u64 153])).run Tryz.prog w = .ok (some (66, a, 153)) w := by kernel_rfl
theorem directL (w : World) : (Rtype.directlyAssignable 66 66).run Tryz.prog w = .ok true w := by kernel_rfl
theorem aggL (w : World) : (isAgg 66).run Tryz.prog w = .ok true w := by kernel_rfl
theorem sizeL (w : World) : (sizeOf 66).run Tryz.prog w = .ok 2 w := by kernel_rfl
theorem loadL (b : Nat) (c0 c1 : Value) (W : World) (hb0 : W.cell? ⟨b, 0, none⟩ = some c0) (hb1 : W.cell? ⟨b, 1, none⟩ = some c1) : (loadVar 66 ⟨b, 0, none⟩).run Tryz.prog W = .ok (.agg #[c0, c1]) W := by
  unfold loadVar
  simp only [Sem.run_bind, aggL, Result.andThen, if_true, sizeL]
  simp [loadCells, go_sem, add_off, hb0, hb1, Result.andThen]
theorem storeL (g : Nat) (c0 c1 o0 o1 : Value) (W : World) (h0 : c0.oneCell' = true) (h1 : c1.oneCell' = true) (ht0 : W.cell? ⟨g, 0, none⟩ = some o0) (ht1 : W.cell? ⟨g, 1, none⟩ = some o1) (hf0 : W.frozen? ⟨g, 0, none⟩ = false) (hf1 : W.frozen? ⟨g, 1, none⟩ = false) :
    (storeVar 66 ⟨g, 0, none⟩ (.agg #[c0, c1])).run Tryz.prog W = .ok () ((W.setCell ⟨g, 0, none⟩ c0).setCell ⟨g, 1, none⟩ c1) := by
  have e1 : (W.setCell ⟨g, 0, none⟩ c0).cell? ⟨g, 1, none⟩ = some o1 := (World.cell?_setCell_other W ⟨g, 0, none⟩ ⟨g, 1, none⟩ _ (by simp)).trans ht1
  have e2 : (W.setCell ⟨g, 0, none⟩ c0).frozen? ⟨g, 1, none⟩ = false := by simp [hf1]
  unfold storeVar
  simp only [Sem.run_bind, Result.andThen, sizeL]
  rw [if_neg (show ¬ ((Value.agg #[c0, c1]).cells.size ≠ 2) from fun h => h rfl)]
  change Sem.run Tryz.prog (store ((⟨g, 0, none⟩ : Addr).add 0) c0 >>= fun _ => store ((⟨g, 0, none⟩ : Addr).add 1) c1 >>= fun _ => pure ()) W = _
  rw [add_off, add_off]
  simp only [Sem.run_bind]
  rw [run_store Tryz.prog W ⟨g, 0 + 0, none⟩ _ _ h0, show (0 : Nat) + 0 = 0 from rfl, ht0]
  simp only [hf0, Result.andThen]
  rw [if_neg (by decide)]
  simp only
  rw [run_store Tryz.prog _ ⟨g, 0 + 1, none⟩ _ _ h1, show (0 : Nat) + 1 = 1 from rfl, e1]
  simp only [e2]
  rw [if_neg (by decide)]
  rfl
/-- (Value).Set: the located variable at block g gets what the Value's own variable at block b holds. -/
theorem setL (g b : Nat) (z i : Int) (o0 o1 : Value) (W : World) (hb0 : W.cell? ⟨b, 0, none⟩ = some (.iface 69 (.int .i64 z))) (hb1 : W.cell? ⟨b, 1, none⟩ = some (.int .i64 i)) (ht0 : W.cell? ⟨g, 0, none⟩ = some o0) (ht1 : W.cell? ⟨g, 1, none⟩ = some o1) (hf0 : W.frozen? ⟨g, 0, none⟩ = false) (hf1 : W.frozen? ⟨g, 1, none⟩ = false) :
    (ReflectliteValue.set #[.agg #[.pointer (some ⟨7, 66, none⟩), .pointer (some ⟨g, 0, none⟩), .int .u64 409], .agg #[.pointer (some ⟨7, 66, none⟩), .pointer (some ⟨b, 0, none⟩), .int .u64 153]]).run Tryz.prog W
      = .ok (.tuple #[]) ((W.setCell ⟨g, 0, none⟩ (.iface 69 (.int .i64 z))).setCell ⟨g, 1, none⟩ (.int .i64 i)) := by
  have hl := loadL b _ _ W hb0 hb1
  have hs := storeL g (.iface 69 (.int .i64 z)) (.int .i64 i) o0 o1 W (by rfl) (by rfl) ht0 ht1 hf0 hf1
  change Sem.run Tryz.prog (ReflectliteValue.parts (.agg #[.pointer (some ⟨7, 66, none⟩), .pointer (some ⟨g, 0, none⟩), .int .u64 409]) >>= fun y => ReflectliteValue.parts (.agg #[.pointer (some ⟨7, 66, none⟩), .pointer (some ⟨b, 0, none⟩), .int .u64 153]) >>= (_ : Option (TypeId × Addr × Nat) → Sem Value)) W = _
  simp only [Sem.run_bind, partsLa, partsLb, Result.andThen]
  simp [ReflectliteValue.flagAddr, hl, Result.andThen, directL, hs]
end Go.Proofs.YthgnkhpomhcdkaaGreatDoor
/-! errors.As at *located. -/
namespace Go.Proofs.YthgnkhpomhcdkaaGreatDoor
open Go Go.RowKit Go.Extern.Stop Go.Stop Go.Extern

set_option maxHeartbeats 4000000 in
set_option maxRecDepth 100000 in
theorem as_located (z i : Int) (t : Nat) (o0 o1 : Value) (w : World) (hg : w.cell? ⟨0, 0, none⟩ = some (.iface 149 (.agg #[.pointer (some ⟨7, 44, none⟩)]))) (ht0 : w.cell? ⟨t, 0, none⟩ = some o0) (ht1 : w.cell? ⟨t, 1, none⟩ = some o1) (hf0 : w.frozen? ⟨t, 0, none⟩ = false) (hf1 : w.frozen? ⟨t, 1, none⟩ = false) :
    Calls Tryz.prog 29 #[.iface 66 (.agg #[.iface 69 (.int .i64 z), .int .i64 i]), .iface 73 (.pointer (some ⟨t, 0, none⟩))] w fun ev w' => ev = .returned (.bool true) ∧ w' = ((World.alloc (((w.alloc (.cells #[.pointer (some ⟨t, 0, none⟩)] 73)).alloc (.cells #[.pointer (some ⟨7, 73, none⟩), .pointer (some ⟨w.heap.size, 0, none⟩), .int .u64 150] 101)).alloc (.cells #[.pointer (some ⟨7, 73, none⟩), .pointer (some ⟨w.heap.size, 0, none⟩), .int .u64 150] 101)) (.cells #[.iface 69 (.int .i64 z), .int .i64 i] 66)).setCell ⟨t, 0, none⟩ (.iface 69 (.int .i64 z))).setCell ⟨t, 1, none⟩ (.int .i64 i) := by
  have h63 := @run_callFunc_extern Tryz.prog 63 _ (fun args => ReflectliteValue.unpack (args.getD 0 (.tuple #[]))) Tryz.func63 (by kernel_rfl) (by kernel_rfl) (by kernel_rfl) (by kernel_rfl)
  have h64 := @run_callFunc_extern Tryz.prog 64 _ (ReflectliteValue.methodAny (ReflectliteValue.valueError "reflectlite.Value.Type" 0) (fun t _ _ _ => ReflectliteType.toType t)) Tryz.func64 (by kernel_rfl) (by kernel_rfl) (by kernel_rfl) (by kernel_rfl)
  have h65 := @run_callFunc_extern Tryz.prog 65 _ (ReflectliteValue.method (ReflectliteValue.valueError "reflectlite.Value.IsNil" 0) ReflectliteValue.isNil) Tryz.func65 (by kernel_rfl) (by kernel_rfl) (by kernel_rfl) (by kernel_rfl)
  have hK := @run_callFunc_extern Tryz.prog 350 _ (ReflectliteType.abiMethod fun t => do pure (.int .u8 (← Rtype.kind t))) Tryz.func350 (by kernel_rfl) (by kernel_rfl) (by kernel_rfl) (by kernel_rfl)
  have hE := @run_callFunc_extern Tryz.prog 367 _ (ReflectliteType.method ReflectliteType.elem) Tryz.func367 (by kernel_rfl) (by kernel_rfl) (by kernel_rfl) (by kernel_rfl)
  have hI := @run_callFunc_extern Tryz.prog 368 _ (ReflectliteType.relation "Implements" ReflectliteType.implements_) Tryz.func368 (by kernel_rfl) (by kernel_rfl) (by kernel_rfl) (by kernel_rfl)
  have hT := @run_callFunc_extern Tryz.prog 113 _ ReflectliteType.typeOf Tryz.func113 (by kernel_rfl) (by kernel_rfl) (by kernel_rfl) (by kernel_rfl)
  have hA := @run_callFunc_extern Tryz.prog 365 _ (ReflectliteType.relation "AssignableTo" ReflectliteType.assignableTo) Tryz.func365 (by kernel_rfl) (by kernel_rfl) (by kernel_rfl) (by kernel_rfl)
  have hV := @run_callFunc_extern Tryz.prog 114 _ (ReflectliteValue.method (ReflectliteValue.valueError "reflectlite.Value.Elem" 0) ReflectliteValue.elem) Tryz.func114 (by kernel_rfl) (by kernel_rfl) (by kernel_rfl) (by kernel_rfl)
  have hS := @run_callFunc_extern Tryz.prog 115 _ ReflectliteValue.set Tryz.func115 (by kernel_rfl) (by kernel_rfl) (by kernel_rfl) (by kernel_rfl)
  have e1 := valueOfL; have e2 := typeL; have e3 := methodKind; have e4 := methodElem; have e5 := methodImplements; have e6 := methodAssignable; have e7 := kindL; have e8 := kindLoc; have e9 := elemL; have e10 := implementsL; have e11 := typeOfL; have e13 := assignableLL; have e15 := valueOfLoc
  have n8 := isNilL ⟨w.heap.size, 0, none⟩ ⟨t, 0, none⟩ ((w.alloc (.cells #[.pointer (some ⟨t, 0, none⟩)] 73)).alloc (.cells #[.pointer (some ⟨7, 73, none⟩), .pointer (some ⟨w.heap.size, 0, none⟩), .int .u64 150] 101)) (by simp)
  have hlt : 0 < w.heap.size := lt_of_cell hg
  have hg2 : ((w.alloc (.cells #[.pointer (some ⟨t, 0, none⟩)] 73)).alloc (.cells #[.pointer (some ⟨7, 73, none⟩), .pointer (some ⟨w.heap.size, 0, none⟩), .int .u64 150] 101)).cell? ⟨0, 0, none⟩ = some (.iface 149 (.agg #[.pointer (some ⟨7, 44, none⟩)])) := cell_alloc' (cell_alloc' hg _) _
  have htl : t < w.heap.size := lt_of_cell ht0
  have cA : (w.alloc (.cells #[.pointer (some ⟨t, 0, none⟩)] 73)).cell? ⟨w.heap.size, 0, none⟩ = some (.pointer (some ⟨t, 0, none⟩)) := by simp
  have el := elemVL ⟨w.heap.size, 0, none⟩ ⟨t, 0, none⟩ (((w.alloc (.cells #[.pointer (some ⟨t, 0, none⟩)] 73)).alloc (.cells #[.pointer (some ⟨7, 73, none⟩), .pointer (some ⟨w.heap.size, 0, none⟩), .int .u64 150] 101)).alloc (.cells #[.pointer (some ⟨7, 73, none⟩), .pointer (some ⟨w.heap.size, 0, none⟩), .int .u64 150] 101)) (cell_alloc' (cell_alloc' cA _) _)
  have fz : ∀ j, w.frozen? ⟨t, j, none⟩ = false → (World.alloc (((w.alloc (.cells #[.pointer (some ⟨t, 0, none⟩)] 73)).alloc (.cells #[.pointer (some ⟨7, 73, none⟩), .pointer (some ⟨w.heap.size, 0, none⟩), .int .u64 150] 101)).alloc (.cells #[.pointer (some ⟨7, 73, none⟩), .pointer (some ⟨w.heap.size, 0, none⟩), .int .u64 150] 101)) (.cells #[.iface 69 (.int .i64 z), .int .i64 i] 66)).frozen? ⟨t, j, none⟩ = false := fun j h => by
    rw [World.frozen?_alloc_old _ _ ⟨t, j, none⟩ (by simp; omega), World.frozen?_alloc_old _ _ ⟨t, j, none⟩ (by simp; omega), World.frozen?_alloc_old _ _ ⟨t, j, none⟩ (by simp; omega), World.frozen?_alloc_old _ _ ⟨t, j, none⟩ (by simp; omega)]; exact h
  have st := setL t (w.heap.size + 1 + 1 + 1) z i o0 o1 (World.alloc (((w.alloc (.cells #[.pointer (some ⟨t, 0, none⟩)] 73)).alloc (.cells #[.pointer (some ⟨7, 73, none⟩), .pointer (some ⟨w.heap.size, 0, none⟩), .int .u64 150] 101)).alloc (.cells #[.pointer (some ⟨7, 73, none⟩), .pointer (some ⟨w.heap.size, 0, none⟩), .int .u64 150] 101)) (.cells #[.iface 69 (.int .i64 z), .int .i64 i] 66))
    (by rw [World.cell?_alloc_at _ _ _ _ (by simp)]; rfl) (by rw [World.cell?_alloc_at _ _ _ _ (by simp)]; rfl) (cell_alloc' (cell_alloc' (cell_alloc' (cell_alloc' ht0 _) _) _) _) (cell_alloc' (cell_alloc' (cell_alloc' (cell_alloc' ht1 _) _) _) _)
    (fz 0 hf0) (fz 1 hf1)
  clear fz
  go_enter Tryz.func29, Tryz.ntmps29
  go_wp2
  refine wp_loop_rounds 1 ?_
  rw [rounds_succ]
  go_wp2
  go_ret
  exact ⟨rfl, rfl⟩
end Go.Proofs.YthgnkhpomhcdkaaGreatDoor
