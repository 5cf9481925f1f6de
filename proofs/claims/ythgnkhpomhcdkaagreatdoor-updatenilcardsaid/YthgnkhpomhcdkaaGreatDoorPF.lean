import Derived.Test.YthgnkhpomhcdkaaGreatDoorPE
import Derived.Test.YthgnkhpomhcdkaaGreatDoorShelf3
import Derived.Deep.DeepHandedRow
import Derived.Test.YthgnkhpomhcdkaaGreatDoorRows
import Derived.Lib.LaidU8T
import Derived.Lib.LaidTab
import Derived.LaidLaws
import Derived.LaidHandle
import Derived.Lay
import Derived.KernelRfl
import Derived.ProofKit
import Derived.OpenShut
import Derived.MakeChecks
import Derived.SizedLaws
import Derived.Carry
import Derived.ChangeMaps5
import Derived.Stop.Joined
/-! update: what the listed variables give. -/
namespace Go.Proofs.YthgnkhpomhcdkaaGreatDoor
open Go Go.ChangeShapes Go.WideShapes Go.ChangeAt Go.RowKit

theorem own_knob : ownKnob Tryz.prog.godebug = none := by kernel_rfl
theorem first_eq : Rows.laid_unicode_utf8_first = Lib.firstData := by kernel_rfl
theorem accept_eq : Rows.laid_unicode_utf8_acceptRanges (H := Unit) = Lib.acceptData := by kernel_rfl
theorem xU8 : U8Extra Tryz.prog Tryz.laysV_ren := ⟨by kernel_rfl, by kernel_rfl, by kernel_rfl, by kernel_rfl, by kernel_rfl, by kernel_rfl, by kernel_rfl⟩
def plainL : List (String × DataW Unit) := Rows.updateNamesRow.laid.filter fun x => x.2.handleName?.isNone
theorem parts_laid {W : World} (h : laidMetH Tryz.prog Rows.updateNamesRow.laid W) : laidMet Tryz.prog plainL W ∧ handlesMet Tryz.prog [("errors.errorType", Rows.laid_errors_errorType)] W := h
theorem eT : Tryz.prog.globalNamed "errors.errorType" = some 0 := by kernel_rfl
theorem rT : (Tryz.prog.cutTypes.find? (·.1 == "internal/reflectlite.rtype")).map (·.2) = some 149 := by kernel_rfl
theorem oneRow : ((List.range Tryz.prog.types.size).filter fun t => Tryz.prog.rowNamed t [101, 114, 114, 111, 114]) = [44] := by kernel_rfl
theorem handle_of_laid {W : World} (h : handlesMet Tryz.prog [("errors.errorType", Rows.laid_errors_errorType)] W) : W.cell? ⟨0, 0, none⟩ = some (.iface 149 (.agg #[.pointer (some ⟨7, 44, none⟩)])) := by
  obtain ⟨name, u, ty, e1, e2, e3, e4, e5⟩ := h _ (List.mem_singleton.2 rfl)
  have en : name = [101, 114, 114, 111, 114] := (Option.some.inj e1).symm
  subst en
  obtain rfl := Option.some.inj (rT.symm.trans e2)
  have hm : ty ∈ (List.range Tryz.prog.types.size).filter fun t => Tryz.prog.rowNamed t [101, 114, 114, 111, 114] := List.mem_filter.2 ⟨List.mem_range.2 e3, e4⟩
  rw [oneRow] at hm
  obtain rfl := List.mem_singleton.1 hm
  have hh : typeHandle Tryz.prog 44 = .pointer (some ⟨7, 44, none⟩) := by kernel_rfl
  rw [hh] at e5
  simpa using World.var?_cell eT e5 0
theorem tabs_of {W : World} (h : laidMet Tryz.prog plainL W) : Lib.Utf8Tabs 2 3 W := by
  have r : ∀ {n : String} {d : DataW Unit}, (n, d) ∈ plainL → Lib.VarReads Tryz.prog W n d := fun hm => Lib.laidMet.reads h hm
  have e : plainL = [("math/bits.deBruijn32tab", Rows.laid_math_bits_deBruijn32tab), ("math/bits.deBruijn64tab", Rows.laid_math_bits_deBruijn64tab), ("internal/strconv.uint64pow10", Rows.laid_internal_strconv_uint64pow10), ("unicode/utf8.acceptRanges", Rows.laid_unicode_utf8_acceptRanges), ("unicode/utf8.first", Rows.laid_unicode_utf8_first)] := rfl
  have m6 : ("unicode/utf8.first", Rows.laid_unicode_utf8_first) ∈ plainL := by rw [e]; exact .tail _ (.tail _ (.tail _ (.tail _ (.head _))))
  have m3 : ("unicode/utf8.acceptRanges", Rows.laid_unicode_utf8_acceptRanges) ∈ plainL := by rw [e]; exact .tail _ (.tail _ (.tail _ (.head _)))
  have r6 := r m6
  have r3 := r m3
  rw [first_eq] at r6
  rw [accept_eq] at r3
  exact utf8Tabs_of_readsT (U8Types.of196 Tryz.laysV196) xU8 r6 r3
set_option maxRecDepth 100000 in
theorem max_of_shape {W : World} (h : W.ShapedOpen Tryz.prog) : ∃ m, W.cell? ⟨1, 0, none⟩ = some (.int .i64 m) := by
  have h0 : ((begin Tryz.prog (fun _ _ => 0) default).world.heap[1]?).bind Obj.row? = some (#[.int .i64 0], 3) := by kernel_rfl
  obtain ⟨cs, hh, hs, hr⟩ := h.1 _ _ _ (of_decide_eq_true (by kernel_rfl)) h0
  obtain ⟨ts, hts, -, hall⟩ := hr (by kernel_rfl)
  have hts2 : Tryz.prog.cellTypes Tryz.prog.depth 3 = some [3] := by kernel_rfl
  obtain rfl := Option.some.inj (hts2.symm.trans hts)
  have hc : 0 < cs.size := by rw [hs]; decide
  obtain ⟨u, hu, hk⟩ := hall 0 cs[0] (Array.getElem?_eq_getElem hc)
  have e : u = 3 := by simpa using hu.symm
  subst e
  unfold Cell.ok at hk
  rw [Tryz.underlying3] at hk
  generalize hv : cs[0] = v at hk
  cases v
  case int k' n =>
    obtain ⟨rfl, -⟩ := hk
    exact ⟨n, by simp [World.cell?, hh, hc, hv]⟩
  all_goals exact absurd hk (by simp)
set_option maxRecDepth 100000 in
theorem big_of_shape {W : World} (h : W.ShapedOpen Tryz.prog) : 4 ≤ W.heap.size := by
  have h0 : ((begin Tryz.prog (fun _ _ => 0) default).world.heap[6]?).bind Obj.row? = some (Array.replicate 64 (.int .u8 0), 332) := by kernel_rfl
  obtain ⟨cs, hh, -⟩ := h.1 _ _ _ (of_decide_eq_true (by kernel_rfl)) h0
  have := (Array.getElem?_eq_some_iff.1 hh).1
  omega
theorem env_of {W : World} (h : laidMetH Tryz.prog Rows.updateNamesRow.laid W) (hs : W.ShapedOpen Tryz.prog) : EnvU W := by
  have p := parts_laid h
  exact ⟨tabs_of p.1, max_of_shape hs, handle_of_laid p.2, big_of_shape hs⟩
end Go.Proofs.YthgnkhpomhcdkaaGreatDoor
