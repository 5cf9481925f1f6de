import Derived.Test.YtelbjecdbogpcaaGreatDoorD1
import Derived.Test.YtelbjecdbogpcaaGreatDoorV6
import Derived.Test.YtelbjecdbogpcaaGreatDoorRows
import Derived.Lib.LaidU8T
import Derived.Lib.LaidTab
import Derived.LaidLaws
import Derived.Lay
import Derived.KernelRfl
import Derived.ProofKit
import Derived.OpenShut
import Derived.MakeChecks
import Derived.SizedLaws
import Derived.Carry
import Derived.ChangeMaps5
/-! What the rows of stage 1 give. -/
namespace Go.Proofs.YtelbjecdbogpcaaGreatDoor
open Go Go.ChangeShapes Go.WideShapes Go.ChangeAt Go.RowKit
open Go.ChangeMaps (open_string)

theorem first_eq : Rows.laid_unicode_utf8_first = Lib.firstData := by kernel_rfl
theorem accept_eq : Rows.laid_unicode_utf8_acceptRanges (H := Unit) = Lib.acceptData := by kernel_rfl
theorem pow10_eq : Rows.laid_internal_strconv_uint64pow10 (H := Unit) = Lib.tabData .u64 Lib.pow10Tab := by kernel_rfl
theorem xU8 : U8Extra Tryz.prog Tryz.lays260_ren := ⟨by kernel_rfl, by kernel_rfl, by kernel_rfl, by kernel_rfl, by kernel_rfl, by kernel_rfl, by kernel_rfl⟩
theorem gSyn : Tryz.prog.globalNamed "strconv.ErrSyntax" = some 6 := by kernel_rfl
theorem gRng : Tryz.prog.globalNamed "strconv.ErrRange" = some 7 := by kernel_rfl
theorem gPow : Tryz.prog.globalNamed "internal/strconv.uint64pow10" = some 3 := by kernel_rfl
theorem tErr4 : (Tryz.prog.globals[6]?).map (·.type) = some 75 := by kernel_rfl
theorem tErr5 : (Tryz.prog.globals[7]?).map (·.type) = some 75 := by kernel_rfl
theorem tPow : (Tryz.prog.globals[3]?).map (·.type) = some 121 := by kernel_rfl
theorem err_reads {W : World} {n name : String} {g : Nat} {d : DataW Unit} (hg : Tryz.prog.globalNamed n = some g) (ht : (Tryz.prog.globals[g]?).map (·.type) = some 75) (h : Lib.VarReads Tryz.prog W n (.iface name d)) : ∃ tp p, W.cell? ⟨g, 0, none⟩ = some (.iface tp p) := by
  obtain ⟨g', t, cs, fuel, p, hg', hty, hvar, hd⟩ := h
  obtain rfl := Option.some.inj (hg.symm.trans hg')
  obtain rfl := Option.some.inj (ht.symm.trans hty)
  obtain ⟨_, u, v, hcs, _, _⟩ := iface_of_trod Tryz.underlying75 hd
  refine ⟨u, v, ?_⟩
  rw [World.var?_cell hg hvar 0, ← Array.getElem?_toList, hcs]
  rfl
theorem pow_reads {W : World} (h : Lib.VarReads Tryz.prog W "internal/strconv.uint64pow10" (Lib.tabData .u64 Lib.pow10Tab)) : Lib.TabIs Tryz.prog W "internal/strconv.uint64pow10" .u64 Lib.pow10Tab := by
  obtain ⟨g', t, cs, fuel, p, hg', hty, hvar, hd⟩ := h
  obtain rfl := Option.some.inj (gPow.symm.trans hg')
  obtain rfl := Option.some.inj (tPow.symm.trans hty)
  unfold Lib.TabIs
  rw [hvar, ← Lib.cells_of_tab Tryz.underlying121 Tryz.underlying84 (by kernel_rfl) (by kernel_rfl) hd]
/-- What the listed variables give the walks. -/
theorem env_of {W : World} (h : laidMet Tryz.prog Rows.jsonvalBackRow.laid W) : Env W ∧ EnvP W := by
  have r : ∀ {n : String} {d : DataW Unit}, (n, d) ∈ Rows.jsonvalBackRow.laid → Lib.VarReads Tryz.prog W n d := fun hm => Lib.laidMet.reads h hm
  have m5 : ("strconv.ErrSyntax", Rows.laid_strconv_ErrSyntax) ∈ Rows.jsonvalBackRow.laid := .tail _ (.tail _ (.tail _ (.tail _ (.tail _ (.head _)))))
  have m4 : ("strconv.ErrRange", Rows.laid_strconv_ErrRange) ∈ Rows.jsonvalBackRow.laid := .tail _ (.tail _ (.tail _ (.tail _ (.head _))))
  have m6 : ("unicode/utf8.first", Rows.laid_unicode_utf8_first) ∈ Rows.jsonvalBackRow.laid := .tail _ (.tail _ (.tail _ (.tail _ (.tail _ (.tail _ (.head _))))))
  have m3 : ("unicode/utf8.acceptRanges", Rows.laid_unicode_utf8_acceptRanges) ∈ Rows.jsonvalBackRow.laid := .tail _ (.tail _ (.tail _ (.head _)))
  have m2 : ("internal/strconv.uint64pow10", Rows.laid_internal_strconv_uint64pow10) ∈ Rows.jsonvalBackRow.laid := .tail _ (.tail _ (.head _))
  have r6 := r m6
  have r3 := r m3
  have r2 := r m2
  rw [first_eq] at r6
  rw [accept_eq] at r3
  rw [pow10_eq] at r2
  have hu := utf8Tabs_of_readsT (U8Types.of260 Tryz.lays260) xU8 r6 r3
  obtain ⟨tp, q, hrg⟩ := err_reads gRng tErr5 (r m4)
  have hbig : 8 ≤ W.heap.size := by
    have h7 := Tree.cell_lt hrg
    exact h7
  exact ⟨⟨err_reads gSyn tErr4 (r m5), ⟨tp, q, hrg⟩, hu⟩, ⟨hu, pow_reads r2, hbig⟩⟩
theorem own : ownKnob Tryz.prog.godebug = none := by kernel_rfl
theorem laid_out : laidOutB Tryz.prog = true := by kernel_rfl
theorem read_val : Tryz.prog.readableRec 25 = true := by kernel_rfl
set_option maxRecDepth 100000 in
theorem arg_val {H : Type} {enc : TypeId × Value → H} {W : World} {base : Nat} {v : Value} {d : DataW H} {p : List MemPlace} {ts : List TypeId} {ds : List (DataW H)} {j : Nat} (hok : Value.okWide Tryz.prog W .any base 25 v)
    (h : DataW.Trod enc Tryz.prog W 0 (fun _ => true) true 25 v d p) (hsz : (DataW.weightsEach Tryz.prog ts ds).all (· ≤ reachBytes) = true) (ht : ts[j]? = some 25) (hd : ds[j]? = some d) :
    ∃ k x s an ln cn ai li ci t, v = .agg #[.int .i64 k, .int .i64 x, .string s, .slice an ln cn, .slice ai li ci] ∧ Hid (Tree.VRep W t (Tree.five k x s (.slice an ln cn) (.slice ai li ci))) ∧ Hid (Tree.SmallT t) ∧ Hid (Tree.RangeT t) := by
  obtain ⟨cs, rfl, _⟩ := okWide_struct Tryz.underlying25 hok
  obtain ⟨fuel, hf⟩ := h
  obtain ⟨t, hV, hS, hR⟩ := Tree.open_range fuel _ _ hf (fun k hk => of_decide_eq_true (List.all_eq_true.1 hsz _ (DataW.weights_mem_each ht hd k hk)))
  obtain ⟨k, x, s, an, ln, cn, ai, li, ci, e⟩ := Tree.vrep_five hV
  refine ⟨k, x, s, an, ln, cn, ai, li, ci, t, ?_, by rw [← e]; exact hV, hS, hR⟩
  have : cs.toList = Tree.five k x s (.slice an ln cn) (.slice ai li ci) := e
  rw [show cs = cs.toList.toArray by simp, this]
  rfl
end Go.Proofs.YtelbjecdbogpcaaGreatDoor
