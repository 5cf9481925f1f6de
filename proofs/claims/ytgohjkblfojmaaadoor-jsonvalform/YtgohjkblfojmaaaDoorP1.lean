import Derived.Test.YtgohjkblfojmaaaDoorW26
import Derived.Test.YtgohjkblfojmaaaDoorRows
import Derived.Lib.LaidU8T
import Derived.Lib.LaidTab
import Derived.LaidLaws
import Derived.Lay
import Derived.KernelRfl
import Derived.ProofKit
import Derived.OpenShut
import Derived.MakeChecks
namespace Go.Proofs.YtgohjkblfojmaaaDoor
open Go Go.ChangeShapes Go.WideShapes Go.ChangeAt Go.RowKit

theorem first_eq : Rows.laid_unicode_utf8_first = Lib.firstData := by kernel_rfl
theorem accept_eq : Rows.laid_unicode_utf8_acceptRanges (H := Unit) = Lib.acceptData := by kernel_rfl
theorem pow10_eq : Rows.laid_internal_strconv_uint64pow10 (H := Unit) = Lib.tabData .u64 Lib.pow10Tab := by kernel_rfl
theorem xU8 : U8Extra Tryd.prog Tryd.lays260_ren := ⟨by kernel_rfl, by kernel_rfl, by kernel_rfl, by kernel_rfl, by kernel_rfl, by kernel_rfl, by kernel_rfl⟩
theorem gSyn : Tryd.prog.globalNamed "strconv.ErrSyntax" = some 4 := by kernel_rfl
theorem gRng : Tryd.prog.globalNamed "strconv.ErrRange" = some 5 := by kernel_rfl
theorem gPow : Tryd.prog.globalNamed "internal/strconv.uint64pow10" = some 3 := by kernel_rfl
theorem gBits : Tryd.prog.globalNamed "math/bits.deBruijn64tab" = some 7 := by kernel_rfl
theorem tErr4 : (Tryd.prog.globals[4]?).map (·.type) = some 57 := by kernel_rfl
theorem tErr5 : (Tryd.prog.globals[5]?).map (·.type) = some 57 := by kernel_rfl
theorem tPow : (Tryd.prog.globals[3]?).map (·.type) = some 106 := by kernel_rfl
theorem tBits : (Tryd.prog.globals[7]?).map (·.type) = some 125 := by kernel_rfl
theorem c125 : Tryd.prog.cellsOf 125 = 64 := by kernel_rfl
def litZ : DataW Unit → Int
  | .lit (.int _ z) => z
  | _ => 0
def partsZ : DataW Unit → List Int
  | .agg l => l.map litZ
  | _ => []
theorem bits_eq : Rows.laid_math_bits_deBruijn64tab (H := Unit) = Lib.tabData .u8 (partsZ Rows.laid_math_bits_deBruijn64tab) := by kernel_rfl
theorem bits_len : (partsZ Rows.laid_math_bits_deBruijn64tab).length = 64 := by kernel_rfl

theorem err_reads {W : World} {n name : String} {g : Nat} {d : DataW Unit} (hg : Tryd.prog.globalNamed n = some g) (ht : (Tryd.prog.globals[g]?).map (·.type) = some 57) (h : Lib.VarReads Tryd.prog W n (.iface name d)) : ∃ tp p, W.cell? ⟨g, 0, none⟩ = some (.iface tp p) := by
  obtain ⟨g', t, cs, fuel, p, hg', hty, hvar, hd⟩ := h
  obtain rfl := Option.some.inj (hg.symm.trans hg')
  obtain rfl := Option.some.inj (ht.symm.trans hty)
  obtain ⟨_, u, v, hcs, _, _⟩ := iface_of_trod Tryd.underlying57 hd
  refine ⟨u, v, ?_⟩
  rw [World.var?_cell hg hvar 0, ← Array.getElem?_toList, hcs]
  rfl
theorem pow_reads {W : World} (h : Lib.VarReads Tryd.prog W "internal/strconv.uint64pow10" (Lib.tabData .u64 Lib.pow10Tab)) : Lib.TabIs Tryd.prog W "internal/strconv.uint64pow10" .u64 Lib.pow10Tab := by
  obtain ⟨g', t, cs, fuel, p, hg', hty, hvar, hd⟩ := h
  obtain rfl := Option.some.inj (gPow.symm.trans hg')
  obtain rfl := Option.some.inj (tPow.symm.trans hty)
  unfold Lib.TabIs
  rw [hvar, ← Lib.cells_of_tab Tryd.underlying106 Tryd.underlying86 (by kernel_rfl) (by kernel_rfl) hd]
theorem big_reads {W : World} (h : Lib.VarReads Tryd.prog W "math/bits.deBruijn64tab" Rows.laid_math_bits_deBruijn64tab) : 8 ≤ W.heap.size := by
  rw [bits_eq] at h
  have hl := bits_len
  generalize partsZ Rows.laid_math_bits_deBruijn64tab = zs at h hl
  obtain ⟨g', t, cs, fuel, p, hg', hty, hvar, hd⟩ := h
  obtain rfl := Option.some.inj (gBits.symm.trans hg')
  obtain rfl := Option.some.inj (tBits.symm.trans hty)
  have hcs := Lib.cells_of_tab Tryd.underlying125 Tryd.underlying5 (by kernel_rfl) (by kernel_rfl) hd
  have h0 := World.var?_cell gBits hvar 0
  rw [← Array.getElem?_toList, hcs, List.getElem?_map] at h0
  have hz0 : zs[0]? = some (zs[0]'(by omega)) := List.getElem?_eq_getElem (by omega)
  rw [hz0] at h0
  unfold World.cell? at h0
  split at h0
  · next hx => have := (Array.getElem?_eq_some_iff.1 hx).1; simp only at this; omega
  · cases h0
/-- What the listed variables give the walks. -/
theorem env_of {W : World} (h : laidMet Tryd.prog Rows.jsonvalNamesRow.laid W) : Env W ∧ EnvP W := by
  have r : ∀ {n : String} {d : DataW Unit}, (n, d) ∈ Rows.jsonvalNamesRow.laid → Lib.VarReads Tryd.prog W n d := fun hm => Lib.laidMet.reads h hm
  have m5 : ("strconv.ErrSyntax", Rows.laid_strconv_ErrSyntax) ∈ Rows.jsonvalNamesRow.laid := .tail _ (.tail _ (.tail _ (.tail _ (.tail _ (.head _)))))
  have m4 : ("strconv.ErrRange", Rows.laid_strconv_ErrRange) ∈ Rows.jsonvalNamesRow.laid := .tail _ (.tail _ (.tail _ (.tail _ (.head _))))
  have m6 : ("unicode/utf8.first", Rows.laid_unicode_utf8_first) ∈ Rows.jsonvalNamesRow.laid := .tail _ (.tail _ (.tail _ (.tail _ (.tail _ (.tail _ (.head _))))))
  have m3 : ("unicode/utf8.acceptRanges", Rows.laid_unicode_utf8_acceptRanges) ∈ Rows.jsonvalNamesRow.laid := .tail _ (.tail _ (.tail _ (.head _)))
  have m2 : ("internal/strconv.uint64pow10", Rows.laid_internal_strconv_uint64pow10) ∈ Rows.jsonvalNamesRow.laid := .tail _ (.tail _ (.head _))
  have m1 : ("math/bits.deBruijn64tab", Rows.laid_math_bits_deBruijn64tab) ∈ Rows.jsonvalNamesRow.laid := .tail _ (.head _)
  have r6 := r m6
  have r3 := r m3
  have r2 := r m2
  rw [first_eq] at r6
  rw [accept_eq] at r3
  rw [pow10_eq] at r2
  have hu := utf8Tabs_of_readsT (U8Types.of260 Tryd.lays260) xU8 r6 r3
  exact ⟨⟨err_reads gSyn tErr4 (r m5), err_reads gRng tErr5 (r m4), hu⟩, ⟨hu, pow_reads r2, big_reads (r m1)⟩⟩

theorem own : ownKnob Tryd.prog.godebug = none := by kernel_rfl
set_option maxRecDepth 100000 in
theorem lifted (os : Os) (started : os.Started) (H : Type) (enc : TypeId × Value → H) :
    ReturnsInHanded {} Tryd.checked os 3 .any (fun w args => (Rows.jsonvalNamesSpec.pre enc Tryd.prog Tryd.f3 [] false w args ∧ laidMetH Tryd.prog Rows.jsonvalNamesRow.laid w) ∧ sizedMet enc Tryd.prog Tryd.f3 (OpenSpec.ofChange Rows.jsonvalNamesSpec) false w args)
      (Rows.jsonvalNamesSpec.post enc Tryd.prog Tryd.f3 false true false false) := by
  refine returnsInHanded_of_change_and (C := Tryd.checked) (X := fun w _ => laidMetH Tryd.prog Rows.jsonvalNamesRow.laid w) (fun _ _ _ hh h => h.of_heap hh) own started (by kernel_rfl) Tryd.func3
    (ChangeSpec.witness_shaped (enc := enc) (C := Tryd.checked) (os := os) (X := fun w _ => laidMetH Tryd.prog Rows.jsonvalNamesRow.laid w) false (World.laidAll Tryd.prog os Rows.jsonvalNamesRow.laid) #[] 8 (World.laidAll_os _ _ _)
      (World.shaped_of_ZipB (by kernel_rfl) (by kernel_rfl)) (by kernel_rfl) (by kernel_rfl) (by kernel_rfl)
      (by rw [MakeChecks.laidMetH_plain _ _ _ (by kernel_rfl)]; exact laidMet_laidAll _ (by kernel_rfl) (by kernel_rfl))) ?_
  intro W base args ds gs before hval0 hW _ _ hL _
  have hW' := hW
  obtain ⟨p, q, hA0, hV, rfl, _, _⟩ := hW
  have hA : DataW.TrodAll enc Tryd.prog W 0 (fun _ => true) true Tryd.f3.params.toList args.toList ds p := hA0
  rw [Tryd.params3] at hA
  obtain ⟨rfl, rfl, rfl⟩ := trodAll_none hA
  obtain ⟨rfl, rfl⟩ := trodVars_none hV
  simp only [List.append_nil] at hW'
  rw [MakeChecks.laidMetH_plain _ _ _ (by kernel_rfl)] at hL
  obtain ⟨hE, hP⟩ := env_of hL
  refine (names_true W hE hP).mono fun e W' ⟨he, hb⟩ => ?_
  subst he
  exact ⟨_, rfl, _, _, _, [], [], [], hW', trodAll_mk1 (shut_bool Tryd.underlying4 _), rfl, rfl, hb.frame _, fun h => by cases h⟩

theorem names_holds : Rows.JsonvalNamesSaid :=
  OpenClaim.holds_of_wide 3 Tryd.f3 rfl rfl rfl rfl rfl rfl rfl ⟨rfl, rfl, rfl, rfl, rfl⟩ rfl rfl rfl rfl rfl (by kernel_rfl) Tryd.func3 (by kernel_rfl)
    (of_decide_eq_true (by kernel_rfl)) (by unfold Func.isWrapper; first | (rw [if_pos (by decide +kernel)]; kernel_rfl) | (rw [if_neg (by decide +kernel)]; exact ⟨rfl, rfl⟩))
    (fun os started H enc _ => lifted os started H enc)
end Go.Proofs.YtgohjkblfojmaaaDoor
