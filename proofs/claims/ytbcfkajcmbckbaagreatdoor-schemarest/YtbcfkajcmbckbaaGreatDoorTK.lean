import Derived.Test.YtbcfkajcmbckbaaGreatDoorTJ
import Derived.Test.YtbcfkajcmbckbaaGreatDoorShelf3
import Derived.Test.YtbcfkajcmbckbaaGreatDoorRows
import Derived.Deep.DeepHandedRow
import Derived.Lib.LaidU8T
import Derived.Lib.LaidTab
import Derived.LaidLaws
import Derived.Lay
import Derived.KernelRfl
import Derived.ProofKit
import Derived.OpenShut
import Derived.MakeChecks
import Derived.SizedLaws
import Derived.Carry
import Derived.ChangeMaps5
/-! What the rows of stage 21 give. -/
namespace Go.Proofs.YtbcfkajcmbckbaaGreatDoor
open Go Go.ChangeShapes Go.WideShapes Go.ChangeAt Go.RowKit

theorem own_knob : ownKnob Tryz.prog.godebug = none := by kernel_rfl
theorem first_eq : Rows.laid_unicode_utf8_first = Lib.firstData := by kernel_rfl
theorem accept_eq : Rows.laid_unicode_utf8_acceptRanges (H := Unit) = Lib.acceptData := by kernel_rfl
theorem xU8 : U8Extra Tryz.prog Tryz.laysV_ren := ⟨by kernel_rfl, by kernel_rfl, by kernel_rfl, by kernel_rfl, by kernel_rfl, by kernel_rfl, by kernel_rfl⟩
/-- An array of texts that reads so holds them, cell for cell. -/
theorem cells_of_texts {H : Type} {enc : TypeId × Value → H} {P : Program} {w : World} {base : Nat} {sp : Nat → Bool} {held : Bool} {fuel : Nat} {t e : TypeId} {n : Nat} {cs : List Value} {zs : List ByteArray} {p : List MemPlace}
    (ht : P.underlying t = some (.array n e)) (he : P.underlying e = some .string) (hce : P.cellsOf e = 1) (hct : P.cellsOf t = n)
    (h : DataW.trod enc P w base sp held fuel t cs = some (.agg (zs.map fun z => DataW.lit (.string z.data.toList)), p)) : cs = zs.map fun z => Value.string z := by
  cases fuel with
  | zero => simp [DataW.trod] at h
  | succ fuel =>
    simp only [DataW.trod, ht, hce, hct, Nat.mul_one] at h
    split at h
    · rename_i hl
      obtain ⟨xs, hm, hx⟩ := Option.map_eq_some_iff.1 h
      have hxs : xs.map (·.1) = zs.map fun z => (DataW.lit (.string z.data.toList) : DataW H) := by
        have := congrArg Prod.fst hx
        simpa using this
      have hxl : xs.length = n := by simpa using Lib.mapM_length hm
      have hzl : zs.length = n := by
        have := congrArg List.length hxs
        simp at this
        omega
      apply List.ext_getElem?
      intro i
      by_cases hi : i < n
      · obtain ⟨b, hb, hf⟩ := Lib.mapM_at hm i i (by simp [hi])
        obtain ⟨z, hc, rfl, _⟩ := DataW.trod_string he hf
        have h1 : cs[i]? = some (.string z) := by
          have := congrArg (·[0]?) hc
          simpa [List.getElem?_take, List.getElem?_drop] using this
        have h2 : (xs.map (·.1))[i]? = some (DataW.lit (.string z.data.toList) : DataW H) := by simp [hb]
        rw [hxs] at h2
        simp only [List.getElem?_map, Option.map_eq_some_iff, DataW.lit.injEq, Lit.string.injEq] at h2
        obtain ⟨z', hz', hzz⟩ := h2
        have : z' = z := ByteArray.ext (Array.toList_inj.1 hzz)
        simp [h1, hz', this]
      · rw [List.getElem?_eq_none (by omega), List.getElem?_eq_none (by simp; omega)]
    · cases h
theorem gTys : Tryz.prog.globalNamed "docket/schema.typeNames" = some 0 := by kernel_rfl
theorem tTys : (Tryz.prog.globals[0]?).map (·.type) = some 131 := by kernel_rfl
theorem tys_eq : Rows.laid_docket_schema_typeNames (H := Unit) = .agg (tys.map fun z => DataW.lit (.string z.data.toList)) := by kernel_rfl
theorem tys_reads {W : World} (h : Lib.VarReads Tryz.prog W "docket/schema.typeNames" (Rows.laid_docket_schema_typeNames (H := Unit))) : TysAt W := by
  rw [tys_eq] at h
  obtain ⟨g', t, cs, fuel, p, hg', hty, hvar, hd⟩ := h
  obtain rfl := Option.some.inj (gTys.symm.trans hg')
  obtain rfl := Option.some.inj (tTys.symm.trans hty)
  have hc := cells_of_texts Tryz.underlying131 Tryz.underlying9 (by kernel_rfl) (by kernel_rfl) hd
  intro q hq
  rw [World.var?_cell gTys hvar q, ← Array.getElem?_toList, hc, List.getElem?_map, tyAt_get hq]
  rfl
theorem env_of {W : World} {l : List (String × DataW Unit)} (h : laidMet Tryz.prog l W) (m1 : ("unicode/utf8.first", Rows.laid_unicode_utf8_first) ∈ l) (m2 : ("unicode/utf8.acceptRanges", Rows.laid_unicode_utf8_acceptRanges) ∈ l) (m3 : ("docket/schema.typeNames", Rows.laid_docket_schema_typeNames) ∈ l) : EnvL W := by
  have r : ∀ {n : String} {d : DataW Unit}, (n, d) ∈ l → Lib.VarReads Tryz.prog W n d := fun hm => Lib.laidMet.reads h hm
  have r6 := r m1
  have r3 := r m2
  rw [first_eq] at r6
  rw [accept_eq] at r3
  have hU := utf8Tabs_of_readsT (U8Types.of196 Tryz.laysV196) xU8 r6 r3
  exact ⟨hU, tys_reads (r m3), lt_of_cell (hU.2 0 (by decide)).1⟩
end Go.Proofs.YtbcfkajcmbckbaaGreatDoor
