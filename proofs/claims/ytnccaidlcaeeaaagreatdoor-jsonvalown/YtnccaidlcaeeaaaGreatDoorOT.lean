import Derived.Test.YtnccaidlcaeeaaaGreatDoorOQ
import Derived.Test.YtnccaidlcaeeaaaGreatDoorRows
import Derived.Lib.LaidU8T
import Derived.Lib.LaidTab
import Derived.LaidLaws
import Derived.Lay
import Derived.KernelRfl
import Derived.ProofKit
import Derived.OpenShut
import Derived.MakeChecks
import Derived.SizedLaws
import Derived.Carry
import Derived.ChangeMaps5
import Derived.Test.YtnccaidlcaeeaaaGreatDoorTie
import Derived.Test.YtnccaidlcaeeaaaGreatDoorCards
import Derived.SevenTiedAt
/-! The row JsonvalOwn. -/
namespace Go.Proofs.YtnccaidlcaeeaaaGreatDoor
open Go Go.ChangeShapes Go.WideShapes Go.ChangeAt Go.RowKit
open Go.ChangeMaps (open_string shut_string)

theorem first_eq : Rows.laid_unicode_utf8_first = Lib.firstData := by kernel_rfl
theorem accept_eq : Rows.laid_unicode_utf8_acceptRanges (H := Unit) = Lib.acceptData := by kernel_rfl
theorem pow10_eq : Rows.laid_internal_strconv_uint64pow10 (H := Unit) = Lib.tabData .u64 Lib.pow10Tab := by kernel_rfl
theorem xU8 : U8Extra Tryz.prog Tryz.lays260_ren := ⟨by kernel_rfl, by kernel_rfl, by kernel_rfl, by kernel_rfl, by kernel_rfl, by kernel_rfl, by kernel_rfl⟩
theorem gSyn : Tryz.prog.globalNamed "strconv.ErrSyntax" = some 4 := by kernel_rfl
theorem gRng : Tryz.prog.globalNamed "strconv.ErrRange" = some 5 := by kernel_rfl
theorem gPow : Tryz.prog.globalNamed "internal/strconv.uint64pow10" = some 3 := by kernel_rfl
theorem gBits : Tryz.prog.globalNamed "math/bits.deBruijn64tab" = some 7 := by kernel_rfl
theorem tErr4 : (Tryz.prog.globals[4]?).map (·.type) = some 79 := by kernel_rfl
theorem tErr5 : (Tryz.prog.globals[5]?).map (·.type) = some 79 := by kernel_rfl
theorem tPow : (Tryz.prog.globals[3]?).map (·.type) = some 129 := by kernel_rfl
theorem tBits : (Tryz.prog.globals[7]?).map (·.type) = some 147 := by kernel_rfl
theorem c125 : Tryz.prog.cellsOf 147 = 64 := by kernel_rfl
def litZ : DataW Unit → Int
  | .lit (.int _ z) => z
  | _ => 0
def partsZ : DataW Unit → List Int
  | .agg l => l.map litZ
  | _ => []
theorem bits_eq : Rows.laid_math_bits_deBruijn64tab (H := Unit) = Lib.tabData .u8 (partsZ Rows.laid_math_bits_deBruijn64tab) := by kernel_rfl
theorem bits_len : (partsZ Rows.laid_math_bits_deBruijn64tab).length = 64 := by kernel_rfl

theorem err_reads {W : World} {n name : String} {g : Nat} {d : DataW Unit} (hg : Tryz.prog.globalNamed n = some g) (ht : (Tryz.prog.globals[g]?).map (·.type) = some 79) (h : Lib.VarReads Tryz.prog W n (.iface name d)) : ∃ tp p, W.cell? ⟨g, 0, none⟩ = some (.iface tp p) := by
  obtain ⟨g', t, cs, fuel, p, hg', hty, hvar, hd⟩ := h
  obtain rfl := Option.some.inj (hg.symm.trans hg')
  obtain rfl := Option.some.inj (ht.symm.trans hty)
  obtain ⟨_, u, v, hcs, _, _⟩ := iface_of_trod Tryz.underlying79 hd
  refine ⟨u, v, ?_⟩
  rw [World.var?_cell hg hvar 0, ← Array.getElem?_toList, hcs]
  rfl
theorem pow_reads {W : World} (h : Lib.VarReads Tryz.prog W "internal/strconv.uint64pow10" (Lib.tabData .u64 Lib.pow10Tab)) : Lib.TabIs Tryz.prog W "internal/strconv.uint64pow10" .u64 Lib.pow10Tab := by
  obtain ⟨g', t, cs, fuel, p, hg', hty, hvar, hd⟩ := h
  obtain rfl := Option.some.inj (gPow.symm.trans hg')
  obtain rfl := Option.some.inj (tPow.symm.trans hty)
  unfold Lib.TabIs
  rw [hvar, ← Lib.cells_of_tab Tryz.underlying129 Tryz.underlying58 (by kernel_rfl) (by kernel_rfl) hd]
theorem big_reads {W : World} (h : Lib.VarReads Tryz.prog W "math/bits.deBruijn64tab" Rows.laid_math_bits_deBruijn64tab) : 8 ≤ W.heap.size := by
  rw [bits_eq] at h
  have hl := bits_len
  generalize partsZ Rows.laid_math_bits_deBruijn64tab = zs at h hl
  obtain ⟨g', t, cs, fuel, p, hg', hty, hvar, hd⟩ := h
  obtain rfl := Option.some.inj (gBits.symm.trans hg')
  obtain rfl := Option.some.inj (tBits.symm.trans hty)
  have hcs := Lib.cells_of_tab Tryz.underlying147 Tryz.underlying5 (by kernel_rfl) (by kernel_rfl) hd
  have h0 := World.var?_cell gBits hvar 0
  rw [← Array.getElem?_toList, hcs, List.getElem?_map] at h0
  have hz0 : zs[0]? = some (zs[0]'(by omega)) := List.getElem?_eq_getElem (by omega)
  rw [hz0] at h0
  unfold World.cell? at h0
  split at h0
  · next hx => have := (Array.getElem?_eq_some_iff.1 hx).1; simp only at this; omega
  · cases h0
/-- What the listed variables give the walks. -/
theorem env_of {W : World} (h : laidMet Tryz.prog Rows.jsonvalOwnRow.laid W) : Env W ∧ EnvP W := by
  have r : ∀ {n : String} {d : DataW Unit}, (n, d) ∈ Rows.jsonvalOwnRow.laid → Lib.VarReads Tryz.prog W n d := fun hm => Lib.laidMet.reads h hm
  have m5 : ("strconv.ErrSyntax", Rows.laid_strconv_ErrSyntax) ∈ Rows.jsonvalOwnRow.laid := .tail _ (.tail _ (.tail _ (.tail _ (.tail _ (.head _)))))
  have m4 : ("strconv.ErrRange", Rows.laid_strconv_ErrRange) ∈ Rows.jsonvalOwnRow.laid := .tail _ (.tail _ (.tail _ (.tail _ (.head _))))
  have m6 : ("unicode/utf8.first", Rows.laid_unicode_utf8_first) ∈ Rows.jsonvalOwnRow.laid := .tail _ (.tail _ (.tail _ (.tail _ (.tail _ (.tail _ (.head _))))))
  have m3 : ("unicode/utf8.acceptRanges", Rows.laid_unicode_utf8_acceptRanges) ∈ Rows.jsonvalOwnRow.laid := .tail _ (.tail _ (.tail _ (.head _)))
  have m2 : ("internal/strconv.uint64pow10", Rows.laid_internal_strconv_uint64pow10) ∈ Rows.jsonvalOwnRow.laid := .tail _ (.tail _ (.head _))
  have m1 : ("math/bits.deBruijn64tab", Rows.laid_math_bits_deBruijn64tab) ∈ Rows.jsonvalOwnRow.laid := .tail _ (.head _)
  have r6 := r m6
  have r3 := r m3
  have r2 := r m2
  rw [first_eq] at r6
  rw [accept_eq] at r3
  rw [pow10_eq] at r2
  have hu := utf8Tabs_of_readsT (U8Types.of260 Tryz.lays260) xU8 r6 r3
  exact ⟨⟨err_reads gSyn tErr4 (r m5), err_reads gRng tErr5 (r m4), hu⟩, ⟨hu, pow_reads r2, big_reads (r m1)⟩⟩

theorem own : ownKnob Tryz.prog.godebug = none := by kernel_rfl
set_option maxRecDepth 100000 in
theorem jown_lifted (os : Os) (started : os.Started) (H : Type) (enc : TypeId × Value → H) :
    ReturnsInHanded {} Tryz.checked os 4 .any (fun w args => (Rows.jsonvalOwnSpec.pre enc Tryz.prog Tryz.f4 [] false w args ∧ laidMetH Tryz.prog Rows.jsonvalOwnRow.laid w) ∧ sizedMet enc Tryz.prog Tryz.f4 (OpenSpec.ofChange Rows.jsonvalOwnSpec) false w args)
      (Rows.jsonvalOwnSpec.post enc Tryz.prog Tryz.f4 false true false false) := by
  refine returnsInHanded_of_change_and (C := Tryz.checked) (X := fun w _ => laidMetH Tryz.prog Rows.jsonvalOwnRow.laid w) (fun _ _ _ hh h => h.of_heap hh) own started (by kernel_rfl) Tryz.func4
    (ChangeSpec.witness_shaped (enc := enc) (C := Tryz.checked) (os := os) (X := fun w _ => laidMetH Tryz.prog Rows.jsonvalOwnRow.laid w) false (World.laidAll Tryz.prog os Rows.jsonvalOwnRow.laid) #[.string ⟨#[]⟩] 8 (World.laidAll_os _ _ _)
      (World.shaped_of_ZipB (by kernel_rfl) (by kernel_rfl)) (by kernel_rfl) (by kernel_rfl) (by kernel_rfl)
      (by rw [MakeChecks.laidMetH_plain _ _ _ (by kernel_rfl)]; exact laidMet_laidAll _ (by kernel_rfl) (by kernel_rfl))) ?_
  intro W base args ds gs before hval0 hW _ _ hL _
  have hval : ∀ (j : Nat) t v, Tryz.f4.params[j]? = some t → args[j]? = some v → Value.okWide Tryz.prog W .any base t v := hval0
  have hW' := hW
  obtain ⟨p, q, hA0, hV, rfl, _, _⟩ := hW
  have hA : DataW.TrodAll enc Tryz.prog W 0 (fun _ => true) true Tryz.f4.params.toList args.toList ds p := hA0
  rw [Tryz.params4] at hA hval
  obtain ⟨v0, d0, rfl, rfl, h0⟩ := trodAll_one hA
  obtain ⟨rfl, rfl⟩ := trodVars_none hV
  obtain ⟨s, rfl, rfl, rfl, hs⟩ := open_string Tryz.underlying9 (hval 0 9 v0 rfl rfl) h0
  clear hA0 hval0
  simp only [List.append_nil] at hW'
  rw [MakeChecks.laidMetH_plain _ _ _ (by kernel_rfl)] at hL
  obtain ⟨hE, hP⟩ := env_of hL
  refine (Tree.own_true s W (Tree.hid_e hE) (Tree.hid_e hP)).mono fun e W' ⟨he, hb⟩ => ?_
  subst he
  exact ⟨_, rfl, _, _, _, [], [], [], hW', trodAll_mk1 (shut_bool Tryz.underlying4 _), trodAll_mk1 (shut_string Tryz.underlying9 hs), rfl, hb.frame _, fun h => by cases h⟩

theorem jown_holds : Rows.JsonvalOwnSaid :=
  OpenClaim.holds_of_wide 4 Tryz.f4 rfl rfl rfl rfl rfl rfl rfl ⟨rfl, rfl, rfl, rfl, rfl⟩ rfl rfl rfl rfl rfl (by kernel_rfl) Tryz.func4 (by kernel_rfl)
    (of_decide_eq_true (by kernel_rfl)) (by unfold Func.isWrapper; first | (rw [if_pos (by decide +kernel)]; kernel_rfl) | (rw [if_neg (by decide +kernel)]; exact ⟨rfl, rfl⟩))
    (fun os started H enc _ => jown_lifted os started H enc)
#print axioms jown_holds
end Go.Proofs.YtnccaidlcaeeaaaGreatDoor
namespace Go.Proofs.YtnccaidlcaeeaaaGreatDoor
open Go
theorem jown_card : Rows.JsonvalOwnCardSaid :=
  Claim7.holds_tied_plain_at .later [] _ _ _ _ jown_holds (fun _ h => by cases h) (by kernel_rfl) (fun _ h => by cases h) jsonvalOwn_row_tie rfl ⟨rfl, rfl⟩ (by kernel_rfl) rfl
    (fun f fn hf hfn => by
      obtain rfl : f = 4 := Option.some.inj ((show Tryz.prog.funcNamed "docket/docketlaw01.JsonvalOwn" = some 4 by kernel_rfl).symm.trans hf) |>.symm
      obtain rfl : fn = Tryz.f4 := (Option.some.inj (Tryz.func4.symm.trans hfn)).symm
      exact ⟨by kernel_rfl, fun j t ht => by
        rw [Tryz.params4] at ht
        rcases j with _ | j
        · obtain rfl : t = 9 := by simpa using ht.symm
          kernel_rfl
        · simp at ht⟩)
    (by kernel_rfl)
#print axioms jown_card
end Go.Proofs.YtnccaidlcaeeaaaGreatDoor
