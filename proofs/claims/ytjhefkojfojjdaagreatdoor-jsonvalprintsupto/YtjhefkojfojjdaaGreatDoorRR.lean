import Derived.Test.YtjhefkojfojjdaaGreatDoorRP
import Derived.Test.YtjhefkojfojjdaaGreatDoorV7
import Derived.Deep.DeepHandedRow
import Derived.Test.YtjhefkojfojjdaaGreatDoorRows
import Derived.Lib.LaidU8T
import Derived.Lib.LaidTab
import Derived.LaidLaws
import Derived.Lay
import Derived.KernelRfl
import Derived.ProofKit
import Derived.OpenShut
import Derived.MakeChecks
import Derived.SizedLaws
import Derived.Carry
import Derived.ChangeMaps5
/-! The row JsonvalPrints, where what it reads is of bulk at most 1048576. -/
namespace Go.Proofs.YtjhefkojfojjdaaGreatDoor
open Go Go.ChangeShapes Go.WideShapes Go.ChangeAt Go.RowKit

theorem first_eq : Rows.laid_unicode_utf8_first = Lib.firstData := by kernel_rfl
theorem accept_eq : Rows.laid_unicode_utf8_acceptRanges (H := Unit) = Lib.acceptData := by kernel_rfl
theorem pow10_eq : Rows.laid_internal_strconv_uint64pow10 (H := Unit) = Lib.tabData .u64 Lib.pow10Tab := by kernel_rfl
theorem xU8 : U8Extra Tryz.prog Tryz.lays260_ren := ⟨by kernel_rfl, by kernel_rfl, by kernel_rfl, by kernel_rfl, by kernel_rfl, by kernel_rfl, by kernel_rfl⟩
theorem gSyn : Tryz.prog.globalNamed "strconv.ErrSyntax" = some 6 := by kernel_rfl
theorem gRng : Tryz.prog.globalNamed "strconv.ErrRange" = some 7 := by kernel_rfl
theorem gPow : Tryz.prog.globalNamed "internal/strconv.uint64pow10" = some 3 := by kernel_rfl
theorem tErr4 : (Tryz.prog.globals[6]?).map (·.type) = some 54 := by kernel_rfl
theorem tErr5 : (Tryz.prog.globals[7]?).map (·.type) = some 54 := by kernel_rfl
theorem tPow : (Tryz.prog.globals[3]?).map (·.type) = some 105 := by kernel_rfl
theorem err_reads {W : World} {n name : String} {g : Nat} {d : DataW Unit} (hg : Tryz.prog.globalNamed n = some g) (ht : (Tryz.prog.globals[g]?).map (·.type) = some 54) (h : Lib.VarReads Tryz.prog W n (.iface name d)) : ∃ tp p, W.cell? ⟨g, 0, none⟩ = some (.iface tp p) := by
  obtain ⟨g', t, cs, fuel, p, hg', hty, hvar, hd⟩ := h
  obtain rfl := Option.some.inj (hg.symm.trans hg')
  obtain rfl := Option.some.inj (ht.symm.trans hty)
  obtain ⟨_, u, v, hcs, _, _⟩ := iface_of_trod Tryz.underlying54 hd
  refine ⟨u, v, ?_⟩
  rw [World.var?_cell hg hvar 0, ← Array.getElem?_toList, hcs]
  rfl
theorem pow_reads {W : World} (h : Lib.VarReads Tryz.prog W "internal/strconv.uint64pow10" (Lib.tabData .u64 Lib.pow10Tab)) : Lib.TabIs Tryz.prog W "internal/strconv.uint64pow10" .u64 Lib.pow10Tab := by
  obtain ⟨g', t, cs, fuel, p, hg', hty, hvar, hd⟩ := h
  obtain rfl := Option.some.inj (gPow.symm.trans hg')
  obtain rfl := Option.some.inj (tPow.symm.trans hty)
  unfold Lib.TabIs
  rw [hvar, ← Lib.cells_of_tab Tryz.underlying105 Tryz.underlying77 (by kernel_rfl) (by kernel_rfl) hd]
/-- What the listed variables give the walks. -/
theorem env_of {W : World} (h : laidMet Tryz.prog Rows.jsonvalPrintsUptoRow.laid W) : Env W ∧ EnvP W := by
  have r : ∀ {n : String} {d : DataW Unit}, (n, d) ∈ Rows.jsonvalPrintsUptoRow.laid → Lib.VarReads Tryz.prog W n d := fun hm => Lib.laidMet.reads h hm
  have m5 : ("strconv.ErrSyntax", Rows.laid_strconv_ErrSyntax) ∈ Rows.jsonvalPrintsUptoRow.laid := .tail _ (.tail _ (.tail _ (.tail _ (.tail _ (.head _)))))
  have m4 : ("strconv.ErrRange", Rows.laid_strconv_ErrRange) ∈ Rows.jsonvalPrintsUptoRow.laid := .tail _ (.tail _ (.tail _ (.tail _ (.head _))))
  have m6 : ("unicode/utf8.first", Rows.laid_unicode_utf8_first) ∈ Rows.jsonvalPrintsUptoRow.laid := .tail _ (.tail _ (.tail _ (.tail _ (.tail _ (.tail _ (.head _))))))
  have m3 : ("unicode/utf8.acceptRanges", Rows.laid_unicode_utf8_acceptRanges) ∈ Rows.jsonvalPrintsUptoRow.laid := .tail _ (.tail _ (.tail _ (.head _)))
  have m2 : ("internal/strconv.uint64pow10", Rows.laid_internal_strconv_uint64pow10) ∈ Rows.jsonvalPrintsUptoRow.laid := .tail _ (.tail _ (.head _))
  have r6 := r m6
  have r3 := r m3
  have r2 := r m2
  rw [first_eq] at r6
  rw [accept_eq] at r3
  rw [pow10_eq] at r2
  have hu := utf8Tabs_of_readsT (U8Types.of260 Tryz.lays260) xU8 r6 r3
  obtain ⟨tp, q, hrg⟩ := err_reads gRng tErr5 (r m4)
  have hbig : 8 ≤ W.heap.size := by
    have h7 := Tree.cell_lt hrg
    exact h7
  exact ⟨⟨err_reads gSyn tErr4 (r m5), ⟨tp, q, hrg⟩, hu⟩, ⟨hu, pow_reads r2, hbig⟩⟩
theorem own : ownKnob Tryz.prog.godebug = none := by kernel_rfl
theorem laid_out : laidOutB Tryz.prog = true := by kernel_rfl
theorem read_val : Tryz.prog.readableRec 25 = true := by kernel_rfl
set_option maxRecDepth 100000 in
theorem arg_bulk {H : Type} {enc : TypeId × Value → H} {W : World} {base : Nat} {v : Value} {d : DataW H} {p : List MemPlace} {ts : List TypeId} {ds : List (DataW H)} {j : Nat} (hok : Value.okWide Tryz.prog W .any base 25 v)
    (h : DataW.Trod enc Tryz.prog W 0 (fun _ => true) true 25 v d p) (hsz : (DataW.weightsEach Tryz.prog ts ds).all (· ≤ reachBytes) = true) (ht : ts[j]? = some 25) (hd : ds[j]? = some d) :
    ∃ k x s an ln cn ai li ci t, v = .agg #[.int .i64 k, .int .i64 x, .string s, .slice an ln cn, .slice ai li ci] ∧ Hid (Tree.VRep W t (Tree.five k x s (.slice an ln cn) (.slice ai li ci))) ∧ Hid (Tree.SmallT t) ∧ Hid (Tree.RangeT t) ∧ Tree.bulkT t ≤ Rows.uptoBulk d := by
  obtain ⟨cs, rfl, _⟩ := okWide_struct Tryz.underlying25 hok
  obtain ⟨fuel, hf⟩ := h
  obtain ⟨t, hV, hS, hR, hB⟩ := Tree.open_bulk fuel _ _ hf (fun k hk => of_decide_eq_true (List.all_eq_true.1 hsz _ (DataW.weights_mem_each ht hd k hk)))
  obtain ⟨k, x, s, an, ln, cn, ai, li, ci, e⟩ := Tree.vrep_five hV
  refine ⟨k, x, s, an, ln, cn, ai, li, ci, t, ?_, by rw [← e]; exact hV, hS, hR, hB⟩
  have : cs.toList = Tree.five k x s (.slice an ln cn) (.slice ai li ci) := e
  rw [show cs = cs.toList.toArray by simp, this]
  rfl
def zeroArgs : Array Value := #[.agg #[.int .i64 0, .int .i64 0, .string ⟨#[]⟩, .slice none 0 0, .slice none 0 0]]
theorem zero_reads (os : Os) {H : Type} (enc : TypeId × Value → H) : ∃ places, DataW.whole enc Tryz.prog ((World.laidAll Tryz.prog os Rows.jsonvalPrintsUptoRow.laid).forCall (fun _ _ => 0) ⟨#[], zeroArgs, []⟩).memory Tryz.f3.params.toList Rows.jsonvalPrintsSpec.vars false zeroArgs.toList 8 = some ([.agg [.lit (.int .i64 0), .lit (.int .i64 0), .lit (.string []), .nil, .nil]], [], places) :=
  ⟨[], by kernel_rfl⟩
set_option maxRecDepth 100000 in
theorem prints_lifted (os : Os) (started : os.Started) (H : Type) (enc : TypeId × Value → H) (F : Stop.Interp) :
    ReturnsInHanded {} Tryz.checked os 3 .any ((Rows.OpenSpec.upto Rows.jsonvalPrintsSpec).preRow enc Tryz.prog Tryz.f3 Rows.jsonvalPrintsUptoRow.domain false Rows.jsonvalPrintsUptoRow.laid) (((Rows.OpenSpec.upto Rows.jsonvalPrintsSpec).at F).post enc Tryz.prog Tryz.f3 false true false false) := by
  obtain ⟨places, hx⟩ := zero_reads os enc
  have hok : Input.okWideB Tryz.prog ((World.laidAll Tryz.prog os Rows.jsonvalPrintsUptoRow.laid).forCall (fun _ _ => 0) ⟨#[], zeroArgs, []⟩) 3 ⟨#[], zeroArgs, []⟩ = true := by kernel_rfl
  refine returnsInHanded_of_row (C := Tryz.checked) (s := Rows.OpenSpec.upto Rows.jsonvalPrintsSpec) own started (by kernel_rfl) Tryz.func3
    ⟨World.laidAll Tryz.prog os Rows.jsonvalPrintsUptoRow.laid, fun _ _ => 0, ⟨#[], zeroArgs, []⟩, World.laidAll_os _ _ _, World.shaped_of_ZipB (by kernel_rfl) (by kernel_rfl), (Input.okWide_of_okWideB (base := 0) hok).1, (Input.okWide_of_okWideB hok).2,
      OpenSpec.preRow_of_cond 8 hx (by kernel_rfl) (fun k hk => by cases hk; kernel_rfl) (by kernel_rfl) (by rw [MakeChecks.laidMetH_plain _ _ _ (by kernel_rfl)]; exact laidMet_laidAll _ (by kernel_rfl) (by kernel_rfl)),
      by simp only [Assume.holds]; exact ⟨by simp, by simp, fun _ => Modest.zero, by simp, by simp⟩⟩ ?_
  intro W base args ds gs before hval0 hW _ hcond hsz0 hL _ _
  have hval : ∀ (j : Nat) t v, Tryz.f3.params[j]? = some t → args[j]? = some v → Value.okWide Tryz.prog W .any base t v := hval0
  have hsz : (DataW.weightsEach Tryz.prog (Tryz.f3.params.toList ++ Rows.jsonvalPrintsSpec.plain.varTypes Tryz.prog) (ds ++ gs)).all (· ≤ reachBytes) = true := hsz0
  have hk : Rows.uptoSmall H (ds ++ gs) = true := hcond _ rfl
  have hW' := hW
  obtain ⟨p, q, hA0, hV, rfl, _, _⟩ := hW
  have hA : DataW.TrodAll enc Tryz.prog W 0 (fun _ => true) true Tryz.f3.params.toList args.toList ds p := hA0
  rw [Tryz.params3] at hA hval hsz
  obtain ⟨v0, d0, rfl, rfl, h0⟩ := trodAll_one hA
  obtain ⟨rfl, rfl⟩ := trodVars_none hV
  clear hA0 hval0 hsz0
  obtain ⟨k1, x1, s1, an1, ln1, cn1, ai1, li1, ci1, t1, rfl, hV1, hS1, hR1, hB1⟩ := arg_bulk (j := 0) (hval 0 25 v0 rfl rfl) h0 hsz rfl rfl
  have hbk : Rows.uptoBulk d0 ≤ 1048576 := by
    have h1 := of_decide_eq_true hk
    simp only [List.append_nil, Rows.uptoBulkAll] at h1
    omega
  have hT : Tree.lenT t1 ≤ 1000000000 := by
    have h1 := Tree.lenT_bulk t1 hR1.out
    omega
  simp only [List.append_nil] at hW'
  have hlt : ∀ x ∈ p, x.block < W.heap.size := fun x hx => by simpa using hW'.lt x (by simpa using hx)
  rw [MakeChecks.laidMetH_plain _ _ _ (by kernel_rfl)] at hL
  obtain ⟨hE, hP⟩ := env_of hL
  refine (Tree.prints_true k1 x1 s1 an1 ln1 cn1 ai1 li1 ci1 t1 W hV1 hS1 hR1 hT hE hP).mono fun e W' ⟨he, hb⟩ => ?_
  subst he
  exact ⟨_, rfl, _, _, _, [], _, [], hW', trodAll_mk1 (shut_bool Tryz.underlying4 _), trodAll_mk1 (Below.trod laid_out read_val (of_decide_eq_true (by kernel_rfl)) h0 hb hlt), rfl, hb.frame _, fun h => by cases h⟩

theorem prints_holds : Rows.JsonvalPrintsUptoSaid :=
  OpenClaim.holds_of_cond 3 Tryz.f3 rfl rfl rfl rfl rfl rfl rfl ⟨rfl, rfl, rfl, rfl, rfl⟩ rfl rfl rfl rfl rfl (by kernel_rfl) Tryz.func3 (by kernel_rfl)
    (of_decide_eq_true (by kernel_rfl)) (by unfold Func.isWrapper; first | (rw [if_pos (by decide +kernel)]; kernel_rfl) | (rw [if_neg (by decide +kernel)]; exact ⟨rfl, rfl⟩))
    (fun os started H enc _ F => by rw [OpenClaim.pre_eq_preRow]; exact prints_lifted os started H enc F)
end Go.Proofs.YtjhefkojfojjdaaGreatDoor
