import Derived.Test.YtjmneiepcbpdpaaDoorOR1
import Derived.Test.YtjmneiepcbpdpaaDoorH3
import Derived.Test.YtjmneiepcbpdpaaDoorShelf3
import Derived.Deep.DeepHandedRow
import Derived.Test.YtjmneiepcbpdpaaDoorRows
import Derived.Lib.LaidU8T
import Derived.Lib.LaidTab
import Derived.LaidLaws
import Derived.Lay
import Derived.KernelRfl
import Derived.ProofKit
import Derived.OpenShut
import Derived.MakeChecks
import Derived.SizedLaws
import Derived.Carry
import Derived.ChangeMaps5
/-! The row OrderReads, where what it reads is of bulk at most 1048576. -/
namespace Go.Proofs.YtjmneiepcbpdpaaDoor
open Go Go.ChangeShapes Go.WideShapes Go.ChangeAt Go.RowKit

theorem first_eq : Rows.laid_unicode_utf8_first = Lib.firstData := by kernel_rfl
theorem accept_eq : Rows.laid_unicode_utf8_acceptRanges (H := Unit) = Lib.acceptData := by kernel_rfl
theorem xU8 : U8Extra Tryd.prog Tryd.laysV_ren := ⟨by kernel_rfl, by kernel_rfl, by kernel_rfl, by kernel_rfl, by kernel_rfl, by kernel_rfl, by kernel_rfl⟩
/-- What the listed variables give the walks. -/
theorem env_of {W : World} (h : laidMet Tryd.prog Rows.orderReadsUptoRow.laid W) : Lib.Utf8Tabs 1 2 W := by
  have r : ∀ {n : String} {d : DataW Unit}, (n, d) ∈ Rows.orderReadsUptoRow.laid → Lib.VarReads Tryd.prog W n d := fun hm => Lib.laidMet.reads h hm
  have m6 : ("unicode/utf8.first", Rows.laid_unicode_utf8_first) ∈ Rows.orderReadsUptoRow.laid := .tail _ (.head _)
  have m3 : ("unicode/utf8.acceptRanges", Rows.laid_unicode_utf8_acceptRanges) ∈ Rows.orderReadsUptoRow.laid := .head _
  have r6 := r m6
  have r3 := r m3
  rw [first_eq] at r6
  rw [accept_eq] at r3
  exact utf8Tabs_of_readsT (U8Types.of196 Tryd.laysV196) xU8 r6 r3
theorem own : ownKnob Tryd.prog.godebug = none := by kernel_rfl
theorem laid_out : laidOutB Tryd.prog = true := by kernel_rfl
theorem read_bytes : Tryd.prog.readableRec 26 = true := by kernel_rfl
theorem lits_bulk {H : Type} (k : IntKind) : (l : List Int) → Rows.uptoBulkAll (ChangeShapes.lits (H := H) k l) = l.length
  | [] => by simp [ChangeShapes.lits, Rows.uptoBulkAll]
  | x :: l => by
    have := lits_bulk (H := H) k l
    unfold ChangeShapes.lits at this ⊢
    rw [List.map_cons, Rows.uptoBulkAll, this, Rows.uptoBulk]
    · rw [List.length_cons]; omega
    · intro b e; cases e
set_option maxRecDepth 100000 in
theorem arg_bytes {H : Type} {enc : TypeId × Value → H} {W : World} {base : Nat} {v : Value} {d : DataW H} {p : List MemPlace} (hok : Value.okWide Tryd.prog W .any base 26 v)
    (h : DataW.Trod enc Tryd.prog W 0 (fun _ => true) true 26 v d p) : ∃ a c l, v = .slice a (List.length l) c ∧ Hid (BArg W a c l) ∧ l.length ≤ Rows.uptoBulk d := by
  obtain ⟨a, len, cap, rfl⟩ := okWide_slice Tryd.underlying26 hok
  obtain ⟨fuel, hf⟩ := h
  rcases ChangeShapes.open_ints Tryd.underlying26 Tryd.underlying5 (by kernel_rfl) hf with ⟨hcs, hx⟩ | ⟨a, len', cap', zs, hcs, _, hl, hm, hz, hx, hcell, hwz⟩
  · simp [Value.cells] at hcs
    obtain ⟨rfl, rfl, rfl⟩ := hcs
    exact ⟨none, 0, [], rfl, hid_e ⟨⟨Nat.le_refl _, by omega⟩, fun _ => rfl, .inl rfl⟩, Nat.zero_le _⟩
  · simp [Value.cells] at hcs
    obtain ⟨rfl, rfl, rfl⟩ := hcs
    simp only [Prod.mk.injEq] at hx
    obtain ⟨rfl, rfl⟩ := hx
    simp only [if_true] at hz
    have htk : (zs.take len).length = len := by simp; omega
    refine ⟨some a, cap, (zs.take len).map (fun z => UInt8.ofNat z.toNat), by rw [List.length_map, htk], hid_e ⟨⟨by rw [List.length_map, htk]; exact hl, by unfold maxLen at hm; omega⟩, (fun e => by cases e), ?_⟩, ?_⟩
    · by_cases hl0 : len = 0
      · subst hl0; exact .inl (by simp)
      · obtain ⟨xb, xo, spot⟩ := a
        have hspot : spot = none := by simpa [Addr.add] using World.cell?_spot (hcell 0 (by omega))
        subst hspot
        have hc' : ∀ j, j < zs.length → W.cell? ⟨xb, xo + j, none⟩ = some (.int .u8 (zs.getD j 0)) := fun j hj => by
          have := hcell j hj
          rwa [add_off] at this
        refine .inr ⟨xb, xo, rfl, lt_of_cell (hc' 0 (by omega)), fun j b hj => ?_⟩
        have hjl := (List.getElem?_eq_some_iff.1 hj).1
        rw [List.length_map, htk] at hjl
        rw [hc' j (by omega)]
        rw [List.getElem?_map, List.getElem?_take_of_lt hjl, List.getElem?_eq_getElem (by omega)] at hj
        have hb : UInt8.ofNat (zs[j]'(by omega)).toNat = b := by simpa using hj
        have hw := hwz _ (List.getElem_mem (l := zs) (n := j) (by omega))
        have h1 : IntKind.u8.min = 0 := rfl
        have h2 : IntKind.u8.max = 255 := rfl
        simp only [Lit.wf, Bool.and_eq_true, decide_eq_true_eq] at hw
        rw [List.getD_eq_getElem?_getD, List.getElem?_eq_getElem (by omega), Option.getD_some, ← hb]
        congr 2
        rw [UInt8.toNat_ofNat']
        omega
    · rw [List.length_map]
      show (zs.take len).length ≤ Rows.uptoBulk (DataW.slice (ChangeShapes.lits .u8 (zs.take len)) (ChangeShapes.lits .u8 (zs.drop len)))
      rw [Rows.uptoBulk, lits_bulk, lits_bulk]
      omega
def zeroArgs : Array Value := #[.slice none 0 0]
theorem zero_reads (os : Os) {H : Type} (enc : TypeId × Value → H) : ∃ places, DataW.whole enc Tryd.prog ((World.laidAll Tryd.prog os Rows.orderReadsUptoRow.laid).forCall (fun _ _ => 0) ⟨#[], zeroArgs, []⟩).memory Tryd.f4.params.toList Rows.orderReadsSpec.vars false zeroArgs.toList 8 = some ([.nil], [], places) :=
  ⟨[], by kernel_rfl⟩
set_option maxRecDepth 100000 in
theorem reads_lifted (os : Os) (started : os.Started) (H : Type) (enc : TypeId × Value → H) (F : Stop.Interp) :
    ReturnsInHanded {} Tryd.checked os 4 .any ((Rows.OpenSpec.upto Rows.orderReadsSpec).preRow enc Tryd.prog Tryd.f4 Rows.orderReadsUptoRow.domain false Rows.orderReadsUptoRow.laid) (((Rows.OpenSpec.upto Rows.orderReadsSpec).at F).post enc Tryd.prog Tryd.f4 false true false false) := by
  obtain ⟨places, hx⟩ := zero_reads os enc
  have hok : Input.okWideB Tryd.prog ((World.laidAll Tryd.prog os Rows.orderReadsUptoRow.laid).forCall (fun _ _ => 0) ⟨#[], zeroArgs, []⟩) 4 ⟨#[], zeroArgs, []⟩ = true := by kernel_rfl
  refine returnsInHanded_of_row (C := Tryd.checked) (s := Rows.OpenSpec.upto Rows.orderReadsSpec) own started (by kernel_rfl) Tryd.func4
    ⟨World.laidAll Tryd.prog os Rows.orderReadsUptoRow.laid, fun _ _ => 0, ⟨#[], zeroArgs, []⟩, World.laidAll_os _ _ _, World.shaped_of_ZipB (by kernel_rfl) (by kernel_rfl), (Input.okWide_of_okWideB (base := 0) hok).1, (Input.okWide_of_okWideB hok).2,
      OpenSpec.preRow_of_cond 8 hx (by kernel_rfl) (fun k hk => by cases hk; kernel_rfl) (by kernel_rfl) (by rw [MakeChecks.laidMetH_plain _ _ _ (by kernel_rfl)]; exact laidMet_laidAll _ (by kernel_rfl) (by kernel_rfl)),
      by simp only [Assume.holds]; exact ⟨by simp, by simp, fun _ => Modest.zero, by simp, by simp⟩⟩ ?_
  intro W base args ds gs before hval0 hW _ hcond hsz0 hL _ _
  have hval : ∀ (j : Nat) t v, Tryd.f4.params[j]? = some t → args[j]? = some v → Value.okWide Tryd.prog W .any base t v := hval0
  have hk : Rows.uptoSmall H (ds ++ gs) = true := hcond _ rfl
  have hW' := hW
  obtain ⟨p, q, hA0, hV, rfl, _, _⟩ := hW
  have hA : DataW.TrodAll enc Tryd.prog W 0 (fun _ => true) true Tryd.f4.params.toList args.toList ds p := hA0
  rw [Tryd.params4] at hA hval
  obtain ⟨v0, d0, rfl, rfl, h0⟩ := trodAll_one hA
  obtain ⟨rfl, rfl⟩ := trodVars_none hV
  clear hA0 hval0 hsz0
  obtain ⟨a1, c1, l1, rfl, hA1, hB1⟩ := arg_bytes (hval 0 26 v0 rfl rfl) h0
  have hbk : Rows.uptoBulk d0 ≤ 1048576 := by
    have h1 := of_decide_eq_true hk
    simp only [List.append_nil, Rows.uptoBulkAll] at h1
    omega
  simp only [List.append_nil] at hW'
  have hlt : ∀ x ∈ p, x.block < W.heap.size := fun x hx => by simpa using hW'.lt x (by simpa using hx)
  rw [MakeChecks.laidMetH_plain _ _ _ (by kernel_rfl)] at hL
  have hU := env_of hL
  have h8 : 3 ≤ W.heap.size := lt_of_cell (hU.2 0 (by decide)).1
  refine (reads_true a1 c1 l1 W hA1 (by omega) (hid_e hU) h8).mono fun e W' ⟨he, hb⟩ => ?_
  subst he
  exact ⟨_, rfl, _, _, _, [], _, [], hW', trodAll_mk1 (shut_bool Tryd.underlying4 _), trodAll_mk1 (Below.trod laid_out read_bytes (of_decide_eq_true (by kernel_rfl)) h0 hb hlt), rfl, hb.frame _, fun h => by cases h⟩

theorem reads_holds : Rows.OrderReadsUptoSaid :=
  OpenClaim.holds_of_cond 4 Tryd.f4 rfl rfl rfl rfl rfl rfl rfl ⟨rfl, rfl, rfl, rfl, rfl⟩ rfl rfl rfl rfl rfl (by kernel_rfl) Tryd.func4 (by kernel_rfl)
    (of_decide_eq_true (by kernel_rfl)) (by unfold Func.isWrapper; first | (rw [if_pos (by decide +kernel)]; kernel_rfl) | (rw [if_neg (by decide +kernel)]; exact ⟨rfl, rfl⟩))
    (fun os started H enc _ F => by rw [OpenClaim.pre_eq_preRow]; exact reads_lifted os started H enc F)
end Go.Proofs.YtjmneiepcbpdpaaDoor
