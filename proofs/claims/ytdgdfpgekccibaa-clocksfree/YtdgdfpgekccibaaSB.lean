import Derived.Test.YtdgdfpgekccibaaSA
import Derived.Test.YtdgdfpgekccibaaCW
import Derived.Test.YtdgdfpgekccibaaAE
import Derived.Test.YtdgdfpgekccibaaRows
import Derived.WalkKit
import Derived.ProofKit
import Derived.OpenShut
import Derived.Carry
/-! ClocksSees. -/
namespace Go.Proofs.Ytdgdfpgekccibaa
open Go Go.ChangeShapes Go.WideShapes Go.ChangeAt Go.RowKit
theorem seenV_parts (v : Option Nat) : ∃ (i : Int) (t : Bool), seenV v = .tuple #[.int .i64 i, .bool t] := by
  cases v with
  | none => exact ⟨_, _, rfl⟩
  | some i => exact ⟨_, _, rfl⟩
set_option maxHeartbeats 1000000 in
set_option maxRecDepth 100000 in
theorem sees_true (a : Option Addr) (cap : Nat) (evs : List Ev) (clients j : Int) (w : World) (hE : EvsAt w a evs) (hcap : evs.length ≤ cap) (hcm : cap ≤ 9223372036854775807) :
    Calls Try.prog 8 #[.slice a evs.length cap, .int .i64 clients, .int .i64 j] w fun e w' => e = .returned (.bool true) ∧ Below w.heap.size w w' := by
  by_cases hl : 200 < evs.length
  · go_enter Try.func8, Try.ntmps8
    go_wp2_with fail
    exact bodyPost_ret (v := .bool true) (by simp [results, Try.results8, go_sem]) rfl ⟨rfl, Below.refl _ w⟩
  · have hown := hid_of (own_any a cap evs w hE (by omega))
    obtain ⟨i, t, hv⟩ := seenV_parts (seesO evs clients j)
    replace hv := hid_of hv
    go_enter Try.func8, Try.ntmps8
    go_wp2_with fail
    refine hown.out.mono ?_
    clear hown
    rintro e W1 ⟨hB1, g, c, rfl, hO⟩
    obtain ⟨hE1, hc1, hc2, -, -⟩ := own_evs hO
    have hs1 := sees_any (some ⟨g, 0, none⟩) c evs clients j W1 hE1 (by omega) (by unfold maxLen at hc2; omega)
    rw [hv.out] at hs1
    replace hs1 := hid_of hs1
    clear hO hE1
    go_wp2_with fail
    refine hs1.out.mono ?_
    clear hs1
    rintro e W2 ⟨rfl, hB2⟩
    have hB02 : Below w.heap.size w W2 := hB1.trans (hB2.mono hB1.size)
    have hs2 := refsees_any a cap evs clients j W2 (hE.keep hB02) hcap hcm
    rw [hv.out] at hs2
    replace hs2 := hid_of hs2
    replace hB02 := hid_of hB02
    clear hB1 hB2
    go_wp2_with fail
    refine hs2.out.mono ?_
    clear hs2
    rintro e W3 ⟨rfl, hB3⟩
    have hlv := hid_of (live_any W3)
    have hB03 : Hid (Below w.heap.size w W3) := hB02.out.trans (hB3.mono hB02.out.size)
    clear hB3
    go_wp2_with fail
    refine hlv.out.mono ?_
    rintro e W4 ⟨rfl, hB4⟩
    go_wp2_with fail
    exact bodyPost_ret (v := .bool true) (by simp [results, Try.results8, go_sem]) rfl ⟨rfl, hB03.out.trans (hB4.mono hB03.out.size)⟩
theorem own_knob : ownKnob Try.prog.godebug = none := by kernel_rfl
theorem laid_out : laidOutB Try.prog = true := by kernel_rfl
set_option maxRecDepth 100000 in
theorem sees_lifted (os : Os) (started : os.Started) (H : Type) (enc : TypeId × Value → H) :
    ReturnsInHanded {} Try.checked os 8 .any (Rows.clocksSeesSpec.pre6 enc Try.prog Try.f8 Rows.clocksSeesRow.domain false) (Rows.clocksSeesSpec.post enc Try.prog Try.f8 false true false false) := by
  refine returnsInHanded_of_change (C := Try.checked) own_knob started (by kernel_rfl) Try.func8
    (ChangeSpec.witness6 (enc := enc) (C := Try.checked) false ⟨#[], #[.slice none 0 0, .int .i64 0, .int .i64 0], []⟩ 8 (by kernel_rfl) (by kernel_rfl) (by kernel_rfl) (by kernel_rfl)) ?_
  intro W base args ds gs before hval0 hW hcnd _
  have hval : ∀ (j : Nat) t v, Try.f8.params[j]? = some t → args[j]? = some v → Value.okWide Try.prog W .any base t v := hval0
  have hW' := hW
  obtain ⟨p, q, hA0, hV, rfl, hfz, hnd⟩ := hW
  have hA : DataW.TrodAll enc Try.prog W 0 (fun _ => true) true Try.f8.params.toList args.toList ds p := hA0
  rw [Try.params8] at hA hval
  obtain ⟨v0, v1, v2, d0, d1, d2, p0, p1, p2, rfl, rfl, rfl, h0, h1, h2⟩ := trodAll_three hA
  obtain ⟨rfl, rfl⟩ := trodVars_none hV
  clear hA0 hval0
  obtain ⟨a, len, cap, rfl⟩ := okWide_slice Try.underlying26 (hval 0 26 v0 rfl rfl)
  obtain ⟨i1, rfl, rfl, rfl, hw1⟩ := open_int Try.underlying3 (hval 1 3 v1 rfl rfl) h1
  obtain ⟨i2, rfl, rfl, rfl, hw2⟩ := open_int Try.underlying3 (hval 2 3 v2 rfl rfl) h2
  obtain ⟨evs, rfl, hE, hl1, hl2, hwf⟩ := arg_evs h0
  simp only [List.append_nil] at hW'
  have hlt : ∀ x ∈ p0, x.block < W.heap.size := fun x hx => by simpa using hW'.lt x (by simpa using hx)
  refine (sees_true a cap evs i1 i2 W hE hl1 (by unfold maxLen at hl2; omega)).mono fun e W' ⟨he, hg⟩ => ?_
  subst he
  exact ⟨_, rfl, _, _, _, [], _, [], hW', trodAll_mk1 (shut_bool Try.underlying4 _), trodAll_mk3 (Below.trod laid_out (by kernel_rfl) (of_decide_eq_true (by kernel_rfl)) h0 hg hlt) (shut_int Try.underlying3 hw1) (shut_int Try.underlying3 hw2), rfl, hg.frame _, fun h => by cases h⟩
theorem sees_holds : Rows.ClocksSeesSaid :=
  OpenClaim.holds_of_wide 8 Try.f8 rfl rfl rfl rfl rfl rfl rfl ⟨rfl, rfl, rfl, rfl, rfl⟩ rfl rfl rfl rfl rfl (by kernel_rfl) Try.func8 (by kernel_rfl)
    (of_decide_eq_true (by kernel_rfl)) (by unfold Func.isWrapper; first | (rw [if_pos (by decide +kernel)]; kernel_rfl) | (rw [if_neg (by decide +kernel)]; exact ⟨rfl, rfl⟩))
    (fun os started H enc _ => sees_lifted os started H enc)
#print axioms sees_holds
end Go.Proofs.Ytdgdfpgekccibaa
