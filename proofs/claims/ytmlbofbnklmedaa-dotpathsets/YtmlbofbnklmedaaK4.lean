import Derived.Test.YtmlbofbnklmedaaK3
import Derived.Test.YtmlbofbnklmedaaP4
/-! The document's Check. -/
namespace Go.Proofs.Ytmlbofbnklmedaa
open Go Go.RowKit

theorem check_any (t : Tr) (cs : List Value) (dep : Int) (w : World) (hV : VRep w t cs) (hS : SmallT t) (hdep : 0 ≤ dep ∧ dep ≤ 65) :
    Calls Try.prog 34 #[.agg cs.toArray, .int .i64 dep] w fun e w' => Errs (PlainT t) e ∧ Below w.heap.size w w' := by
  match t, hV, hS with
  | .node k x s ns its, hV, hS =>
    unfold VRep at hV
    unfold SmallT at hS
    obtain ⟨nm, a, c, rfl, hn, hc, hI⟩ := hV
    obtain ⟨an, cn, rfl, hcn, -⟩ := id hn
    refine (check_one k x s an cn a its.length c ns (fun i => ∀ u, its[i]? = some u → PlainT u) dep w (by omega) hdep (by omega) (hid_f (fun n hnm => by have := hS.2.2.1 n hnm; omega)) (hid_f hn) (hid_f (fun i hi => ?_))).mono ?_
    · obtain ⟨b, o, rfl, hb, hL⟩ := hI.resolve_left (by intro e; subst e; simp at hi)
      obtain ⟨u, hu⟩ : ∃ u, its[i]? = some u := ⟨_, List.getElem?_eq_getElem hi⟩
      obtain ⟨ds, h1, h2⟩ := VRepL.at its o i u hL hu
      have hlt : SizeOf.sizeOf u < SizeOf.sizeOf its := tr_lt hu
      have hSu := SmallL.at hS.2.2.2.2 hu
      have hrec := fun w' d hd (hw : Below w.heap.size w w') => check_any u ds d w' (VRep.keep hw _ _ h2) hSu hd
      obtain ⟨k2, x2, s2, an2, ln2, cn2, ai2, li2, ci2, rfl⟩ := vrep_five h2
      refine ⟨b, o, k2, x2, s2, an2, ln2, cn2, ai2, li2, ci2, rfl, h1, fun w' d hd hw => (hrec w' d hd hw).mono ?_⟩
      rintro e w'' ⟨⟨z, rfl, hz⟩, hb⟩
      exact ⟨⟨z, rfl, fun hz' u' hu' => by rw [hu] at hu'; cases hu'; exact hz hz'⟩, hb⟩
    · rintro e w' ⟨⟨z, rfl, hz⟩, hb⟩
      refine ⟨⟨z, rfl, fun hz' => ?_⟩, hb⟩
      obtain ⟨⟨h1, h2⟩, h3⟩ := hz hz'
      unfold PlainT
      refine ⟨fun h6 => ⟨(h1 h6).1, (h1 h6).2.1⟩, fun h5 => ⟨(h2 h5).1, (h2 h5).2.1, List.eq_nil_of_length_eq_zero (h2 h5).2.2⟩, (plainL_iff its).2 (fun u hu => ?_)⟩
      obtain ⟨i, hi⟩ := List.mem_iff_getElem?.1 hu
      exact h3 i (List.getElem?_eq_some_iff.1 hi).1 u hi
termination_by SizeOf.sizeOf t
decreasing_by simp only [Tr.node.sizeOf_spec]; omega
set_option maxHeartbeats 1000000 in
theorem checks_any (t : Tr) (k x : Int) (s : ByteArray) (an : Option Addr) (ln cn : Nat) (ai : Option Addr) (li ci : Nat) (w : World) (hV : VRep w t (five k x s (.slice an ln cn) (.slice ai li ci))) (hS : SmallT t) :
    Calls Try.prog 17 #[.agg #[.int .i64 k, .int .i64 x, .string s, .slice an ln cn, .slice ai li ci]] w fun e w' => Errs (PlainT t) e ∧ Below w.heap.size w w' := by
  have hq := fun o => hid_f (check_any t _ 0 (w.alloc o) (VRep.keep ((Below.refl _ w).alloc (Nat.le_refl _) o) _ _ hV) hS (by omega))
  clear hV
  go_enter Try.func17, Try.ntmps17
  go_wp2_with fail
  go_fit (hq _).out
  rintro e w1 ⟨⟨z, rfl, hz⟩, hb⟩
  replace hz := hid_f hz
  go_wp2_with fail
  go_ret
  exact ⟨⟨z, rfl, hz.out⟩, below_box hb⟩
end Go.Proofs.Ytmlbofbnklmedaa
