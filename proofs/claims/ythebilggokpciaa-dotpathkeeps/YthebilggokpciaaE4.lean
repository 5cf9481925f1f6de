import Derived.Test.YthebilggokpciaaE3
/-! large: it answers something. -/
namespace Go.Proofs.Ythebilggokpciaa
open Go Go.RowKit

set_option maxHeartbeats 2000000 in
set_option maxRecDepth 100000 in
theorem large_any (its : List Tr) (b o c : Nat) (w : World) (hM : its.length ≤ 9223372036854775807) (hb : its ≠ [] → b < w.heap.size) (hL : Hid (VRepL w b o its)) :
    Calls Try.prog 6 #[.slice (some ⟨b, o, none⟩) its.length c] w fun e w' => (∃ z, e = .returned (.bool z)) ∧ Below w.heap.size w w' := by
  replace hb := hid_e hb
  go_enter Try.func6, Try.ntmps6
  go_wp2_with fail
  go_loopw [3, 4] (fun n i wr => ∃ (z : Int) (q : Nat), q ≤ its.length ∧ n = .int .i64 z ∧ i = .int .i64 q ∧ Below w.heap.size w wr) (fun _ i _ => its.length - (intOf i).toNat)
  case atStart => exact ⟨_, 0, Nat.zero_le _, rfl, rfl, Below.refl _ w⟩
  case round =>
    obtain ⟨z, q, hq, rfl, rfl, hbel⟩ := hrel
    by_cases hlt : q < its.length
    · have hd : decide ((q : Int) < (its.length : Int)) = true := by simp; omega
      have hbl : b < w.heap.size := hb.out (by intro e; subst e; simp at hlt)
      obtain ⟨cs', hC, h2⟩ := VRepL.at its o q its[q] hL.out (List.getElem?_eq_getElem hlt)
      obtain ⟨k2, x2, s2, an2, ln2, cn2, ai2, li2, ci2, rfl⟩ := vrep_five h2
      have hcall := hid_e (parts_any its[q] _ 5000 wr (VRep.keep hbel _ _ h2))
      have g0 := stay hbel (hC 0 _ rfl)
      have g1 := stay hbel (hC 1 _ rfl)
      have g2 := stay hbel (hC 2 _ rfl)
      have g3 := stay hbel (hC 3 _ rfl)
      have g4 := stay hbel (hC 4 _ rfl)
      simp only [Nat.add_zero] at g0
      clear hC h2
      go_wp2_with fail
      go_at_call 23
      refine Calls.mono hcall.out ?_
      rintro e w1 ⟨⟨n, rfl⟩, hb1⟩
      clear g0 g1 g2 g3 g4 hcall
      have hbel1 : Below w.heap.size w w1 := hbel.trans (hb1.mono hbel.size)
      go_wp2_with fail
      go_roundw
      case rel => exact ⟨_, q + 1, by omega, rfl, by simp, hbel1⟩
      case measure => simp [intOf]; omega
    · have hd : decide ((q : Int) < (its.length : Int)) = false := by simp; omega
      go_wp2_with fail
      go_ret
      exact ⟨⟨_, rfl⟩, hbel⟩
end Go.Proofs.Ythebilggokpciaa
