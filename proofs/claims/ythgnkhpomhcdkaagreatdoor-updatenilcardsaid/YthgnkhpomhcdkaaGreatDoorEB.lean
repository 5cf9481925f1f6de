import Derived.Test.YthgnkhpomhcdkaaGreatDoorMA1
import Derived.Test.YthgnkhpomhcdkaaGreatDoorAQ
/-! Texts that are compared; a list's text. -/
namespace Go.Proofs.YthgnkhpomhcdkaaGreatDoor
open Go Go.RowKit

theorem str_beq (a b : ByteArray) : (a.toList == b.toList) = decide (a = b) := by
  rw [Bool.eq_iff_iff, beq_iff_eq, decide_eq_true_eq, ByteArray.toList_eq, ByteArray.toList_eq]
  exact ⟨fun h => ByteArray.ext (Array.toList_inj.1 h), fun h => by rw [h]⟩
theorem reads_at {w : World} {an : Option Addr} {N cn : Nat} {ns : List ByteArray} (h : Reads w (.slice an N cn) ns) {q : Nat} {a : ByteArray} (hq : ns[q]? = some a) : ∃ g o, an = some ⟨g, o, none⟩ ∧ w.cell? ⟨g, o + q, none⟩ = some (.string a) := by
  obtain ⟨a0, c0, e, -, h⟩ := h
  obtain ⟨g, o, rfl, -, h⟩ := h.resolve_left (by intro e; subst e; simp at hq)
  simp only [Value.slice.injEq] at e
  exact ⟨g, o, e.1, h q a hq⟩
end Go.Proofs.YthgnkhpomhcdkaaGreatDoor
/-! Equal of every two values: the names. -/
namespace Go.Proofs.YthgnkhpomhcdkaaGreatDoor
open Go Go.RowKit

set_option maxHeartbeats 2000000 in
set_option maxRecDepth 100000 in
theorem seq_code (an : Option Addr) (cn : Nat) (ns : List ByteArray) (an' : Option Addr) (cn' : Nat) (ns' : List ByteArray) (w : World) (hm : ns.length ≤ 9223372036854775806) (hN : Hid (Reads w (.slice an ns.length cn) ns)) (hN' : Hid (Reads w (.slice an' ns'.length cn') ns')) :
    Calls Tryz.prog 30 #[.slice an ns.length cn, .slice an' ns'.length cn'] w fun e w' => e = .returned (.bool (decide (ns = ns'))) ∧ Below w.heap.size w w' := by
  obtain ⟨R, hR⟩ : ∃ R, Hid (decide (ns = ns') = R) := ⟨_, hid_e rfl⟩
  rw [hR.out]
  by_cases hl : ns.length = ns'.length
  · have hlb : ((ns.length : Int) == (ns'.length : Int)) = true := by simp [hl]
    go_enter Tryz.func30, Tryz.ntmps30
    go_wp2_with fail
    go_loopw [13] (fun i wr => ∃ q : Nat, q ≤ ns.length ∧ i = .int .i64 q ∧ Below w.heap.size w wr ∧ Hid (ns.take q = ns'.take q)) (fun i _ => ns.length - (intOf i).toNat)
    case atStart => exact ⟨0, Nat.zero_le _, rfl, Below.refl _ _, by simp [Hid]⟩
    case round =>
      obtain ⟨q, hq, rfl, HB, HT⟩ := hrel
      by_cases hlt : q < ns.length
      · obtain ⟨a, ha⟩ : ∃ a, Hid (ns[q]? = some a) := ⟨_, hid_e (List.getElem?_eq_getElem hlt)⟩
        obtain ⟨b, hb⟩ : ∃ a, Hid (ns'[q]? = some a) := ⟨_, hid_e (List.getElem?_eq_getElem (by omega))⟩
        obtain ⟨g, o, rfl, hc⟩ := reads_at hN.out ha.out
        obtain ⟨g', o', rfl, hc'⟩ := reads_at hN'.out hb.out
        have n1 := stay HB hc
        have n2 := stay HB hc'
        have i1 : (q : Int) < (ns.length : Int) := by omega
        have i2 : (0 : Int) ≤ (q : Int) := by omega
        have i3 : (q : Int) < (ns'.length : Int) := by omega
        have hd : decide ((q : Int) < (ns.length : Int)) = true := by simp; omega
        clear hc hc'
        by_cases hab : a = b
        · subst hab
          have HT' : Hid (ns.take (q + 1) = ns'.take (q + 1)) := by rw [Hid, List.take_add_one, List.take_add_one, ha.out, hb.out, HT.out]
          go_wp2_with fail
          go_quiet (fail)
          go_wp2_with fail
          go_roundw
          case rel => exact ⟨q + 1, by omega, by go_num, below_drewN HB nq, HT'⟩
          case measure => simp [intOf]; omega
        · have b1 : (a.toList == b.toList) = false := by rw [str_beq]; simpa using hab
          have hRf : R = false := by
            rw [← hR.out]
            refine decide_eq_false (fun e => hab ?_)
            have h1 := ha.out
            rw [e, hb.out] at h1
            exact (Option.some.inj h1).symm
          go_wp2_with fail
          go_quiet (fail)
          go_wp2_with fail
          go_ret
          exact ⟨ret_bool hRf.symm, below_drewN HB nq⟩
      · have hd : decide ((q : Int) < (ns.length : Int)) = false := by simp; omega
        have hRt : R = true := by
          rw [← hR.out]
          refine decide_eq_true ?_
          have h1 := HT.out
          rwa [List.take_of_length_le (by omega), List.take_of_length_le (by omega)] at h1
        go_wp2_with fail
        go_ret
        exact ⟨ret_bool hRt.symm, HB⟩
  · have hlb : ((ns.length : Int) == (ns'.length : Int)) = false := by simp; omega
    have hRf : R = false := by
      rw [← hR.out]
      exact decide_eq_false (fun e => hl (by rw [e]))
    go_enter Tryz.func30, Tryz.ntmps30
    go_wp2_with fail
    go_ret
    exact ⟨ret_bool hRf.symm, Below.refl _ _⟩
end Go.Proofs.YthgnkhpomhcdkaaGreatDoor
