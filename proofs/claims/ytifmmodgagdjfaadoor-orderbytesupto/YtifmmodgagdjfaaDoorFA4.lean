import Derived.Test.YtifmmodgagdjfaaDoorFA3
import Derived.Test.YtifmmodgagdjfaaDoorF5
import Derived.Test.YtifmmodgagdjfaaDoorRA3
/-! The document's bytes of every value. -/
namespace Go.Proofs.YtifmmodgagdjfaaDoor
open Go Go.RowKit

set_option maxHeartbeats 1000000 in
theorem rlaid_any (t : Tr) (hG : GoodK t) (w0 : World) (lo : Nat) (hl0 : w0.heap.size ≤ lo) (cs : List Value) (W : World) (v : Value) (l : List UInt8) (hV : VRep w0 t cs) (hB : Below w0.heap.size w0 W) (hlo : lo ≤ W.heap.size) (hown : W.ownsRow lo 5 1 v l.length (Lib.byteCells l)) (hb : l.length + 2 * (keyT t).length ≤ 100000000000) :
    Calls Tryd.prog 26 #[v, .agg cs.toArray] W (KeyPost lo W v (l ++ keyT t)) := by
  match t, hG, hV, hb with
  | .node k x s ns its, hG, hV, hb =>
    unfold VRep at hV
    obtain ⟨nm, a, c, rfl, hn, hc, hI⟩ := hV
    obtain ⟨an, cn, rfl, -, -⟩ := id hn
    unfold GoodK at hG
    obtain ⟨⟨h0, h6⟩, hx, hnl, hg⟩ := hG
    have hoks : RlaidOks w0 lo its := fun i u hu cs' W' v' l' e1 e2 e3 e4 e5 => by
      have hlt : SizeOf.sizeOf u < SizeOf.sizeOf its := tr_lt hu
      exact rlaid_any u (goodL_at hg hu) w0 lo hl0 cs' W' v' l' e1 e2 e3 e4 e5
    rcases seven h0 h6 with rfl | rfl | rfl | rfl | rfl | rfl | rfl
    · rw [keyT0] at hb ⊢
      exact rlaid_0 x s an ns.length cn a its.length c v l lo W hlo (hid_e hown) (by simp only [List.length_cons, List.length_nil] at hb; omega)
    · rw [keyT1] at hb ⊢
      exact rlaid_1 x s an ns.length cn a its.length c v l lo W hlo (hid_e hown) (by simp only [List.length_cons, List.length_nil] at hb; omega)
    · rw [keyT2] at hb ⊢
      exact rlaid_2 x s an ns.length cn a its.length c v l lo W hlo (hid_e hown) (by simp only [List.length_cons, List.length_nil] at hb; omega)
    · rw [keyT3] at hb ⊢
      exact rlaid_3 x s an ns.length cn a its.length c v l lo W hx hlo (hid_e hown) (by simp only [List.length_cons] at hb; omega)
    · rw [keyT4] at hb ⊢
      exact rlaid_4 x s an ns.length cn a its.length c v l lo W hlo (hid_e hown) (by simp only [List.length_cons] at hb; omega)
    · rw [keyT5] at hb ⊢
      exact rlaid_5 x s an ns.length cn a c its v l lo w0 W hB hl0 hlo (hid_e hown) (by omega) (by simp only [List.length_cons] at hb; omega) (hid_e hI) (hid_e hoks)
    · rw [keyT6] at hb ⊢
      have hnl' := hnl rfl
      rw [hnl'] at hn ⊢
      exact rlaid_6 x s an cn ns a c its v l lo w0 W hB hl0 hlo (hid_e hown) (by omega) (by simp only [List.length_cons] at hb; omega) (hid_e hnl') (hid_e hn) (hid_e hI) (hid_e hoks)
termination_by SizeOf.sizeOf t
decreasing_by simp only [Tr.node.sizeOf_spec]; omega
set_option maxHeartbeats 2000000 in
set_option maxRecDepth 100000 in
theorem rbytes_code (t : Tr) (k x : Int) (s : ByteArray) (an : Option Addr) (ln cn : Nat) (ai : Option Addr) (li ci : Nat) (w : World) (hV : Hid (VRep w t (five k x s (.slice an ln cn) (.slice ai li ci)))) (hS : Hid (SmallT t)) (hR : Hid (RangeT t)) (hT : Hid (checkT 0 t = 0 → 2 * (keyT t).length ≤ 100000000000)) :
    Calls Tryd.prog 13 #[.agg #[.int .i64 k, .int .i64 x, .string s, .slice an ln cn, .slice ai li ci]] w (BytesPost w t) := by
  have hB : ∀ o, Below w.heap.size w (w.alloc o) := fun o => (Below.refl _ _).alloc (Nat.le_refl _) _
  have hcall := fun o => hid_e (ref_check t k x s an ln cn ai li ci (w.alloc o) (VRep.keep (hB o) _ _ hV.out) hS.out)
  unfold BytesPost
  obtain ⟨c, hc⟩ : ∃ c, Hid (checkT 0 t = c) := ⟨_, hid_e rfl⟩
  rw [hc.out] at hcall ⊢
  go_enter Tryd.func13, Tryd.ntmps13
  go_wp2_with fail
  go_fit (hcall _).out
  rintro e w1 ⟨rfl, hb1⟩
  clear hcall
  have hbw1 := below_box hb1
  by_cases h0 : c = 0
  · subst h0
    have hlaid := hid_e (rlaid_any t (good_of t 0 hc.out hR.out) w w.heap.size (Nat.le_refl _) _ w1 (.slice none 0 0) [] hV.out hbw1 hbw1.size (World.ownsRow_nil _ _ _ _) (by have := hT.out hc.out; simp only [List.length_nil]; omega))
    rw [List.nil_append] at hlaid
    have u0 : w1.cell? ⟨w.heap.size, 0, none⟩ = some (.int .i64 k) := box_cells hb1 0
    have u1 : w1.cell? ⟨w.heap.size, 1, none⟩ = some (.int .i64 x) := box_cells hb1 1
    have u2 : w1.cell? ⟨w.heap.size, 2, none⟩ = some (.string s) := box_cells hb1 2
    have u3 : w1.cell? ⟨w.heap.size, 3, none⟩ = some (.slice an ln cn) := box_cells hb1 3
    have u4 : w1.cell? ⟨w.heap.size, 4, none⟩ = some (.slice ai li ci) := box_cells hb1 4
    clear hb1
    go_wp2_with fail
    clear u0 u1 u2 u3 u4
    go_fit hlaid.out
    rintro e w2 ⟨kv, rfl, hK⟩
    have hb2 : Below w.heap.size w w2 := hbw1.trans (grown_below hK.grown hbw1.size (fun g hg => by simp [Value.ownBlock] at hg))
    have hK' := hid_e hK.own
    clear hlaid hK
    go_wp2_with fail
    go_ret2
    exact ⟨kv, rfl, ⟨fun h => absurd hc.out h, fun _ => hK'.out, hb2⟩⟩
  · have h0' : (c == 0) = false := by simpa using h0
    go_wp2_with fail
    go_ret2
    exact ⟨_, rfl, ⟨fun _ => rfl, fun h => absurd (hc.out.symm.trans h) h0, hbw1⟩⟩
end Go.Proofs.YtifmmodgagdjfaaDoor
