import Derived.Test.YtjmneiepcbpdpaaDoorBG
import Derived.Test.YtjmneiepcbpdpaaDoorBE
/-! The reader's texts. -/
namespace Go.Proofs.YtjmneiepcbpdpaaDoor
open Go Go.RowKit

theorem valid_own {w : World} {lo : Nat} {v : Value} {s : List UInt8} (h : w.ownsRow lo 5 1 v s.length (Lib.byteCells s)) (hT : Lib.Utf8Tabs 1 2 w) :
    Calls Tryd.prog 58 #[v] w fun e w' => e = .returned (.bool (Lib.validD s)) ∧ Below w.heap.size w w' := by
  rcases h.2 with ⟨hv, h0⟩ | ⟨g, cap, cur, hv, hg, hh, hc, hm, r⟩
  · obtain rfl : s = [] := List.eq_nil_of_length_eq_zero h0
    subst hv
    exact valid_nil w
  · subst hv
    exact valid_code g 0 s.length cap s w rfl hc (by unfold maxLen at hm; omega) (own_lie h) hT
def cleanR (s : List UInt8) (q st : Nat) : Rd ByteArray := if Lib.validD s = true then .ok ⟨s.toArray⟩ (q + 1) else .no 13 st
set_option maxHeartbeats 2000000 in
theorem clean_code (r g cap q st n lo : Nat) (v : Value) (s : List UInt8) (w : World) (h : At w r g cap n q) (hq : q ≤ 1000000000) (hlo : r < lo) (hown : Hid (w.ownsRow lo 5 1 v s.length (Lib.byteCells s))) (hT : Hid (Lib.Utf8Tabs 1 2 w)) :
    Calls Tryd.prog 45 #[.pointer (some ⟨r, 0, none⟩), v, .int .i64 (st : Int)] w fun x w' => x = .returned (.tuple #[.string (cleanR s q st).text, .int .i64 (cleanR s q st).code]) ∧ At w' r g cap n (cleanR s q st).place ∧ Fr (· = r) w w' := by
  have hv := hid_e (valid_own hown.out hT.out)
  obtain ⟨C, hC⟩ : ∃ C, Hid (cleanR s q st = C) := ⟨_, hid_e rfl⟩
  rw [hC.out]
  go_enter Tryd.func45, Tryd.ntmps45
  go_wp2_with fail
  go_fit hv.out
  rintro e w1 ⟨rfl, hb1⟩
  have hA1 := h.keep (S := fun _ => False) (Fr.of_below hb1) (fun e => e)
  have hF1 : Fr (· = r) w w1 := Fr.of_below hb1
  cases hva : Lib.validD s with
  | false =>
    obtain rfl : C = .no 13 st := by rw [← hC.out]; unfold cleanR; rw [hva]; rfl
    have hf := hid_e (fault_code r g cap n q st 13 w1 hA1)
    go_wp2_with fail
    go_fit hf.out
    rintro e w2 ⟨rfl, h1, h2⟩
    go_wp2_with fail
    go_ret2
    exact ⟨rfl, h1, hF1.trans h2⟩
  | true =>
    obtain rfl : C = .ok ⟨s.toArray⟩ (q + 1) := by rw [← hC.out]; unfold cleanR; rw [hva]; rfl
    obtain ⟨y0, y1, yf⟩ := two_cells hA1
    have yf1 := yf 1
    have hown2 := ownsRow_keep (w' := w1.setCell ⟨r, 1, none⟩ (.int .i64 ((q + 1 : Nat) : Int))) (ownsRow_below hown.out hb1) (fun g hg => Below.heap_setCell _ _ _ _ (by have := (ownsRow_ge hown.out hg).1; show g ≠ r; omega))
    have hcv := own_conv hown2
    have hA2 := hA1.set (q + 1)
    have hF2 := hF1.set ⟨r, 1, none⟩ (.int .i64 ((q + 1 : Nat) : Int)) (.inl rfl)
    go_upto_region 4 with fail
    rw [show (q : Int) + 1 = ((q + 1 : Nat) : Int) by omega]
    generalize w1.setCell ⟨r, 1, none⟩ (.int .i64 ((q + 1 : Nat) : Int)) = X at hcv hA2 hF2 ⊢
    clear y0 y1 yf1 yf hown2
    go_wp2_with fail
    go_ret2
    exact ⟨rfl, hA2, hF2⟩
end Go.Proofs.YtjmneiepcbpdpaaDoor
