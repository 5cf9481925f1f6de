import Derived.Test.YtbcfkajcmbckbaaGreatDoorAQ
import Derived.Deep.Cut
/-! slices.Reverse of at most 8 texts. -/
namespace Go.Proofs.YtbcfkajcmbckbaaGreatDoor
open Go Go.RowKit

/-- So many texts lie in a row, and may be written. -/
def TxtsIn (w : World) (g o n : Nat) : Prop := ∀ q, q < n → (∃ s, w.cell? ⟨g, o + q, none⟩ = some (.string s)) ∧ w.frozen? ⟨g, o + q, none⟩ = false
theorem TxtsIn.set {w : World} {g o n : Nat} (h : TxtsIn w g o n) (q : Nat) (s : ByteArray) : TxtsIn (w.setCell ⟨g, o + q, none⟩ (.string s)) g o n := fun j hj => by
  obtain ⟨⟨x, hx⟩, hf⟩ := h j hj
  refine ⟨?_, by rw [World.frozen?_setCell]; exact hf⟩
  by_cases e : j = q
  · subst e
    exact ⟨s, World.cell?_setCell_same _ _ _ hx⟩
  · exact ⟨x, (World.cell?_setCell_other _ _ _ _ (fun h => by injection h with _ h; omega)).trans hx⟩
theorem TxtsIn.drewN {w : World} {g o n : Nat} (h : TxtsIn w g o n) (k : Nat) : TxtsIn (w.drewN k) g o n := h
set_option maxHeartbeats 2000000 in
set_option maxRecDepth 100000 in
theorem reverse_few (g o n c : Nat) (w : World) (hn : n ≤ 8) (hT : TxtsIn w g o n) : Calls Tryz.prog 48 #[.slice (some ⟨g, o, none⟩) n c] w fun e w' => e = .returned (.tuple #[]) ∧ Fr (fun b => b = g) w w' := by
  replace hT := hid_of hT
  have hn2 : (n : Int) ≤ 8 := by omega
  go_enter Tryz.func48, Tryz.ntmps48
  go_wp2_with fail
  go_loopw [2, 3] (fun iv jv wr => ∃ (i : Nat) (j : Int), iv = .int .i64 i ∧ jv = .int .i64 j ∧ i ≤ 8 ∧ -1 ≤ j ∧ j < n ∧ Hid (TxtsIn wr g o n) ∧ Hid (Fr (fun b => b = g) w wr)) (fun iv _ _ => 8 - (intOf iv).toNat)
  case atStart => exact ⟨0, (n : Int) - 1, rfl, by go_num, by omega, by omega, by omega, hT, hid_of (Fr.refl _ w)⟩
  case round =>
    obtain ⟨i, j, rfl, rfl, hi8, hj1, hjn, hTr, hFr⟩ := hrel
    by_cases hij : (i : Int) < j
    · obtain ⟨q, rfl⟩ : ∃ q : Nat, j = (q : Int) := ⟨j.toNat, by omega⟩
      have hq : (q : Int) < (n : Int) := hjn
      have hi : (i : Int) < (n : Int) := by omega
      obtain ⟨⟨s, hs⟩, fs⟩ := hTr.out i (by omega)
      obtain ⟨⟨t, ht⟩, ft⟩ := hTr.out q (by omega)
      have hne : (⟨g, o + i, none⟩ : Addr) ≠ ⟨g, o + q, none⟩ := fun h => by injection h with _ h; omega
      have ht2 : (wr.setCell ⟨g, o + i, none⟩ (.string t)).cell? ⟨g, o + q, none⟩ = some (.string t) := (World.cell?_setCell_other _ _ _ _ hne).trans ht
      have hT2 := hid_of ((hTr.out.set i t).set q s)
      have hF2 := hid_of ((hFr.out.set ⟨g, o + i, none⟩ (.string t) (.inl rfl)).set ⟨g, o + q, none⟩ (.string s) (.inl rfl))
      clear hTr hFr hT
      go_upto_region 3 with fail
      go_region
      replace hT2 : Hid (TxtsIn ((wr.setCell ⟨g, o + i, none⟩ (.string t)).setCell ⟨g, o + q, none⟩ (.string s)).drew g o n) := hT2
      replace hF2 := hid_of hF2.out.drew
      clear hs ht ht2 fs ft hne
      generalize ((wr.setCell ⟨g, o + i, none⟩ (.string t)).setCell ⟨g, o + q, none⟩ (.string s)).drew = W at *
      go_wp2_with fail
      go_roundw
      case rel => exact ⟨i + 1, (q : Int) - 1, by go_num, by go_num, by omega, by omega, by omega, hT2, hF2⟩
      case measure => simp [intOf]; omega
    · go_wp2_with fail
      go_end0
      exact ⟨rfl, hFr.out⟩
set_option maxHeartbeats 1000000 in
set_option maxRecDepth 100000 in
theorem reverse_nil (a : Option Addr) (c : Nat) (w : World) : Calls Tryz.prog 48 #[.slice a 0 c] w fun e w' => e = .returned (.tuple #[]) ∧ w' = w := by
  go_enter Tryz.func48, Tryz.ntmps48
  go_wp2_with fail
  refine wp_loop_rounds 1 ?_
  rw [rounds_succ]
  go_wp2_with fail
  go_end0
  exact ⟨rfl, rfl⟩
end Go.Proofs.YtbcfkajcmbckbaaGreatDoor
