import Derived.Test.YtgjemghfejaifaaGreatDoorSG
/-! schema: the maker of type. -/
namespace Go.Proofs.YtgjemghfejaifaaGreatDoor
open Go Go.RowKit

/-- The table of the types' names. -/
def TysAt (w : World) : Prop := ∀ q, q < 7 → w.cell? ⟨0, q, none⟩ = some (.string (tyAt q))
theorem TysAt.keep {w w' : World} (h : TysAt w) (hk : w'.heap[0]? = w.heap[0]?) : TysAt w' := fun q hq =>
  (World.cell?_of_block (w := w) hk).trans (h q hq)
theorem tyAt_get {q : Nat} (h : q < 7) : tys[q]? = some (tyAt q) := by
  unfold tyAt
  rw [List.getD_eq_getElem?_getD, List.getElem?_eq_getElem (show q < tys.length from h)]
  rfl
def knownT (s : ByteArray) (q : Nat) : Bool := (tys.take q).any (fun t => decide (t = s))
theorem knownT_next {s : ByteArray} {q : Nat} (h : q < 7) : knownT s (q + 1) = (knownT s q || decide (tyAt q = s)) := by
  unfold knownT
  rw [List.take_add_one, tyAt_get h, List.any_append]
  simp
theorem bytes_ne {a b : ByteArray} (h : a ≠ b) : (a.toList == b.toList) = false := by
  rw [beq_eq_false_iff_ne]
  intro e
  rw [ByteArray.toList_eq, ByteArray.toList_eq] at e
  exact h (ByteArray.ext (Array.toList_inj.1 e))
theorem bytes_same (a : ByteArray) : (a.toList == a.toList) = true := by simp
set_option maxHeartbeats 4000000 in
set_option maxRecDepth 100000 in
theorem addTy_any (tb : Nat) (s : ByteArray) (cs : Array Value) (w : World) (hT : Hid (TysAt w)) (ht : Hid (tb ≠ 0)) (hcs : cs.size = 7) (hX : Hid (w.heap[tb]? = some (.cells cs 94 (0, 0)))) :
    Calls Tryz.prog 51 #[.pointer (some ⟨tb, 0, none⟩), .string s] w fun e w' => e = .returned (.bool (tyName s)) ∧ Fr (fun b => b = tb) w w' ∧ ∃ cs, cs.size = 7 ∧ w'.heap[tb]? = some (.cells cs 94 (0, 0)) := by
  go_enter Tryz.func51, Tryz.ntmps51
  go_wp2_with fail
  go_loopw [5, 7] (fun k i wr => ∃ q : Nat, q ≤ 7 ∧ i = .int .i64 q ∧ k = .bool (knownT s q) ∧ Hid (Fr (fun b => b = tb) w wr) ∧ Hid (∃ cs, cs.size = 7 ∧ wr.heap[tb]? = some (.cells cs 94 (0, 0)))) (fun k i _ => 7 - (intOf i).toNat)
  case atStart => exact ⟨0, by omega, rfl, rfl, Fr.refl _ _, ⟨cs, hcs, hX.out⟩⟩
  case round =>
    obtain ⟨q, hq, rfl, rfl, hF, hC⟩ := hrel
    by_cases hlt : q < 7
    · have hi : (q : Int) < 7 := by omega
      have hnx := hid_of (knownT_next (s := s) hlt)
      have c0 := (World.cell?_of_block (w := w) (hF.out.block 0 (lt_of_cell (hT.out q hlt)) (fun e => ht.out e.symm))).trans (hT.out q hlt)
      obtain ⟨cs', hcs', hX'⟩ := hC.out
      have f0 : wr.frozen? ⟨tb, q, none⟩ = false := by simp [World.frozen?, hX']
      have hqc : q < cs'.size := by omega
      obtain ⟨uq, e0⟩ : ∃ u, wr.cell? ⟨tb, q, none⟩ = some u := ⟨cs'[q], by simp [World.cell?, hX', hqc]⟩
      have hfin := hid_of (show (wr.setCell ⟨tb, q, none⟩ (.bool true)).heap[tb]? = some (.cells (cs'.setIfInBounds q (.bool true)) 94 (0, 0)) by simp [World.setCell, Array.getElem?_modify, hX'])
      have hF2 := hid_of (hF.out.set ⟨tb, q, none⟩ (.bool true) (.inl rfl))
      have hs2 := hid_of (show (cs'.setIfInBounds q (.bool true)).size = 7 by simp [hcs'])
      have hC2 := hC
      clear hX' hqc hC
      by_cases heq : tyAt q = s
      · have hb := bytes_same s
        have hk : Hid (knownT s (q + 1) = true) := by rw [Hid, hnx.out, heq]; simp
        rw [heq] at c0
        clear hnx heq
        go_wp2_with fail
        go_roundw
        case rel => exact ⟨q + 1, by omega, by go_num, by rw [hk.out], hF2, ⟨_, hs2.out, hfin.out⟩⟩
        case measure => simp [intOf]; omega
      · have hb := bytes_ne heq
        have hk : Hid (knownT s (q + 1) = knownT s q) := by rw [Hid, hnx.out, decide_eq_false heq]; simp
        clear hnx heq
        rw [← hk.out]
        go_wp2_with fail
        go_roundw
        case rel => exact ⟨q + 1, by omega, by go_num, rfl, hF, hC2⟩
        case measure => simp [intOf]; omega
    · have e : q = 7 := by omega
      have hi : ¬ (q : Int) < 7 := by omega
      have hk : Hid (knownT s q = tyName s) := by rw [e]; rfl
      rw [hk.out]
      clear hlt e
      go_wp2_with fail
      go_ret
      obtain ⟨cs', h1, h2⟩ := hC.out
      exact ⟨rfl, hF.out, cs', h1, h2⟩
end Go.Proofs.YtgjemghfejaifaaGreatDoor
