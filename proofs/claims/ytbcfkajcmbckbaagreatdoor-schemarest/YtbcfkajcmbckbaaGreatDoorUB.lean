import Derived.Test.YtbcfkajcmbckbaaGreatDoorTJ
/-! The document's reader of schemas: fails, Type, types, list. -/
namespace Go.Proofs.YtbcfkajcmbckbaaGreatDoor
open Go Go.RowKit

/-- The document's checker. -/
def CkAt (w : World) (cb : Nat) (n : Nat) (e : Int) : Prop := w.heap[cb]? = some (.cells #[.int .i64 (n : Int), .int .i64 e] 51 (0, 0))
theorem CkAt.cells {w : World} {cb n : Nat} {e : Int} (h : CkAt w cb n e) : w.cell? ⟨cb, 0, none⟩ = some (.int .i64 (n : Int)) ∧ w.cell? ⟨cb, 1, none⟩ = some (.int .i64 e) ∧ w.frozen? ⟨cb, 0, none⟩ = false ∧ w.frozen? ⟨cb, 1, none⟩ = false := by
  unfold CkAt at h
  refine ⟨?_, ?_, ?_, ?_⟩ <;> simp [World.cell?, World.frozen?, h]
theorem CkAt.lt {w : World} {cb n : Nat} {e : Int} (h : CkAt w cb n e) : cb < w.heap.size := (Array.getElem?_eq_some_iff.1 h).1
theorem CkAt.keep {w w' : World} {cb n : Nat} {e : Int} (h : CkAt w cb n e) (hb : Below w.heap.size w w') : CkAt w' cb n e := (hb.block _ h.lt).trans h
theorem CkAt.set1 {w : World} {cb n : Nat} {e : Int} (h : CkAt w cb n e) (z : Int) : CkAt (w.setCell ⟨cb, 1, none⟩ (.int .i64 z)) cb n z := by
  unfold CkAt at h ⊢
  simp [World.setCell, Array.getElem?_modify, h]
theorem CkAt.set0 {w : World} {cb n : Nat} {e : Int} (h : CkAt w cb n e) (z : Int) (m : Nat) (hz : z = (m : Int)) : CkAt (w.setCell ⟨cb, 0, none⟩ (.int .i64 z)) cb m e := by
  subst hz
  unfold CkAt at h ⊢
  simp [World.setCell, Array.getElem?_modify, h]
set_option maxHeartbeats 1000000 in
set_option maxRecDepth 100000 in
theorem fails_any (cb n : Nat) (z : Int) (w : World) (h : CkAt w cb n 0) : Calls Tryz.prog 28 #[.pointer (some ⟨cb, 0, none⟩), .int .i64 z] w fun e w' => e = .returned (.tuple #[]) ∧ CkAt w' cb n z ∧ Fr (fun b => b = cb) w w' := by
  obtain ⟨c0, c1, -, f1⟩ := h.cells
  have hs := hid_of (h.set1 z)
  have hF := hid_of ((Fr.refl (fun b => b = cb) w).set ⟨cb, 1, none⟩ (.int .i64 z) (.inl rfl))
  clear h
  go_enter Tryz.func28, Tryz.ntmps28
  go_wp2_with fail
  go_end0
  exact ⟨rfl, hs.out, hF.out⟩
/-- The names that the document's Type knows. -/
def tys6 : List ByteArray := [⟨#[110, 117, 108, 108]⟩, ⟨#[98, 111, 111, 108]⟩, ⟨#[105, 110, 116]⟩, ⟨#[115, 116, 114, 105, 110, 103]⟩, ⟨#[97, 114, 114, 97, 121]⟩, ⟨#[111, 98, 106, 101, 99, 116]⟩]
theorem tys6_name (s : ByteArray) : tys6.any (fun t => decide (t = s)) = tyName s := by
  unfold tyName tys tys6
  simp only [List.any_cons, List.any_nil, Bool.or_false]
  cases decide ((⟨#[98, 111, 111, 108]⟩ : ByteArray) = s) <;> simp
set_option maxHeartbeats 4000000 in
set_option maxRecDepth 100000 in
theorem type_any (s : ByteArray) (w : World) : Calls Tryz.prog 65 #[.string s] w fun e w' => ∃ z : Int, e = .returned (.int .i64 z) ∧ decide (z < 0) = !tyName s ∧ Below w.heap.size w w' := by
  go_enter Tryz.func65, Tryz.ntmps65
  have hBX := hid_of (((Below.refl _ w).alloc (Nat.le_refl _) (.cells #[.string ⟨#[110, 117, 108, 108]⟩, .string ⟨#[98, 111, 111, 108]⟩, .string ⟨#[105, 110, 116]⟩, .string ⟨#[115, 116, 114, 105, 110, 103]⟩, .string ⟨#[97, 114, 114, 97, 121]⟩, .string ⟨#[111, 98, 106, 101, 99, 116]⟩] 9)).alloc (by simp) (.cells #[.int .i64 0, .int .i64 2, .int .i64 3, .int .i64 4, .int .i64 5, .int .i64 6] 3))
  have n1 := new1 w (.cells #[.string ⟨#[110, 117, 108, 108]⟩, .string ⟨#[98, 111, 111, 108]⟩, .string ⟨#[105, 110, 116]⟩, .string ⟨#[115, 116, 114, 105, 110, 103]⟩, .string ⟨#[97, 114, 114, 97, 121]⟩, .string ⟨#[111, 98, 106, 101, 99, 116]⟩] 9) (.cells #[.int .i64 0, .int .i64 2, .int .i64 3, .int .i64 4, .int .i64 5, .int .i64 6] 3)
  have n2 := new2 w (.cells #[.string ⟨#[110, 117, 108, 108]⟩, .string ⟨#[98, 111, 111, 108]⟩, .string ⟨#[105, 110, 116]⟩, .string ⟨#[115, 116, 114, 105, 110, 103]⟩, .string ⟨#[97, 114, 114, 97, 121]⟩, .string ⟨#[111, 98, 106, 101, 99, 116]⟩] 9) (.cells #[.int .i64 0, .int .i64 2, .int .i64 3, .int .i64 4, .int .i64 5, .int .i64 6] 3)
  go_wp2_with fail
  generalize (w.alloc (.cells #[.string ⟨#[110, 117, 108, 108]⟩, .string ⟨#[98, 111, 111, 108]⟩, .string ⟨#[105, 110, 116]⟩, .string ⟨#[115, 116, 114, 105, 110, 103]⟩, .string ⟨#[97, 114, 114, 97, 121]⟩, .string ⟨#[111, 98, 106, 101, 99, 116]⟩] 9)).alloc (.cells #[.int .i64 0, .int .i64 2, .int .i64 3, .int .i64 4, .int .i64 5, .int .i64 6] 3) = X at *
  replace n1 := hid_of n1
  replace n2 := hid_of n2
  have h0 : Hid ((tys6.drop 0).any (fun t => decide (t = s)) = tyName s) := tys6_name s
  go_loopw [5] (fun i wr => ∃ q : Nat, q ≤ 6 ∧ i = .int .i64 q ∧ wr = X ∧ Hid ((tys6.drop q).any (fun t => decide (t = s)) = tyName s)) (fun i _ => 6 - (intOf i).toNat)
  case atStart => exact ⟨0, by omega, rfl, rfl, h0⟩
  case round =>
    obtain ⟨q, hq, rfl, hwr, hR⟩ := hrel
    replace hwr := hwr.symm
    subst hwr
    by_cases hlt : q < 6
    · have hi : (q : Int) < 6 := by omega
      have hq5 : q < tys6.length := hlt
      obtain ⟨t, ht⟩ : ∃ t, Hid (tys6[q]? = some t) := ⟨_, hid_e (List.getElem?_eq_getElem hq5)⟩
      have c0 : X.cell? ⟨w.heap.size, q, none⟩ = some (.string t) := by
        rw [cell_of n1.out q]
        have := ht.out
        rcases q with _ | _ | _ | _ | _ | _ | q <;> first | (simp [tys6] at this ⊢; exact this) | omega
      obtain ⟨z, hz, c1⟩ : ∃ z : Int, Hid (0 ≤ z) ∧ X.cell? ⟨w.heap.size + 1, q, none⟩ = some (.int .i64 z) := by
        rcases q with _ | _ | _ | _ | _ | _ | q
        · exact ⟨0, by show (0 : Int) ≤ 0; decide, cell_of n2.out 0⟩
        · exact ⟨2, by show (0 : Int) ≤ 2; decide, cell_of n2.out 1⟩
        · exact ⟨3, by show (0 : Int) ≤ 3; decide, cell_of n2.out 2⟩
        · exact ⟨4, by show (0 : Int) ≤ 4; decide, cell_of n2.out 3⟩
        · exact ⟨5, by show (0 : Int) ≤ 5; decide, cell_of n2.out 4⟩
        · exact ⟨6, by show (0 : Int) ≤ 6; decide, cell_of n2.out 5⟩
        · omega
      have hdr : Hid ((tys6.drop q).any (fun t => decide (t = s)) = (decide (t = s) || (tys6.drop (q + 1)).any (fun t => decide (t = s)))) := by
        rw [Hid, List.drop_eq_getElem_cons hq5, (List.getElem?_eq_some_iff.1 ht.out).2, List.any_cons]
      clear hq5
      by_cases heq : t = s
      · have hb := bytes_same s
        have hk : Hid (tyName s = true) := by rw [Hid, ← hR.out, hdr.out, heq]; simp
        rw [heq] at c0
        clear hdr heq ht
        go_wp2_with fail
        go_ret
        refine ⟨z, rfl, ?_, hBX.out⟩
        rw [hk.out]
        have := hz.out
        simp; omega
      · have hb := bytes_ne heq
        have hk : Hid ((tys6.drop (q + 1)).any (fun t => decide (t = s)) = tyName s) := by rw [Hid, ← hR.out, hdr.out, decide_eq_false heq]; simp
        clear hdr heq ht
        go_wp2_with fail
        go_roundw
        case rel => exact ⟨q + 1, by omega, by go_num, by first | trivial | rfl, hk⟩
        case measure => simp [intOf]; omega
    · have e : q = 6 := by omega
      have hi : ¬ (q : Int) < 6 := by omega
      have hk : Hid (tyName s = false) := by rw [Hid, ← hR.out, e]; rfl
      clear hlt e
      go_wp2_with fail
      go_ret
      refine ⟨-1, ?_, ?_, hBX.out⟩
      · first | rfl | simp
      · rw [hk.out]; rfl
end Go.Proofs.YtbcfkajcmbckbaaGreatDoor
/-! The document's lists of types, and its lists. -/
namespace Go.Proofs.YtbcfkajcmbckbaaGreatDoor
open Go Go.RowKit

set_option maxHeartbeats 4000000 in
set_option maxRecDepth 100000 in
theorem rtypes_any (a : Option Addr) (c : Nat) (its : List Tr) (w : World) (hI : Hid (RowT w a its)) (hl : its.length ≤ 1759218604390) :
    Calls Tryz.prog 52 #[.slice a its.length c] w fun e w' => e = .returned (.bool (decide (its ≠ []) && its.all isTy)) ∧ Below w.heap.size w w' := by
  obtain ⟨R, hRR⟩ : ∃ R, Hid ((decide (its ≠ []) && its.all isTy) = R) := ⟨_, rfl⟩
  rw [hRR.out]
  have h0 : Hid ((decide (its ≠ []) && (its.drop 0).all isTy) = R) := hRR
  go_enter Tryz.func52, Tryz.ntmps52
  go_wp2_with fail
  go_loopw [3] (fun i wr => ∃ q : Nat, q ≤ its.length ∧ i = .int .i64 q ∧ Hid (Below w.heap.size w wr) ∧ Hid ((decide (its ≠ []) && (its.drop q).all isTy) = R)) (fun i _ => its.length - (intOf i).toNat)
  case atStart => exact ⟨0, Nat.zero_le _, rfl, Below.refl _ _, h0⟩
  case round =>
    obtain ⟨q, hq, rfl, hB, hM⟩ := hrel
    by_cases hlt : q < its.length
    · obtain ⟨t, ht⟩ : ∃ t, Hid (its[q]? = some t) := ⟨_, hid_e (List.getElem?_eq_getElem hlt)⟩
      obtain ⟨g, o, hai, hg, hV⟩ := hI.out.resolve_left (by intro e; subst e; simp at hlt)
      obtain ⟨cs, hCs, hr⟩ := VRepL.at its o q t hV ht.out
      obtain ⟨v, rfl⟩ := vrep_v5 hr
      have hvk := vrep_head hr
      unfold V5.cs five at hCs
      have z0 := stay hB.out (hCs 0 _ rfl)
      have z2 := stay hB.out (hCs 2 _ rfl)
      simp only [Nat.add_zero] at z0
      have hst := hid_of (all_at (f := isTy) ht.out)
      have hi : (q : Int) < (its.length : Int) := by omega
      have hne : Hid (its ≠ []) := by intro e; rw [e] at hlt; simp at hlt
      rw [hai]
      clear hV hCs hr hg
      by_cases hk : v.k = 4
      · have hb4 : (v.k != 4) = false := by simp [hk]
        have hsT : Hid (isTy t = tyName v.s) := by rw [Hid]; unfold isTy; rw [hvk.1, hvk.2, hk]; simp
        have hty := hid_of (type_any v.s wr)
        clear hk hvk
        obtain ⟨kn, hkn⟩ : ∃ k, Hid (tyName v.s = k) := ⟨_, rfl⟩
        rw [hkn.out] at hty hsT
        go_wp2_with fail
        refine hty.out.mono ?_
        rintro e W ⟨z, rfl, hz, hb⟩
        have hB2 := hid_of (hB.out.trans (hb.mono hB.out.size))
        clear hty hb z0 z2
        cases kn with
        | true =>
          have hz0 : decide (z < 0) = false := hz
          have hM2 : Hid ((decide (its ≠ []) && (its.drop (q + 1)).all isTy) = R) := by rw [Hid, ← hM.out, hst.out, hsT.out, Bool.true_and]
          clear hz
          go_wp2_with fail
          go_roundw
          case rel => exact ⟨q + 1, by omega, by go_num, hB2, hM2⟩
          case measure => simp [intOf]; omega
        | false =>
          have hz0 : decide (z < 0) = true := hz
          have hM2 : Hid (R = false) := by rw [Hid, ← hM.out, hst.out, hsT.out]; simp
          clear hz
          go_wp2_with fail
          go_ret
          exact ⟨ret_bool hM2.out.symm, hB2.out⟩
      · have hb4 : (v.k != 4) = true := by simp [hk]
        have hM2 : Hid (R = false) := by
          have : isTy t = false := by unfold isTy; rw [hvk.1]; simp [hk]
          rw [Hid, ← hM.out, hst.out, this]; simp
        clear hk hvk
        go_wp2_with fail
        go_ret
        exact ⟨ret_bool hM2.out.symm, hB.out⟩
    · have e : its.drop q = [] := List.drop_eq_nil_of_le (by omega)
      have hi : ¬ (q : Int) < (its.length : Int) := by omega
      have hM2 : Hid (R = decide (its ≠ [])) := by rw [Hid, ← hM.out, e]; simp
      clear hlt e
      go_wp2_with fail
      go_ret
      refine ⟨ret_bool ?_, hB.out⟩
      rw [hM2.out]
      cases its <;> simp <;> omega
/-- What the document's list asks. -/
def listB (k : Int) (its : List Tr) (least : Int) (texts : Bool) : Bool := (!texts || its.all (fun t => t.kind == 4)) && ((k == 5) && decide (least ≤ (its.length : Int)))
set_option maxHeartbeats 4000000 in
set_option maxRecDepth 100000 in
theorem rlist_any (u : V5) (its : List Tr) (least : Int) (texts : Bool) (w : World) (hli : Hid (u.li = its.length)) (hI : Hid (RowT w u.ai its)) (hl : its.length ≤ 1759218604390) :
    Calls Tryz.prog 53 #[u.v, .int .i64 least, .bool texts] w fun e w' => e = .returned (.bool (listB u.k its least texts)) ∧ Below w.heap.size w w' := by
  have hB0 := hid_of ((Below.refl _ w).alloc (Nat.le_refl _) (u.obj 25))
  have n0 := hid_of (heap_alloc_new w (u.obj 25))
  obtain ⟨R, hRR⟩ : ∃ R, Hid (listB u.k its least texts = R) := ⟨_, rfl⟩
  rw [hRR.out]
  have h0 : Hid (((!texts || (its.drop 0).all (fun t => t.kind == 4)) && ((u.k == 5) && decide (least ≤ (its.length : Int)))) = R) := hRR
  unfold V5.obj at *
  unfold V5.v
  go_enter Tryz.func53, Tryz.ntmps53
  go_wp2_with fail
  generalize w.alloc (.cells #[.int .i64 u.k, .int .i64 u.x, .string u.s, .slice u.an u.ln u.cn, .slice u.ai u.li u.ci] 25) = X at *
  have hRow := hid_of (RowT.keep hI.out hB0.out)
  obtain ⟨x0, x1, x2, x3, x4, -⟩ := row_cells n0.out
  go_loopw [7] (fun i wr => ∃ q : Nat, q ≤ its.length ∧ i = .int .i64 q ∧ wr = X ∧ Hid (((!texts || (its.drop q).all (fun t => t.kind == 4)) && ((u.k == 5) && decide (least ≤ (its.length : Int)))) = R)) (fun i _ => its.length - (intOf i).toNat)
  case atStart => exact ⟨0, Nat.zero_le _, rfl, rfl, h0⟩
  case round =>
    obtain ⟨q, hq, rfl, hwr, hM⟩ := hrel
    replace hwr := hwr.symm
    subst hwr
    have hqb : (q : Int) ≤ 1759218604390 := by omega
    by_cases hlt : q < its.length
    · obtain ⟨t, ht⟩ : ∃ t, Hid (its[q]? = some t) := ⟨_, hid_e (List.getElem?_eq_getElem hlt)⟩
      obtain ⟨g, o, hai, hg, hV⟩ := hRow.out.resolve_left (by intro e; subst e; simp at hlt)
      obtain ⟨cs, hCs, hr⟩ := VRepL.at its o q t hV ht.out
      obtain ⟨v, rfl⟩ := vrep_v5 hr
      have hvk := vrep_head hr
      unfold V5.cs five at hCs
      have z0 := hCs 0 _ rfl
      simp only [Nat.add_zero] at z0
      have hst := hid_of (all_at (f := fun t => t.kind == 4) ht.out)
      have hi : (q : Int) < (u.li : Int) := by have := hli.out; omega
      clear hV hCs hr hg
      cases texts with
      | true =>
        by_cases hk : v.k = 4
        · have hb4 : (v.k != 4) = false := by simp [hk]
          have hM2 : Hid (((!true || (its.drop (q + 1)).all (fun t => t.kind == 4)) && ((u.k == 5) && decide (least ≤ (its.length : Int)))) = R) := by
            rw [Hid, ← hM.out, hst.out, hvk.1, hk]; simp
          clear hk hvk hst
          go_wp2_with fail
          go_roundw
          case rel => exact ⟨q + 1, by omega, by go_num, by first | trivial | rfl, hM2⟩
          case measure => simp [intOf]; omega
        · have hb4 : (v.k != 4) = true := by simp [hk]
          have hM2 : Hid (R = false) := by rw [Hid, ← hM.out, hst.out, hvk.1]; simp [hk]
          clear hk hvk hst
          go_wp2_with fail
          go_ret
          exact ⟨ret_bool hM2.out.symm, hB0.out⟩
      | false =>
        have hM2 : Hid (((!false || (its.drop (q + 1)).all (fun t => t.kind == 4)) && ((u.k == 5) && decide (least ≤ (its.length : Int)))) = R) := by
          rw [Hid, ← hM.out]; simp
        clear hvk hst
        go_wp2_with fail
        go_roundw
        case rel => exact ⟨q + 1, by omega, by go_num, by first | trivial | rfl, hM2⟩
        case measure => simp [intOf]; omega
    · have e : its.drop q = [] := List.drop_eq_nil_of_le (by omega)
      have hi : ¬ (q : Int) < (u.li : Int) := by have := hli.out; omega
      have hM2 : Hid (R = ((u.k == 5) && decide (least ≤ (u.li : Int)))) := by rw [Hid, ← hM.out, e, hli.out]; simp
      clear hlt e
      by_cases hk : u.k = 5
      · have hb5 : (u.k == 5) = true := by simp [hk]
        clear hk
        go_wp2_with fail
        go_ret
        refine ⟨ret_bool ?_, hB0.out⟩
        rw [hM2.out, hb5]
        first | rfl | simp
      · have hb5 : (u.k == 5) = false := by simp [hk]
        clear hk
        go_wp2_with fail
        go_ret
        refine ⟨ret_bool ?_, hB0.out⟩
        rw [hM2.out, hb5]
        first | rfl | simp
end Go.Proofs.YtbcfkajcmbckbaaGreatDoor
