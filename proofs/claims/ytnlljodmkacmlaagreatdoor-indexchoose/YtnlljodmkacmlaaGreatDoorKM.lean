import Derived.Test.YtnlljodmkacmlaaGreatDoorKL
/-! Choose: the document's. -/
namespace Go.Proofs.YtnlljodmkacmlaaGreatDoor.Chk
open Go Go.RowKit

/-- The indexes of the document, in a row of pointers. -/
def QAt (w : World) (a : Option Addr) (L : List (Option ByteArray)) : Prop := ∀ (i : Nat) o, L[i]? = some o → ∃ b of v, a = some ⟨b, of, none⟩ ∧ w.cell? ⟨b, of + i, none⟩ = some v ∧ ((o = none ∧ v = .pointer none) ∨ ∃ pt xb nm un pv, o = some pt ∧ v = .pointer (some ⟨xb, 0, none⟩) ∧ RxAt w xb nm pt un pv)
theorem QAt.keep {w w' : World} {a : Option Addr} {L : List (Option ByteArray)} (h : QAt w a L) (hb : Below w.heap.size w w') : QAt w' a L := fun i o hi => by
  obtain ⟨b, of, v, h1, h2, h3⟩ := h i o hi
  refine ⟨b, of, v, h1, Chk.stay hb h2, ?_⟩
  rcases h3 with h3 | ⟨pt, xb, nm, un, pv, e1, e2, e3⟩
  · exact .inl h3
  · exact .inr ⟨pt, xb, nm, un, pv, e1, e2, e3.keep hb⟩
set_option maxHeartbeats 1000000 in
theorem rclass_any (op : Int) (w : World) : Calls Tryz.prog 40 #[.int .i64 op] w fun e w' => e = .returned (.int .i64 (rankS op)) ∧ Below w.heap.size w w' := by
  have HB := Below.refl w.heap.size w
  by_cases h1 : op = 1
  · subst h1
    go_enter Tryz.func40, Tryz.ntmps40
    go_wp2_with fail
    go_ret
    exact ⟨rfl, HB⟩
  · have h1' : (op == 1) = false := by simpa using h1
    by_cases h6 : op = 6
    · subst h6
      go_enter Tryz.func40, Tryz.ntmps40
      go_wp2_with fail
      go_ret
      exact ⟨rfl, HB⟩
    · have h6' : (op == 6) = false := by simpa using h6
      have e : Hid (rankS op = 2) := hid_e (by unfold rankS; rw [if_neg h1, if_neg h6])
      rw [e.out]
      go_enter Tryz.func40, Tryz.ntmps40
      go_wp2_with fail
      go_ret
      exact ⟨rfl, HB⟩
set_option maxHeartbeats 8000000 in
set_option maxRecDepth 100000 in
theorem rchoose_any (a : Option Addr) (c0 : Nat) (L : List (Option ByteArray)) (b0 : Option Addr) (e0 : Nat) (ds : List Nd) (w : World) (hP : QAt w a L) (hl : L.length ≤ 50) (hD : NeedsAt w b0 ds) (hdl : ds.length ≤ 50) (hOk : ∀ d ∈ ds, NOk w d) :
    Calls Tryz.prog 19 #[.slice a L.length c0, .slice b0 ds.length e0] w fun e w' => ∃ (zi zk : Int) (ok : Bool), e = .returned (.tuple #[.int .i64 zi, .int .i64 zk, .bool ok]) ∧ CPost L ds zi zk ok ∧ Below w.heap.size w w' := by
  replace hP := hid_e hP
  replace hD := hid_e hD
  replace hOk := hid_e hOk
  go_enter Tryz.func19, Tryz.ntmps19
  go_wp2_with fail
  go_loopw [7] (fun cv wr => ∃ c : Nat, c ≤ 3 ∧ cv = .int .i64 c ∧ Below w.heap.size w wr ∧ Hid (NB L ds c 0)) (fun cv _ => 3 - (intOf cv).toNat)
  case atStart => exact ⟨0, by omega, rfl, Below.refl _ _, hid_e (NB.zero L ds)⟩
  case round =>
    obtain ⟨c, hc, rfl, hB, hN⟩ := hrel
    by_cases hlt : c < 3
    · have hdc : decide ((c : Int) < 3) = true := by simp; omega
      replace hB := hid_e hB
      go_wp2_with fail
      go_loopw [8] (fun kv wr => ∃ k : Nat, k ≤ ds.length ∧ kv = .int .i64 k ∧ Below w.heap.size w wr ∧ Hid (NB L ds c k)) (fun kv _ => ds.length - (intOf kv).toNat)
      case atStart => exact ⟨0, Nat.zero_le _, rfl, hB.out, hN⟩
      case round =>
        clear hN hB
        obtain ⟨k, hk, rfl, hB, hN⟩ := hrel
        by_cases hkl : k < ds.length
        · have hdk : decide ((k : Int) < (ds.length : Int)) = true := by simp; omega
          have hk1 : (k : Int) < (ds.length : Int) := by omega
          obtain ⟨d, hd⟩ : ∃ d, Hid (ds[k]? = some d) := ⟨_, hid_e (List.getElem?_eq_getElem hkl)⟩
          replace hB := hid_e hB
          go_wp2_with fail
          go_loopw [9] (fun iv wr => ∃ i : Nat, i ≤ L.length ∧ iv = .int .i64 i ∧ Below w.heap.size w wr ∧ Hid (rankS d.op = (c : Int) → ∀ i', i' < i → hit L d i' = false)) (fun iv _ => L.length - (intOf iv).toNat)
          case atStart => exact ⟨0, Nat.zero_le _, rfl, hB.out, hid_e (fun _ i' h => by omega)⟩
          case round =>
            clear hB
            obtain ⟨i, hi, rfl, hB, hH⟩ := hrel
            by_cases hil : i < L.length
            · have hdi : decide ((i : Int) < (L.length : Int)) = true := by simp; omega
              have hi1 : (i : Int) < (L.length : Int) := by omega
              obtain ⟨oo, ho⟩ : ∃ o, Hid (L[i]? = some o) := ⟨_, hid_e (List.getElem?_eq_getElem hil)⟩
              obtain ⟨b, of, v, rfl, hv, hvo⟩ := hP.out.keep hB i oo ho.out
              obtain ⟨b2, o2, rfl, hcs⟩ := hD.out.keep hB k d hd.out
              have hok := hid_e ((hOk.out d (List.mem_of_getElem? hd.out)).keep hB)
              obtain ⟨p, op, kk, x, s, ns, its, an, cn, ai, ci⟩ := d
              unfold Nd.cells at hcs
              have n0 := hcs 0 _ rfl
              have n1 := hcs 1 _ rfl
              have n2 := hcs 2 _ rfl
              have n3 := hcs 3 _ rfl
              have n4 := hcs 4 _ rfl
              have n5 := hcs 5 _ rfl
              have n6 := hcs 6 _ rfl
              rw [Nat.add_zero] at n0
              simp only at n0 n1 n2 n3 n4 n5 n6
              replace hB := hid_e hB
              clear hcs
              rcases hvo with ⟨rfl, rfl⟩ | ⟨pt, xb, nm, un, pv, rfl, rfl, hX⟩
              · have hhit : Hid (hit L ⟨p, op, kk, x, s, ns, its, an, cn, ai, ci⟩ i = false) := hid_e (by unfold hit; rw [ho.out])
                go_wp2_with fail
                refine wp_region_quiet (C := fun w' => Below wr.heap.size wr w') (by kernel_rfl) (by kernel_rfl) (below_drewN (Below.refl _ _) 1) ?_
                with_reducible refine wpQuiet_step (fun K hK => ?_)
                refine ⟨.slice (some ⟨b, of, none⟩) L.length c0, fun w' hw' => ?_, ?_⟩
                · first | (go_simp; done) | (go_simp; decide) | (go_simp; omega)
                with_reducible refine hK _ ?_
                clear hK K
                simp only [Act.put, List.setIfInBounds_toArray, List.set_cons_zero, List.set_cons_succ]
                with_reducible refine wpQuiet_step (fun K hK => ?_)
                refine ⟨.int .i64 i, fun w' hw' => ?_, ?_⟩
                · first | (go_simp; done) | (go_simp; decide) | (go_simp; omega)
                with_reducible refine hK _ ?_
                clear hK K
                simp only [Act.put, List.setIfInBounds_toArray, List.set_cons_zero, List.set_cons_succ]
                with_reducible refine wpQuiet_step (fun K hK => ?_)
                refine ⟨.pointer (some ⟨b, of + i, none⟩), fun w' hw' => ?_, ?_⟩
                · first | (go_simp; done) | (go_simp; decide) | (go_simp; omega)
                with_reducible refine hK _ ?_
                clear hK K
                simp only [Act.put, List.setIfInBounds_toArray, List.set_cons_zero, List.set_cons_succ]
                with_reducible refine wpQuiet_step (fun K hK => ?_)
                refine ⟨.pointer none, fun w' hw' => ?_, ?_⟩
                · have t0 := stay hw' hv; go_simp
                with_reducible refine hK _ ?_
                clear hK K
                simp only [Act.put, List.setIfInBounds_toArray, List.set_cons_zero, List.set_cons_succ]
                with_reducible refine wpQuiet_step (fun K hK => ?_)
                refine ⟨.bool false, fun w' hw' => ?_, ?_⟩
                · first | (go_simp; done) | (go_simp; decide) | (go_simp; omega)
                with_reducible refine hK _ ?_
                clear hK K
                simp only [Act.put, List.setIfInBounds_toArray, List.set_cons_zero, List.set_cons_succ]
                with_reducible refine wpQuiet_step (fun K hK => ?_)
                refine ⟨.bool false, fun w' hw' => ?_, ?_⟩
                · first | (go_simp; done) | (go_simp; decide) | (go_simp; omega)
                with_reducible refine hK _ ?_
                clear hK K
                simp only [Act.put, List.setIfInBounds_toArray, List.set_cons_zero, List.set_cons_succ]
                with_reducible refine wpQuiet_step (fun K hK => ?_)
                refine k_quiet_else (by kernel_rfl) ?_
                with_reducible refine hK _ ?_
                clear hK K
                simp only [Act.put, List.setIfInBounds_toArray, List.set_cons_zero, List.set_cons_succ]
                with_reducible refine wpQuiet_step (fun K hK => ?_)
                refine k_quiet_else (by kernel_rfl) ?_
                with_reducible refine hK _ ?_
                clear hK K
                simp only [Act.put, List.setIfInBounds_toArray, List.set_cons_zero, List.set_cons_succ]
                with_reducible refine wpQuiet_step (fun K hK => ?_)
                refine k_quiet_else (by kernel_rfl) ?_
                with_reducible refine hK _ ?_
                clear hK K
                simp only [Act.put, List.setIfInBounds_toArray, List.set_cons_zero, List.set_cons_succ]
                with_reducible refine wpQuiet_step (fun K hK => ?_)
                refine k_quiet_else (by kernel_rfl) ?_
                with_reducible refine hK _ ?_
                clear hK K
                simp only [Act.put, List.setIfInBounds_toArray, List.set_cons_zero, List.set_cons_succ]
                with_reducible refine wpQuiet_step (fun K hK => ?_)
                refine k_quiet_else (by kernel_rfl) ?_
                with_reducible refine hK _ ?_
                clear hK K
                simp only [Act.put, List.setIfInBounds_toArray, List.set_cons_zero, List.set_cons_succ]
                with_reducible refine wpQuiet_step (fun K hK => ?_)
                refine k_quiet_else (by kernel_rfl) ?_
                with_reducible refine hK _ ?_
                clear hK K
                simp only [Act.put, List.setIfInBounds_toArray, List.set_cons_zero, List.set_cons_succ]
                with_reducible refine wpQuiet_step (fun K hK => ?_)
                refine k_quiet_else (by kernel_rfl) ?_
                with_reducible refine hK _ ?_
                clear hK K
                simp only [Act.put, List.setIfInBounds_toArray, List.set_cons_zero, List.set_cons_succ]
                with_reducible refine wpQuiet_step (fun K hK => ?_)
                refine k_quiet_else (by kernel_rfl) ?_
                with_reducible refine hK _ ?_
                clear hK K
                simp only [Act.put, List.setIfInBounds_toArray, List.set_cons_zero, List.set_cons_succ]
                with_reducible refine wpQuiet_step (fun K hK => ?_)
                refine ⟨.bool false, fun w' hw' => ?_, ?_⟩
                · first | (go_simp; done) | (go_simp; decide) | (go_simp; omega)
                with_reducible refine hK _ ?_
                clear hK K
                simp only [Act.put, List.setIfInBounds_toArray, List.set_cons_zero, List.set_cons_succ]
                with_reducible refine wpQuiet_step (fun K hK => ?_)
                refine ⟨.bool false, fun w' hw' => ?_, ?_⟩
                · first | (go_simp; done) | (go_simp; decide) | (go_simp; omega)
                with_reducible refine hK _ ?_
                clear hK K
                simp only [Act.put, List.setIfInBounds_toArray, List.set_cons_zero, List.set_cons_succ]
                with_reducible refine wpQuiet_step (fun K hK => ?_)
                refine k_quiet_else (by kernel_rfl) ?_
                with_reducible refine hK _ ?_
                clear hK K
                simp only [Act.put, List.setIfInBounds_toArray, List.set_cons_zero, List.set_cons_succ]
                with_reducible refine wpQuiet_step (fun K hK => ?_)
                refine k_quiet_else (by kernel_rfl) ?_
                with_reducible refine hK _ ?_
                clear hK K
                simp only [Act.put, List.setIfInBounds_toArray, List.set_cons_zero, List.set_cons_succ]
                with_reducible refine wpQuiet_step (fun K hK => ?_)
                refine k_quiet_else (by kernel_rfl) ?_
                with_reducible refine hK _ ?_
                clear hK K
                simp only [Act.put, List.setIfInBounds_toArray, List.set_cons_zero, List.set_cons_succ]
                with_reducible refine wpQuiet_step (fun K hK => ?_)
                refine k_quiet_else (by kernel_rfl) ?_
                with_reducible refine hK _ ?_
                clear hK K
                simp only [Act.put, List.setIfInBounds_toArray, List.set_cons_zero, List.set_cons_succ]
                with_reducible refine wpQuiet_step (fun K hK => ?_)
                refine k_quiet_else (by kernel_rfl) ?_
                with_reducible refine hK _ ?_
                clear hK K
                simp only [Act.put, List.setIfInBounds_toArray, List.set_cons_zero, List.set_cons_succ]
                with_reducible refine wpQuiet_step (fun K hK => ?_)
                refine k_quiet_else (by kernel_rfl) ?_
                with_reducible refine hK _ ?_
                clear hK K
                simp only [Act.put, List.setIfInBounds_toArray, List.set_cons_zero, List.set_cons_succ]
                with_reducible refine wpQuiet_step (fun K hK => ?_)
                refine k_quiet_else (by kernel_rfl) ?_
                with_reducible refine hK _ ?_
                clear hK K
                simp only [Act.put, List.setIfInBounds_toArray, List.set_cons_zero, List.set_cons_succ]
                with_reducible refine wpQuiet_step (fun K hK => ?_)
                refine k_quiet_else (by kernel_rfl) ?_
                with_reducible refine hK _ ?_
                clear hK K
                simp only [Act.put, List.setIfInBounds_toArray, List.set_cons_zero, List.set_cons_succ]
                with_reducible refine wpQuiet_step (fun K hK => ?_)
                refine k_quiet_else (by kernel_rfl) ?_
                with_reducible refine hK _ ?_
                clear hK K
                simp only [Act.put, List.setIfInBounds_toArray, List.set_cons_zero, List.set_cons_succ]
                with_reducible refine wpQuiet_step (fun K hK => ?_)
                refine ⟨.bool false, fun w' hw' => ?_, ?_⟩
                · first | (go_simp; done) | (go_simp; decide) | (go_simp; omega)
                with_reducible refine hK _ ?_
                clear hK K
                simp only [Act.put, List.setIfInBounds_toArray, List.set_cons_zero, List.set_cons_succ]
                refine wpQuiet_nil ?_
                intro X1 hX1
                replace hB := hid_e (hB.out.trans (hX1.mono hB.out.size))
                clear hX1 hv n0 n1 n2 n3 n4 n5 n6 
                go_wp2_with fail
                go_roundw
                case rel => exact ⟨i + 1, by omega, by simp, hB.out, hid_e (fun hrr i' h => by
                  rcases Nat.lt_or_ge i' i with h1 | h1
                  · exact hH.out hrr i' h1
                  · obtain rfl : i' = i := by omega
                    exact hhit.out)⟩
                case measure => simp [intOf]; omega
              · obtain ⟨rk, hrk0⟩ : ∃ r, Hid (rankS op = r) := ⟨_, hid_e rfl⟩
                have hrk := fun W => hid_e (rclass_any op W)
                rw [hrk0.out] at hrk
                by_cases hrc : rk = (c : Int)
                · have hrc' : (rk == (c : Int)) = true := by simpa using hrc
                  replace hrc := hid_e hrc
                  have hsv := fun W (hW : Below wr.heap.size wr W) => hid_e (rserves_any xb nm pt un pv p op kk x s ns its an cn ai ci W (hX.keep hW) (items_keep hok.out.its hW) hok.out.len hok.out.small _ rfl (fun W' hW' => hok.out.doc W' (hW.trans (hW'.mono hW.size))))
                  obtain ⟨r, hr⟩ : ∃ r, Hid (servesS pt p op (.node kk x s ns its) = r) := ⟨_, hid_e rfl⟩
                  rw [hr.out] at hsv
                  have hhit : Hid (hit L ⟨p, op, kk, x, s, ns, its, an, cn, ai, ci⟩ i = r) := hid_e (by unfold hit; rw [ho.out]; exact hr.out)
                  clear hX hok
                  go_wp2_with fail
                  refine wp_region_quiet (C := fun w' => Below wr.heap.size wr w') (by kernel_rfl) (by kernel_rfl) (below_drewN (Below.refl _ _) 1) ?_
                  with_reducible refine wpQuiet_step (fun K hK => ?_)
                  refine ⟨.slice (some ⟨b, of, none⟩) L.length c0, fun w' hw' => ?_, ?_⟩
                  · first | (go_simp; done) | (go_simp; decide) | (go_simp; omega)
                  with_reducible refine hK _ ?_
                  clear hK K
                  simp only [Act.put, List.setIfInBounds_toArray, List.set_cons_zero, List.set_cons_succ]
                  with_reducible refine wpQuiet_step (fun K hK => ?_)
                  refine ⟨.int .i64 i, fun w' hw' => ?_, ?_⟩
                  · first | (go_simp; done) | (go_simp; decide) | (go_simp; omega)
                  with_reducible refine hK _ ?_
                  clear hK K
                  simp only [Act.put, List.setIfInBounds_toArray, List.set_cons_zero, List.set_cons_succ]
                  with_reducible refine wpQuiet_step (fun K hK => ?_)
                  refine ⟨.pointer (some ⟨b, of + i, none⟩), fun w' hw' => ?_, ?_⟩
                  · first | (go_simp; done) | (go_simp; decide) | (go_simp; omega)
                  with_reducible refine hK _ ?_
                  clear hK K
                  simp only [Act.put, List.setIfInBounds_toArray, List.set_cons_zero, List.set_cons_succ]
                  with_reducible refine wpQuiet_step (fun K hK => ?_)
                  refine ⟨.pointer (some ⟨xb, 0, none⟩), fun w' hw' => ?_, ?_⟩
                  · have t0 := stay hw' hv; go_simp
                  with_reducible refine hK _ ?_
                  clear hK K
                  simp only [Act.put, List.setIfInBounds_toArray, List.set_cons_zero, List.set_cons_succ]
                  with_reducible refine wpQuiet_step (fun K hK => ?_)
                  refine ⟨.bool true, fun w' hw' => ?_, ?_⟩
                  · first | (go_simp; done) | (go_simp; decide) | (go_simp; omega)
                  with_reducible refine hK _ ?_
                  clear hK K
                  simp only [Act.put, List.setIfInBounds_toArray, List.set_cons_zero, List.set_cons_succ]
                  with_reducible refine wpQuiet_step (fun K hK => ?_)
                  refine ⟨.bool true, fun w' hw' => ?_, ?_⟩
                  · first | (go_simp; done) | (go_simp; decide) | (go_simp; omega)
                  with_reducible refine hK _ ?_
                  clear hK K
                  simp only [Act.put, List.setIfInBounds_toArray, List.set_cons_zero, List.set_cons_succ]
                  with_reducible refine wpQuiet_step (fun K hK => ?_)
                  refine k_quiet_if (by kernel_rfl) ?_
                  refine ⟨.slice (some ⟨b2, o2, none⟩) ds.length e0, fun w' hw' => ?_, ?_⟩
                  · first | (go_simp; done) | (go_simp; decide) | (go_simp; omega)
                  with_reducible refine hK _ ?_
                  clear hK K
                  simp only [Act.put, List.setIfInBounds_toArray, List.set_cons_zero, List.set_cons_succ]
                  with_reducible refine wpQuiet_step (fun K hK => ?_)
                  refine k_quiet_if (by kernel_rfl) ?_
                  refine ⟨.int .i64 k, fun w' hw' => ?_, ?_⟩
                  · first | (go_simp; done) | (go_simp; decide) | (go_simp; omega)
                  with_reducible refine hK _ ?_
                  clear hK K
                  simp only [Act.put, List.setIfInBounds_toArray, List.set_cons_zero, List.set_cons_succ]
                  with_reducible refine wpQuiet_step (fun K hK => ?_)
                  refine k_quiet_if (by kernel_rfl) ?_
                  refine ⟨.pointer (some ⟨b2, o2 + k * 7, none⟩), fun w' hw' => ?_, ?_⟩
                  · first | (go_simp; done) | (go_simp; decide) | (go_simp; omega)
                  with_reducible refine hK _ ?_
                  clear hK K
                  simp only [Act.put, List.setIfInBounds_toArray, List.set_cons_zero, List.set_cons_succ]
                  with_reducible refine wpQuiet_step (fun K hK => ?_)
                  refine k_quiet_if (by kernel_rfl) ?_
                  refine ⟨.pointer (some ⟨b2, o2 + k * 7 + 1, none⟩), fun w' hw' => ?_, ?_⟩
                  · first | (go_simp; done) | (go_simp; decide) | (go_simp; omega)
                  with_reducible refine hK _ ?_
                  clear hK K
                  simp only [Act.put, List.setIfInBounds_toArray, List.set_cons_zero, List.set_cons_succ]
                  with_reducible refine wpQuiet_step (fun K hK => ?_)
                  refine k_quiet_if (by kernel_rfl) ?_
                  refine ⟨.int .i64 op, fun w' hw' => ?_, ?_⟩
                  · have t0 := stay hw' n1; go_simp
                  with_reducible refine hK _ ?_
                  clear hK K
                  simp only [Act.put, List.setIfInBounds_toArray, List.set_cons_zero, List.set_cons_succ]
                  with_reducible refine wpQuiet_step (fun K hK => ?_)
                  refine k_quiet_if (by kernel_rfl) ?_
                  refine ⟨.int .i64 rk, fun w' hw' => ?_, ?_⟩
                  · go_simp
                    refine ((hrk w').out).mono ?_
                    rintro e w'' ⟨rfl, hb'⟩
                    exact ⟨rfl, hw'.trans (hb'.mono hw'.size)⟩
                  with_reducible refine hK _ ?_
                  clear hK K
                  simp only [Act.put, List.setIfInBounds_toArray, List.set_cons_zero, List.set_cons_succ]
                  with_reducible refine wpQuiet_step (fun K hK => ?_)
                  refine k_quiet_if (by kernel_rfl) ?_
                  refine ⟨.int .i64 c, fun w' hw' => ?_, ?_⟩
                  · first | (go_simp; done) | (go_simp; decide) | (go_simp; omega)
                  with_reducible refine hK _ ?_
                  clear hK K
                  simp only [Act.put, List.setIfInBounds_toArray, List.set_cons_zero, List.set_cons_succ]
                  with_reducible refine wpQuiet_step (fun K hK => ?_)
                  refine k_quiet_if (by kernel_rfl) ?_
                  refine ⟨.bool true, fun w' hw' => ?_, ?_⟩
                  · first | (go_simp; done) | (go_simp; decide) | (go_simp; omega)
                  with_reducible refine hK _ ?_
                  clear hK K
                  simp only [Act.put, List.setIfInBounds_toArray, List.set_cons_zero, List.set_cons_succ]
                  with_reducible refine wpQuiet_step (fun K hK => ?_)
                  refine ⟨.bool true, fun w' hw' => ?_, ?_⟩
                  · first | (go_simp; done) | (go_simp; decide) | (go_simp; omega)
                  with_reducible refine hK _ ?_
                  clear hK K
                  simp only [Act.put, List.setIfInBounds_toArray, List.set_cons_zero, List.set_cons_succ]
                  with_reducible refine wpQuiet_step (fun K hK => ?_)
                  refine ⟨.bool true, fun w' hw' => ?_, ?_⟩
                  · first | (go_simp; done) | (go_simp; decide) | (go_simp; omega)
                  with_reducible refine hK _ ?_
                  clear hK K
                  simp only [Act.put, List.setIfInBounds_toArray, List.set_cons_zero, List.set_cons_succ]
                  with_reducible refine wpQuiet_step (fun K hK => ?_)
                  refine k_quiet_if (by kernel_rfl) ?_
                  refine ⟨.slice (some ⟨b, of, none⟩) L.length c0, fun w' hw' => ?_, ?_⟩
                  · first | (go_simp; done) | (go_simp; decide) | (go_simp; omega)
                  with_reducible refine hK _ ?_
                  clear hK K
                  simp only [Act.put, List.setIfInBounds_toArray, List.set_cons_zero, List.set_cons_succ]
                  with_reducible refine wpQuiet_step (fun K hK => ?_)
                  refine k_quiet_if (by kernel_rfl) ?_
                  refine ⟨.int .i64 i, fun w' hw' => ?_, ?_⟩
                  · first | (go_simp; done) | (go_simp; decide) | (go_simp; omega)
                  with_reducible refine hK _ ?_
                  clear hK K
                  simp only [Act.put, List.setIfInBounds_toArray, List.set_cons_zero, List.set_cons_succ]
                  with_reducible refine wpQuiet_step (fun K hK => ?_)
                  refine k_quiet_if (by kernel_rfl) ?_
                  refine ⟨.pointer (some ⟨b, of + i, none⟩), fun w' hw' => ?_, ?_⟩
                  · first | (go_simp; done) | (go_simp; decide) | (go_simp; omega)
                  with_reducible refine hK _ ?_
                  clear hK K
                  simp only [Act.put, List.setIfInBounds_toArray, List.set_cons_zero, List.set_cons_succ]
                  with_reducible refine wpQuiet_step (fun K hK => ?_)
                  refine k_quiet_if (by kernel_rfl) ?_
                  refine ⟨.pointer (some ⟨xb, 0, none⟩), fun w' hw' => ?_, ?_⟩
                  · have t0 := stay hw' hv; go_simp
                  with_reducible refine hK _ ?_
                  clear hK K
                  simp only [Act.put, List.setIfInBounds_toArray, List.set_cons_zero, List.set_cons_succ]
                  with_reducible refine wpQuiet_step (fun K hK => ?_)
                  refine k_quiet_if (by kernel_rfl) ?_
                  refine ⟨.slice (some ⟨b2, o2, none⟩) ds.length e0, fun w' hw' => ?_, ?_⟩
                  · first | (go_simp; done) | (go_simp; decide) | (go_simp; omega)
                  with_reducible refine hK _ ?_
                  clear hK K
                  simp only [Act.put, List.setIfInBounds_toArray, List.set_cons_zero, List.set_cons_succ]
                  with_reducible refine wpQuiet_step (fun K hK => ?_)
                  refine k_quiet_if (by kernel_rfl) ?_
                  refine ⟨.int .i64 k, fun w' hw' => ?_, ?_⟩
                  · first | (go_simp; done) | (go_simp; decide) | (go_simp; omega)
                  with_reducible refine hK _ ?_
                  clear hK K
                  simp only [Act.put, List.setIfInBounds_toArray, List.set_cons_zero, List.set_cons_succ]
                  with_reducible refine wpQuiet_step (fun K hK => ?_)
                  refine k_quiet_if (by kernel_rfl) ?_
                  refine ⟨.pointer (some ⟨b2, o2 + k * 7, none⟩), fun w' hw' => ?_, ?_⟩
                  · first | (go_simp; done) | (go_simp; decide) | (go_simp; omega)
                  with_reducible refine hK _ ?_
                  clear hK K
                  simp only [Act.put, List.setIfInBounds_toArray, List.set_cons_zero, List.set_cons_succ]
                  with_reducible refine wpQuiet_step (fun K hK => ?_)
                  refine k_quiet_if (by kernel_rfl) ?_
                  refine ⟨.agg #[.string p, .int .i64 op, .int .i64 kk, .int .i64 x, .string s, .slice an ns.length cn, .slice ai its.length ci], fun w' hw' => ?_, ?_⟩
                  · have t0 := stay hw' n0; have t1 := stay hw' n1; have t2 := stay hw' n2; have t3 := stay hw' n3; have t4 := stay hw' n4; have t5 := stay hw' n5; have t6 := stay hw' n6; go_simp
                  with_reducible refine hK _ ?_
                  clear hK K
                  simp only [Act.put, List.setIfInBounds_toArray, List.set_cons_zero, List.set_cons_succ]
                  with_reducible refine wpQuiet_step (fun K hK => ?_)
                  refine k_quiet_if (by kernel_rfl) ?_
                  refine ⟨.bool r, fun w' hw' => ?_, ?_⟩
                  · go_simp
                    refine ((hsv w' hw').out).mono ?_
                    rintro e w'' ⟨rfl, hb'⟩
                    exact ⟨rfl, hw'.trans (hb'.mono hw'.size)⟩
                  with_reducible refine hK _ ?_
                  clear hK K
                  simp only [Act.put, List.setIfInBounds_toArray, List.set_cons_zero, List.set_cons_succ]
                  with_reducible refine wpQuiet_step (fun K hK => ?_)
                  refine ⟨.bool r, fun w' hw' => ?_, ?_⟩
                  · first | (go_simp; done) | (go_simp; decide) | (go_simp; omega)
                  with_reducible refine hK _ ?_
                  clear hK K
                  simp only [Act.put, List.setIfInBounds_toArray, List.set_cons_zero, List.set_cons_succ]
                  refine wpQuiet_nil ?_
                  intro X1 hX1
                  replace hB := hid_e (hB.out.trans (hX1.mono hB.out.size))
                  clear hX1 hv n0 n1 n2 n3 n4 n5 n6 hsv hrk
                  cases r
                  · go_wp2_with fail
                    go_roundw
                    case rel => exact ⟨i + 1, by omega, by simp, hB.out, hid_e (fun hrr i' h => by
                      rcases Nat.lt_or_ge i' i with h1 | h1
                      · exact hH.out hrr i' h1
                      · obtain rfl : i' = i := by omega
                        exact hhit.out)⟩
                    case measure => simp [intOf]; omega
                  · go_wp2_with fail
                    go_ret3
                    exact ⟨i, k, true, rfl, .inr ⟨rfl, c, k, i, _, hlt, hd.out, hrk0.out.trans hrc.out, rfl, rfl, hil, hhit.out, hH.out (hrk0.out.trans hrc.out), hN.out⟩, hB.out⟩
                · have hrc' : (rk == (c : Int)) = false := by simpa using hrc
                  replace hrc := hid_e hrc
                  clear hX hok
                  go_wp2_with fail
                  refine wp_region_quiet (C := fun w' => Below wr.heap.size wr w') (by kernel_rfl) (by kernel_rfl) (below_drewN (Below.refl _ _) 1) ?_
                  with_reducible refine wpQuiet_step (fun K hK => ?_)
                  refine ⟨.slice (some ⟨b, of, none⟩) L.length c0, fun w' hw' => ?_, ?_⟩
                  · first | (go_simp; done) | (go_simp; decide) | (go_simp; omega)
                  with_reducible refine hK _ ?_
                  clear hK K
                  simp only [Act.put, List.setIfInBounds_toArray, List.set_cons_zero, List.set_cons_succ]
                  with_reducible refine wpQuiet_step (fun K hK => ?_)
                  refine ⟨.int .i64 i, fun w' hw' => ?_, ?_⟩
                  · first | (go_simp; done) | (go_simp; decide) | (go_simp; omega)
                  with_reducible refine hK _ ?_
                  clear hK K
                  simp only [Act.put, List.setIfInBounds_toArray, List.set_cons_zero, List.set_cons_succ]
                  with_reducible refine wpQuiet_step (fun K hK => ?_)
                  refine ⟨.pointer (some ⟨b, of + i, none⟩), fun w' hw' => ?_, ?_⟩
                  · first | (go_simp; done) | (go_simp; decide) | (go_simp; omega)
                  with_reducible refine hK _ ?_
                  clear hK K
                  simp only [Act.put, List.setIfInBounds_toArray, List.set_cons_zero, List.set_cons_succ]
                  with_reducible refine wpQuiet_step (fun K hK => ?_)
                  refine ⟨.pointer (some ⟨xb, 0, none⟩), fun w' hw' => ?_, ?_⟩
                  · have t0 := stay hw' hv; go_simp
                  with_reducible refine hK _ ?_
                  clear hK K
                  simp only [Act.put, List.setIfInBounds_toArray, List.set_cons_zero, List.set_cons_succ]
                  with_reducible refine wpQuiet_step (fun K hK => ?_)
                  refine ⟨.bool true, fun w' hw' => ?_, ?_⟩
                  · first | (go_simp; done) | (go_simp; decide) | (go_simp; omega)
                  with_reducible refine hK _ ?_
                  clear hK K
                  simp only [Act.put, List.setIfInBounds_toArray, List.set_cons_zero, List.set_cons_succ]
                  with_reducible refine wpQuiet_step (fun K hK => ?_)
                  refine ⟨.bool true, fun w' hw' => ?_, ?_⟩
                  · first | (go_simp; done) | (go_simp; decide) | (go_simp; omega)
                  with_reducible refine hK _ ?_
                  clear hK K
                  simp only [Act.put, List.setIfInBounds_toArray, List.set_cons_zero, List.set_cons_succ]
                  with_reducible refine wpQuiet_step (fun K hK => ?_)
                  refine k_quiet_if (by kernel_rfl) ?_
                  refine ⟨.slice (some ⟨b2, o2, none⟩) ds.length e0, fun w' hw' => ?_, ?_⟩
                  · first | (go_simp; done) | (go_simp; decide) | (go_simp; omega)
                  with_reducible refine hK _ ?_
                  clear hK K
                  simp only [Act.put, List.setIfInBounds_toArray, List.set_cons_zero, List.set_cons_succ]
                  with_reducible refine wpQuiet_step (fun K hK => ?_)
                  refine k_quiet_if (by kernel_rfl) ?_
                  refine ⟨.int .i64 k, fun w' hw' => ?_, ?_⟩
                  · first | (go_simp; done) | (go_simp; decide) | (go_simp; omega)
                  with_reducible refine hK _ ?_
                  clear hK K
                  simp only [Act.put, List.setIfInBounds_toArray, List.set_cons_zero, List.set_cons_succ]
                  with_reducible refine wpQuiet_step (fun K hK => ?_)
                  refine k_quiet_if (by kernel_rfl) ?_
                  refine ⟨.pointer (some ⟨b2, o2 + k * 7, none⟩), fun w' hw' => ?_, ?_⟩
                  · first | (go_simp; done) | (go_simp; decide) | (go_simp; omega)
                  with_reducible refine hK _ ?_
                  clear hK K
                  simp only [Act.put, List.setIfInBounds_toArray, List.set_cons_zero, List.set_cons_succ]
                  with_reducible refine wpQuiet_step (fun K hK => ?_)
                  refine k_quiet_if (by kernel_rfl) ?_
                  refine ⟨.pointer (some ⟨b2, o2 + k * 7 + 1, none⟩), fun w' hw' => ?_, ?_⟩
                  · first | (go_simp; done) | (go_simp; decide) | (go_simp; omega)
                  with_reducible refine hK _ ?_
                  clear hK K
                  simp only [Act.put, List.setIfInBounds_toArray, List.set_cons_zero, List.set_cons_succ]
                  with_reducible refine wpQuiet_step (fun K hK => ?_)
                  refine k_quiet_if (by kernel_rfl) ?_
                  refine ⟨.int .i64 op, fun w' hw' => ?_, ?_⟩
                  · have t0 := stay hw' n1; go_simp
                  with_reducible refine hK _ ?_
                  clear hK K
                  simp only [Act.put, List.setIfInBounds_toArray, List.set_cons_zero, List.set_cons_succ]
                  with_reducible refine wpQuiet_step (fun K hK => ?_)
                  refine k_quiet_if (by kernel_rfl) ?_
                  refine ⟨.int .i64 rk, fun w' hw' => ?_, ?_⟩
                  · go_simp
                    refine ((hrk w').out).mono ?_
                    rintro e w'' ⟨rfl, hb'⟩
                    exact ⟨rfl, hw'.trans (hb'.mono hw'.size)⟩
                  with_reducible refine hK _ ?_
                  clear hK K
                  simp only [Act.put, List.setIfInBounds_toArray, List.set_cons_zero, List.set_cons_succ]
                  with_reducible refine wpQuiet_step (fun K hK => ?_)
                  refine k_quiet_if (by kernel_rfl) ?_
                  refine ⟨.int .i64 c, fun w' hw' => ?_, ?_⟩
                  · first | (go_simp; done) | (go_simp; decide) | (go_simp; omega)
                  with_reducible refine hK _ ?_
                  clear hK K
                  simp only [Act.put, List.setIfInBounds_toArray, List.set_cons_zero, List.set_cons_succ]
                  with_reducible refine wpQuiet_step (fun K hK => ?_)
                  refine k_quiet_if (by kernel_rfl) ?_
                  refine ⟨.bool false, fun w' hw' => ?_, ?_⟩
                  · first | (go_simp; done) | (go_simp; decide) | (go_simp; omega)
                  with_reducible refine hK _ ?_
                  clear hK K
                  simp only [Act.put, List.setIfInBounds_toArray, List.set_cons_zero, List.set_cons_succ]
                  with_reducible refine wpQuiet_step (fun K hK => ?_)
                  refine ⟨.bool false, fun w' hw' => ?_, ?_⟩
                  · first | (go_simp; done) | (go_simp; decide) | (go_simp; omega)
                  with_reducible refine hK _ ?_
                  clear hK K
                  simp only [Act.put, List.setIfInBounds_toArray, List.set_cons_zero, List.set_cons_succ]
                  with_reducible refine wpQuiet_step (fun K hK => ?_)
                  refine ⟨.bool false, fun w' hw' => ?_, ?_⟩
                  · first | (go_simp; done) | (go_simp; decide) | (go_simp; omega)
                  with_reducible refine hK _ ?_
                  clear hK K
                  simp only [Act.put, List.setIfInBounds_toArray, List.set_cons_zero, List.set_cons_succ]
                  with_reducible refine wpQuiet_step (fun K hK => ?_)
                  refine k_quiet_else (by kernel_rfl) ?_
                  with_reducible refine hK _ ?_
                  clear hK K
                  simp only [Act.put, List.setIfInBounds_toArray, List.set_cons_zero, List.set_cons_succ]
                  with_reducible refine wpQuiet_step (fun K hK => ?_)
                  refine k_quiet_else (by kernel_rfl) ?_
                  with_reducible refine hK _ ?_
                  clear hK K
                  simp only [Act.put, List.setIfInBounds_toArray, List.set_cons_zero, List.set_cons_succ]
                  with_reducible refine wpQuiet_step (fun K hK => ?_)
                  refine k_quiet_else (by kernel_rfl) ?_
                  with_reducible refine hK _ ?_
                  clear hK K
                  simp only [Act.put, List.setIfInBounds_toArray, List.set_cons_zero, List.set_cons_succ]
                  with_reducible refine wpQuiet_step (fun K hK => ?_)
                  refine k_quiet_else (by kernel_rfl) ?_
                  with_reducible refine hK _ ?_
                  clear hK K
                  simp only [Act.put, List.setIfInBounds_toArray, List.set_cons_zero, List.set_cons_succ]
                  with_reducible refine wpQuiet_step (fun K hK => ?_)
                  refine k_quiet_else (by kernel_rfl) ?_
                  with_reducible refine hK _ ?_
                  clear hK K
                  simp only [Act.put, List.setIfInBounds_toArray, List.set_cons_zero, List.set_cons_succ]
                  with_reducible refine wpQuiet_step (fun K hK => ?_)
                  refine k_quiet_else (by kernel_rfl) ?_
                  with_reducible refine hK _ ?_
                  clear hK K
                  simp only [Act.put, List.setIfInBounds_toArray, List.set_cons_zero, List.set_cons_succ]
                  with_reducible refine wpQuiet_step (fun K hK => ?_)
                  refine k_quiet_else (by kernel_rfl) ?_
                  with_reducible refine hK _ ?_
                  clear hK K
                  simp only [Act.put, List.setIfInBounds_toArray, List.set_cons_zero, List.set_cons_succ]
                  with_reducible refine wpQuiet_step (fun K hK => ?_)
                  refine k_quiet_else (by kernel_rfl) ?_
                  with_reducible refine hK _ ?_
                  clear hK K
                  simp only [Act.put, List.setIfInBounds_toArray, List.set_cons_zero, List.set_cons_succ]
                  with_reducible refine wpQuiet_step (fun K hK => ?_)
                  refine k_quiet_else (by kernel_rfl) ?_
                  with_reducible refine hK _ ?_
                  clear hK K
                  simp only [Act.put, List.setIfInBounds_toArray, List.set_cons_zero, List.set_cons_succ]
                  with_reducible refine wpQuiet_step (fun K hK => ?_)
                  refine ⟨.bool false, fun w' hw' => ?_, ?_⟩
                  · first | (go_simp; done) | (go_simp; decide) | (go_simp; omega)
                  with_reducible refine hK _ ?_
                  clear hK K
                  simp only [Act.put, List.setIfInBounds_toArray, List.set_cons_zero, List.set_cons_succ]
                  refine wpQuiet_nil ?_
                  intro X1 hX1
                  replace hB := hid_e (hB.out.trans (hX1.mono hB.out.size))
                  clear hX1 hv n0 n1 n2 n3 n4 n5 n6 hrk
                  go_wp2_with fail
                  go_roundw
                  case rel => exact ⟨i + 1, by omega, by simp, hB.out, hid_e (fun hrr => absurd (hrk0.out.symm.trans hrr) hrc.out)⟩
                  case measure => simp [intOf]; omega
            · obtain rfl : i = L.length := by omega
              have hdi : decide ((L.length : Int) < (L.length : Int)) = false := by simp
              replace hB := hid_e hB
              go_wp2_with fail
              go_roundw
              case rel => exact ⟨k + 1, by omega, by simp, hB.out, hid_e (hN.out.more hd.out hH.out)⟩
              case measure => simp [intOf]; omega
        · obtain rfl : k = ds.length := by omega
          have hdk : decide ((ds.length : Int) < (ds.length : Int)) = false := by simp
          replace hB := hid_e hB
          go_wp2_with fail
          go_roundw
          case rel => exact ⟨c + 1, by omega, by simp, hB.out, hid_e hN.out.next⟩
          case measure => simp [intOf]; omega
    · obtain rfl : c = 3 := by omega
      replace hB := hid_e hB
      go_wp2_with fail
      go_ret3
      exact ⟨0, 0, false, rfl, .inl ⟨rfl, rfl, rfl, hN.out⟩, hB.out⟩
end Go.Proofs.YtnlljodmkacmlaaGreatDoor.Chk
