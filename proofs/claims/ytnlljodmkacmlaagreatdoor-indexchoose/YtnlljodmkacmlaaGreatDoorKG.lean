import Derived.Test.YtnlljodmkacmlaaGreatDoorF5
import Derived.Test.YtnlljodmkacmlaaGreatDoorJB
/-! Does an index serve a need: the code. -/
namespace Go.Proofs.YtnlljodmkacmlaaGreatDoor.Chk
open Go Go.RowKit

def hasNull (l : List Tr) : Bool := l.any fun t => decide (t.kind = 0)
theorem beq_dec (a b : Int) : (a == b) = decide (a = b) := by
  by_cases h : a = b
  · subst h; simp
  · simp [h]
set_option maxHeartbeats 1000000 in
theorem isnull_any (k x : Int) (s : ByteArray) (an : Option Addr) (ln cn : Nat) (ai : Option Addr) (li ci : Nat) (w : World) : Calls Tryz.prog 31 #[.agg #[.int .i64 k, .int .i64 x, .string s, .slice an ln cn, .slice ai li ci]] w fun e w' => e = .returned (.bool (decide (k = 0))) ∧ Below w.heap.size w w' := by
  have HB := fun o => Chk.hid_e ((Below.refl _ w).alloc (Nat.le_refl _) o)
  go_enter Tryz.func31, Tryz.ntmps31
  go_wp2_with fail
  go_ret
  exact ⟨by rw [← beq_dec]; rfl, (HB _).out⟩
set_option maxHeartbeats 2000000 in
set_option maxRecDepth 100000 in
theorem idxnull (a : Option Addr) (c : Nat) (its : List Tr) (w : World) (hI : ItemsAt' w a its) (hl : its.length ≤ 4611686018427387904) : Calls Tryz.prog 62 #[.slice a its.length c, .func (.func 31) #[] #[]] w fun e w' => ∃ z : Int, e = .returned (.int .i64 z) ∧ decide (0 ≤ z) = hasNull its ∧ Below w.heap.size w w' := by
  replace hI := hid_e hI
  go_enter Tryz.func62, Tryz.ntmps62
  go_wp2_with fail
  go_loopw [8] (fun i wr => ∃ q : Nat, q ≤ its.length ∧ i = .int .i64 q ∧ Below w.heap.size w wr ∧ Hid (hasNull (its.take q) = false)) (fun i _ => its.length - (intOf i).toNat)
  case atStart => exact ⟨0, Nat.zero_le _, rfl, Below.refl _ _, hid_e (by simp [hasNull])⟩
  case round =>
    rename_i wr
    obtain ⟨q, hq, rfl, hB, hN⟩ := hrel
    by_cases hlt : q < its.length
    · have hd : decide ((q : Int) < (its.length : Int)) = true := by simp; omega
      have hq1 : (q : Int) < (its.length : Int) := by omega
      have hq2 : (q : Int) ≤ 4611686018427387904 := by omega
      obtain ⟨u, hu⟩ : ∃ u, Hid (its[q]? = some u) := ⟨_, hid_e (List.getElem?_eq_getElem hlt)⟩
      obtain ⟨b, o, rfl, hb, hV⟩ := hI.out.resolve_left (by intro e; subst e; simp at hlt)
      obtain ⟨cs, hC, hr⟩ := VRepL.at its o q u hV hu.out
      obtain ⟨k2, x2, s2, an2, ln2, cn2, ai2, li2, ci2, rfl⟩ := vrep_five hr
      have hk2 : Hid (k2 = u.kind) := by
        cases u
        unfold VRep at hr
        obtain ⟨nm, a', c', h1, -⟩ := hr
        unfold five at h1
        injection h1 with h1 _
        injection h1
      have z := hC.keep hB hb
      have z0 := z 0 _ rfl
      have z1 := z 1 _ rfl
      have z2 := z 2 _ rfl
      have z3 := z 3 _ rfl
      have z4 := z 4 _ rfl
      rw [Nat.add_zero] at z0
      have htk : Hid (its.take (q + 1) = its.take q ++ [u]) := hid_e (by rw [List.take_add_one, hu.out]; rfl)
      replace hB := hid_e hB
      clear z hV hC hr hd
      go_wp2_with fail
      refine (isnull_any k2 x2 s2 an2 ln2 cn2 ai2 li2 ci2 _).mono ?_
      rintro e X1 ⟨rfl, hX1⟩
      replace hB := hid_e (hB.out.trans (hX1.mono hB.out.size))
      clear hX1 z0 z1 z2 z3 z4
      by_cases hz : k2 = 0
      · have hz' : decide (k2 = 0) = true := by simpa using hz
        rw [hz']
        clear hz'
        go_wp2_with fail
        go_ret
        refine ⟨q, rfl, ?_, hB.out⟩
        have : hasNull its = true := by
          unfold hasNull
          rw [List.any_eq_true]
          exact ⟨u, List.mem_of_getElem? hu.out, by rw [← hk2.out, hz]; rfl⟩
        rw [this]
        simp
      · have hz' : decide (k2 = 0) = false := by simpa using hz
        rw [hz']
        clear hz'
        go_wp2_with fail
        go_roundw
        case rel =>
          refine ⟨q + 1, by omega, by simp, hB.out, hid_e ?_⟩
          rw [htk.out]
          have := hN.out
          unfold hasNull at *
          rw [List.any_append, this]
          simp [← hk2.out, hz]
        case measure => simp [intOf]; omega
    · obtain rfl : q = its.length := by omega
      have hd : decide ((its.length : Int) < (its.length : Int)) = false := by simp
      go_wp2_with fail
      go_ret
      refine ⟨-1, rfl, ?_, hB⟩
      rw [List.take_length] at hN
      rw [hN.out]
      rfl
set_option maxHeartbeats 1000000 in
theorem connull (a : Option Addr) (c : Nat) (its : List Tr) (w : World) (hI : ItemsAt' w a its) (hl : its.length ≤ 4611686018427387904) : Calls Tryz.prog 32 #[.slice a its.length c, .func (.func 31) #[] #[]] w fun e w' => e = .returned (.bool (hasNull its)) ∧ Below w.heap.size w w' := by
  have h := hid_e (idxnull a c its w hI hl)
  go_enter Tryz.func32, Tryz.ntmps32
  go_wp2_with fail
  refine h.out.mono ?_
  rintro e X1 ⟨z, rfl, hz, hX1⟩
  replace hX1 := hid_e hX1
  clear h
  go_wp2_with fail
  go_ret
  exact ⟨by rw [← hz]; rfl, hX1.out⟩
/-- Does an index at the path pt serve the need. -/
def servesS (pt p : ByteArray) (op : Int) (t : Tr) : Bool := decide (p = pt) && decide (checkT 0 t = 0) && (if op = 1 then !decide (t.kind = 0) else if op = 6 then decide (t.kind = 5) && !hasNull t.items else decide (2 ≤ op ∧ op ≤ 5))
end Go.Proofs.YtnlljodmkacmlaaGreatDoor.Chk
