import Derived.Test.YtloeongljbgmnaaHE
/-! heap: Get. -/
namespace Go.Proofs.Ytloeongljbgmnaa
open Go Go.RowKit
/-- The node of a number, if it was made. -/
def nodeAt (ns : List Nd) (num : Int) : Option Nd := if 1 ≤ num then ns[(num - 1).toNat]? else none
theorem nodeAt_some {ns : List Nd} {num : Int} {x : Nd} (h : nodeAt ns num = some x) : ∃ k : Nat, num = (k : Int) + 1 ∧ k < ns.length ∧ ns[k]? = some x := by
  unfold nodeAt at h
  split at h
  · exact ⟨(num - 1).toNat, by omega, (List.getElem?_eq_some_iff.1 h).1, h⟩
  · cases h
theorem nodeAt_none {ns : List Nd} {num : Int} (h : nodeAt ns num = none) : ¬ (1 ≤ num ∧ num ≤ ns.length) := fun ⟨h1, h2⟩ => by
  unfold nodeAt at h
  rw [if_pos h1, List.getElem?_eq_none_iff] at h
  omega
theorem nodeAt_nat {ns : List Nd} {k : Nat} {x : Nd} (h : ns[k]? = some x) : nodeAt ns ((k : Int) + 1) = some x := by
  unfold nodeAt
  rw [if_pos (by omega), show ((k : Int) + 1 - 1).toNat = k from by omega]
  exact h
theorem cellV_some (ns : List Nd) (N : Nat → Nat) {k : Nat} (h : k < ns.length) : cellV ns N ((k : Int) + 1) = .tuple #[ifN (N k), .bool true] := by
  unfold cellV
  rw [if_pos (by omega), show ((k : Int) + 1 - 1).toNat = k from by omega]
theorem cellV_none (ns : List Nd) (N : Nat → Nat) {num : Int} (h : nodeAt ns num = none) : cellV ns N num = .tuple #[.nilIface, .bool false] := by
  unfold cellV
  rw [if_neg (nodeAt_none h)]
/-- Does a Ref name a live node? -/
def isLive (ns : List Nd) (num gen : Int) : Bool := match nodeAt ns num with
  | some x => x.live && decide (x.gen = gen)
  | none => false
def valOf (ns : List Nd) (num gen : Int) : Int := match nodeAt ns num with
  | some x => if x.live && decide (x.gen = gen) then x.val else 0
  | none => 0
set_option maxRecDepth 100000 in
set_option maxHeartbeats 1000000 in
theorem isof_any (gen val num g2 : Int) (live : Bool) (w : World) : Calls Try.prog 55 #[.agg #[.int .i64 gen, .bool live, .int .i64 val], .agg #[.int .i64 num, .int .i64 g2]] w fun e w' => e = .returned (.bool (live && decide (gen = g2))) ∧ Below w.heap.size w w' := by
  have hB : Hid (Below w.heap.size w ((w.alloc (.cells #[.int .i64 gen, .bool live, .int .i64 val] 136)).alloc (.cells #[.int .i64 num, .int .i64 g2] 82))) := ((Below.refl _ w).alloc (Nat.le_refl _) _).alloc (by simp) _
  cases live with
  | false =>
    go_enter Try.func55, Try.ntmps55
    go_wp2
    go_ret
    exact ⟨by simp, hB.out⟩
  | true =>
    by_cases h : gen = g2
    · subst h
      go_enter Try.func55, Try.ntmps55
      go_wp2
      go_ret
      exact ⟨by simp, hB.out⟩
    · have hd : decide (gen = g2) = false := decide_eq_false h
      go_enter Try.func55, Try.ntmps55
      go_wp2
      go_ret
      exact ⟨by rw [hd]; simp [h], hB.out⟩
section
variable {lo : Nat} {w : World} {hb : Nat} {obj most : Int} {ns : List Nd} {c : List Int} {cs : List (List Int)} {p : Pl}
set_option maxRecDepth 100000 in
set_option maxHeartbeats 2000000 in
theorem get_any (h : HeapV lo w hb obj most ns c cs p) (num gen : Int) : Calls Try.prog 31 #[.pointer (some ⟨hb, 0, none⟩), .pointer none, .agg #[.int .i64 num, .int .i64 gen]] w fun e w' => e = .returned (.tuple #[.int .i64 (valOf ns num gen), .bool (isLive ns num gen)]) ∧ Below w.heap.size w w' := by
  have hB1 : Below w.heap.size w (w.alloc (.cells #[.int .i64 num, .int .i64 gen] 82)) := (Below.refl _ w).alloc (Nat.le_refl _) _
  have h1 := h.under hB1
  have hcl := hid_of (cell_any h1 num)
  cases hx : nodeAt ns num with
  | none =>
    have e1 : isLive ns num gen = false := by unfold isLive; rw [hx]
    have e2 : valOf ns num gen = 0 := by unfold valOf; rw [hx]
    rw [cellV_none ns p.N hx] at hcl
    rw [e1, e2]
    clear h h1 hx e1 e2
    replace hB1 := hid_of hB1
    go_enter Try.func31, Try.ntmps31
    go_wp2_with fail
    refine hcl.out.mono ?_
    rintro e W2 ⟨rfl, rfl⟩
    clear hcl
    go_wp2_with fail
    go_ret2
    exact ⟨rfl, hB1.out⟩
  | some x =>
    obtain ⟨k, rfl, hk, hkx⟩ := nodeAt_some hx
    have e1 : isLive ns ((k : Int) + 1) gen = (x.live && decide (x.gen = gen)) := by unfold isLive; rw [hx]
    have e2 : valOf ns ((k : Int) + 1) gen = if x.live && decide (x.gen = gen) then x.val else 0 := by unfold valOf; rw [hx]
    rw [cellV_some ns p.N hk] at hcl
    rw [e1, e2]
    have hg := hid_of (nget_any (p.N k) obj ((k : Int) + 1) x.gen x.live x.val (w.alloc (.cells #[.int .i64 ((k : Int) + 1), .int .i64 gen] 82)) (h1.nd k x hkx))
    obtain ⟨xg, xl, xv⟩ := x
    simp only at hg ⊢
    unfold ifN at hcl
    obtain ⟨t, ht⟩ : ∃ t, Hid ((xl && decide (xg = gen)) = t) := ⟨_, rfl⟩
    rw [ht.out]
    obtain ⟨v, hv⟩ : ∃ v, Hid ((if t = true then xv else 0) = v) := ⟨_, rfl⟩
    rw [hv.out]
    have hio := hid_of (fun W => isof_any xg xv ((k : Int) + 1) gen xl W)
    rw [ht.out] at hio
    clear ht
    have z0 := heap_alloc_new w (.cells #[.int .i64 ((k : Int) + 1), .int .i64 gen] 82)
    clear h h1 hx e1 e2 hkx
    replace hB1 := hid_of hB1
    go_enter Try.func31, Try.ntmps31
    go_wp2_with fail
    refine hcl.out.mono ?_
    rintro e W2 ⟨rfl, rfl⟩
    clear hcl
    go_wp2_with fail
    refine hg.out.mono ?_
    rintro e W3 ⟨rfl, hB3⟩
    obtain ⟨W4, hW4⟩ : ∃ W4, Hid (W3.alloc (.cells #[.int .i64 xg, .bool xl, .int .i64 xv] 136) = W4) := ⟨_, rfl⟩
    have hB34 : Below W3.heap.size W3 W4 := by rw [← hW4.out]; exact (Below.refl _ W3).alloc (Nat.le_refl _) _
    have z4 := heap_alloc_new W3 (.cells #[.int .i64 xg, .bool xl, .int .i64 xv] 136)
    rw [hW4.out] at z4
    obtain ⟨u0, u1, u2⟩ := cells3 z4
    have r0 := stay hB34 (stay hB3 (cell_of (k := 0) z0 rfl))
    have r1 := stay hB34 (stay hB3 (cell_of (k := 1) z0 rfl))
    simp only [List.getElem_toArray, List.getElem_cons_zero, List.getElem_cons_succ] at r0 r1
    have hB4 : Hid (Below w.heap.size w W4) := (hB1.out.trans (hB3.mono hB1.out.size)).trans (hB34.mono (Nat.le_trans hB1.out.size hB3.size))
    clear hg hB3 hB34 z0 z4 hB1
    go_wp2_with (rw [hW4.out])
    refine (hio.out W4).mono ?_
    rintro e W5 ⟨rfl, hB5⟩
    have v2 := stay hB5 u2
    have hB6 : Hid (Below w.heap.size w W5) := hB4.out.trans (hB5.mono hB4.out.size)
    clear hio hB5 u0 u1 u2 r0 r1 hW4 hB4
    cases t with
    | true =>
      obtain rfl : xv = v := hv.out
      clear hv
      go_wp2_with fail
      go_ret2
      exact ⟨rfl, hB6.out⟩
    | false =>
      obtain rfl : 0 = v := hv.out
      clear hv
      go_wp2_with fail
      go_ret2
      exact ⟨rfl, hB6.out⟩
end
end Go.Proofs.Ytloeongljbgmnaa
