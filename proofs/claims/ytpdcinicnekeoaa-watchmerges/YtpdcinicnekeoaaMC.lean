import Derived.Test.YtpdcinicnekeoaaMA
/-! watch: Grow, Concat of at most one list. -/
namespace Go.Proofs.Ytpdcinicnekeoaa
open Go Go.RowKit Go.Watch
set_option maxHeartbeats 1000000 in
theorem grow_nil (w : World) : Calls Try.prog 38 #[.slice none 0 0, .int .i64 0] w fun e w' => e = .returned (.slice none 0 0) ∧ w' = w := by
  go_enter Try.func38, Try.ntmps38
  go_wp2_with fail
  go_ret
  exact ⟨rfl, rfl⟩
set_option maxHeartbeats 1000000 in
set_option maxRecDepth 100000 in
theorem grow_any (n : Nat) (w : World) (h0 : 0 < n) (hn : n ≤ 1048576) : Calls Try.prog 38 #[.slice none 0 0, .int .i64 (n : Int)] w fun e w' => Below w.heap.size w w' ∧ ∃ cap, e = .returned (.slice (some ⟨w.heap.size, 0, none⟩) 0 cap) ∧ n ≤ cap ∧ Rw w' w.heap.size 4 (some ⟨w.heap.size, 0, none⟩) 0 cap [] := by
  have hge := hid_of (grownCap_ge w n 0 30)
  have hle := hid_of (grownCap_le_maxLen w n 0 30 (by unfold maxLen; omega))
  unfold grownCap at hge hle
  have h1 : ¬ (n : Int) < 0 := by omega
  have h2 : (0 : Int) < (n : Int) := by omega
  have h3 : (n : Int) ≤ 1048576 := by omega
  have hb : Try.t30.bytes = 48 := by kernel_rfl
  have g1 : ¬ 281474976710656 < Builtin.nextslicecap n 0 * Try.t30.bytes := by
    rw [hb]
    have := growslice_fits (need := n) (old := 0) (bytes := 48) h0 (by omega)
    omega
  have g2 : (n : Int) * (Try.t30.bytes : Int) ≤ 281474976710656 := by rw [hb]; omega
  have g3 : ¬ n = 0 := by omega
  have g4 : ¬ n * 4 = 0 := by omega
  clear hb
  go_enter Try.func38, Try.ntmps38
  go_wp2_with fail
  go_ret
  refine ⟨below_drew ((Below.refl _ w).alloc (Nat.le_refl _) _), _, rfl, hge.out, rfl, Nat.zero_le _, hle.out, .inr ⟨w.heap.size, 0, rfl, Nat.le_refl _, by simp, ?_, fun j v h => by simp at h⟩⟩
  refine block_there _ _ _ _ (heap_alloc_new w _) _ ?_
  have := hge.out
  simp only [Array.size_append, size_zeroCells]
  simp
  omega
theorem run_append_nilnil {P : Program} (w : World) (t ty e : TypeId) (i : TypeInfo) (ht : P.underlying t = some (.slice e)) (hi : P.info? e = some i) (ax : Option Addr) (c : Nat) :
    (Builtin.append_ #[t, t] ty #[.slice none 0 0, .slice ax 0 c]).run P w = .ok (.slice none 0 0) w := by
  cases ax <;> simp [Builtin.append_, run_underlying ht, sizeOf, typeInfo, hi, Builtin.lenOf, Builtin.firstCells, loadCells, loadCellsFrom]
theorem wpList_append_nilnil {P : Program} {ops : Array Oper} {rest : List Oper} {o : Oper} {a : Act} {Q : Exit → Act → World → Prop} (w : World) (hgd : o.guard = none) (s y : Operand) (t : TypeId)
    (ho : o.op = .call { callee := .builtin .append, args := #[s, y], argTypes := #[t, t] }) (e : TypeId) (i : TypeInfo) (ht : P.underlying t = some (.slice e)) (hi : P.info? e = some i)
    (hse : a.eval s = .slice none 0 0) (ax : Option Addr) (c : Nat) (hx : a.eval y = .slice ax 0 c)
    (h : wpList P ops Q rest (a.put o.dst (.slice none 0 0)) w) : wpList P ops Q (o :: rest) a w :=
  wpList_plain hgd fun K hK => by
    have hr := run_append_nilnil (P := P) w t o.type e i ht hi ax c
    unfold Oper.wp execOp
    simp only [ho, resolve, invoke, builtin, Sem.run_bind, Sem.run_pure, Result.andThen_ok, List.map_toArray, List.map_cons, List.map_nil, hse, hx, hr]
    exact hK _ _ h
set_option maxHeartbeats 4000000 in
set_option maxRecDepth 100000 in
theorem concat_any {a : Option Addr} {ls : List (List Chg)} {cap : Nat} {w : World} (h : RowsAt w a ls) (hl : ls.length < 2) (hN : totL ls ≤ 1048576) :
    Calls Try.prog 35 #[.slice a ls.length cap] w (MPost w (kM ls)) := by
  obtain ⟨ri, hri, hri1, hri2, hri3⟩ := chg_info
  match ls, hl with
  | [], _ =>
    have hfin : Hid (MPost w (kM []) (.returned (.slice none 0 0)) w) := ⟨Below.refl _ w, none, 0, rfl, Rw.nil _ _ _ _⟩
    have hg := hid_of (grow_nil w)
    simp only [List.length_nil]
    clear h hN
    go_enter Try.func35, Try.ntmps35
    go_wp2_with fail
    refine wp_loop_rounds 1 ?_
    rw [rounds_succ]
    go_wp2_with fail
    refine hg.out.mono ?_
    rintro e Z ⟨rfl, hZ⟩
    obtain rfl : w = Z := hZ.symm
    clear hZ
    go_wp2_with fail
    refine wp_loop_rounds 1 ?_
    rw [rounds_succ]
    go_wp2_with fail
    go_ret
    exact hfin.out
  | [l], _ =>
    obtain ⟨b, o, xa, xc, rfl, hc, hx, hx1, hx2⟩ := h 0 l rfl
    rw [Nat.add_zero] at hc
    have hkm : Hid (kM [l] = l) := by show mw l [] = l; exact mw_nil l
    have hln : l.length ≤ 1048576 := by simpa [totL] using hN
    obtain ⟨n, hn⟩ : ∃ n, Hid (l.length = n) := ⟨_, rfl⟩
    rw [hn.out] at hc hx1 hln
    rw [hkm.out]
    simp only [List.length_singleton]
    by_cases h0 : n = 0
    · subst h0
      have el : l = [] := List.length_eq_zero_iff.1 hn.out
      subst el
      have hfin : Hid (MPost w [] (.returned (.slice none 0 0)) w) := ⟨Below.refl _ w, none, 0, rfl, Rw.nil _ _ _ _⟩
      have hg := hid_of (grow_nil w)
      clear h hN hx
      go_enter Try.func35, Try.ntmps35
      go_wp2_with fail
      refine wp_loop_rounds 2 ?_
      rw [rounds_succ]
      go_wp2_with fail
      rw [rounds_succ]
      go_wp2_with fail
      refine hg.out.mono ?_
      rintro e Z ⟨rfl, hZ⟩
      obtain rfl : w = Z := hZ.symm
      clear hZ
      go_wp2_with fail
      refine wp_loop_rounds 2 ?_
      rw [rounds_succ]
      go_wp2_with (at_builtin; refine wpList_append_nilnil w rfl _ _ 23 rfl 30 ri Try.underlying23 hri rfl _ _ rfl ?_)
      rw [rounds_succ]
      go_wp2_with fail
      go_ret
      exact hfin.out
    · have hg := hid_of (grow_any n w (by omega) (by omega))
      have hni : (n : Int) ≤ 1048576 := by omega
      have hni2 : ¬ (n : Int) < 0 := by omega
      replace hx := hid_of hx
      clear h hN
      go_enter Try.func35, Try.ntmps35
      go_wp2_with fail
      refine wp_loop_rounds 2 ?_
      rw [rounds_succ]
      go_wp2_with fail
      rw [rounds_succ]
      go_wp2_with fail
      refine hg.out.mono ?_
      rintro e W1 ⟨hB1, gc, rfl, hgc, hR1⟩
      replace hc := stay hB1 hc
      have hx' := hid_of (hx.out.below hB1)
      replace hB1 := hid_of hB1
      replace hR1 := hid_of hR1
      have hfin : Hid (∀ W2, Fr (fun q => q = w.heap.size) W1 W2 → Rw W2 w.heap.size 4 (some ⟨w.heap.size, 0, none⟩) (0 + n) gc (flatC ([] ++ l)) → MPost w l (.returned (.slice (some ⟨w.heap.size, 0, none⟩) (0 + n) gc)) W2) := fun W2 h1 h2 => by
        rw [Nat.zero_add, List.nil_append] at h2
        rw [Nat.zero_add]
        refine ⟨⟨h1.os.trans hB1.out.os, h1.tape.trans hB1.out.tape, h1.output.trans hB1.out.output, Nat.le_trans hB1.out.size h1.size, fun k hk => (h1.block k (Nat.lt_of_lt_of_le hk hB1.out.size) (fun e => by omega)).trans (hB1.out.block k hk)⟩, _, _, by rw [hn.out], by rw [hn.out]; exact h2⟩
      have hgr : Hid (0 < gc ∧ 0 + n ≤ gc) := ⟨by omega, by omega⟩
      clear hg
      go_wp2_with fail
      refine wp_loop_rounds 2 ?_
      rw [rounds_succ]
      go_wp2_with (at_builtin; refine wpList_append_room W1 rfl _ _ rfl w.heap.size w.heap.size 0 0 gc [] rfl hR1.out hgr.out.1 _ xa xc n l hn.out hx'.out rfl hgr.out.2 ?_; intro W2 hF2 hR2; have hE := hid_of (hfin.out W2 hF2 hR2); clear hF2 hR2 hfin)
      rw [rounds_succ]
      go_wp2_with fail
      rw [Nat.zero_add] at hE
      go_ret
      exact hE.out
end Go.Proofs.Ytpdcinicnekeoaa
