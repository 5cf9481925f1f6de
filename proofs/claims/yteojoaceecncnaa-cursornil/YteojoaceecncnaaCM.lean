import Derived.Test.YteojoaceecncnaaCL
/-! cursor: a copy of a list of items; nil cursors; a live run. -/
namespace Go.Proofs.Yteojoaceecncnaa
open Go Go.RowKit

theorem run_append_none {P : Program} (w : World) (t ty e : TypeId) (i : TypeInfo) (ht : P.underlying t = some (.slice e)) (hi : P.info? e = some i) (g n cap : Nat) (hn : n ≤ cap) (ax : Option Addr) (c : Nat) :
    (Builtin.append_ #[t, t] ty #[.slice (some ⟨g, 0, none⟩) n cap, .slice ax 0 c]).run P w = .ok (.slice (some ⟨g, 0, none⟩) n cap) w := by
  have hs : Src P i.size t (.slice ax 0 c) 0 [] w := by
    cases ax with
    | none => exact Src.ofNil w ht c
    | some a => exact Src.ofSlice w ht a 0 c [] (by simp) (fun j u h => by simp at h) (fun u h => by cases h)
  have := run_append_room_src (P := P) w t t ty e i ht hi g 0 n cap _ 0 [] hs (by omega) (fun j h => by simp at h) (fun j h => by simp at h)
  rw [this]
  rfl
theorem wpList_append_zero {P : Program} {ops : Array Oper} {rest : List Oper} {o : Oper} {a : Act} {Q : Exit → Act → World → Prop} (w : World) (hgd : o.guard = none) (s y : Operand) (t : TypeId)
    (ho : o.op = .call { callee := .builtin .append, args := #[s, y], argTypes := #[t, t] }) (e : TypeId) (i : TypeInfo) (ht : P.underlying t = some (.slice e)) (hi : P.info? e = some i)
    (g n cap : Nat) (hn : n ≤ cap) (hse : a.eval s = .slice (some ⟨g, 0, none⟩) n cap) (ax : Option Addr) (c : Nat) (hx : a.eval y = .slice ax 0 c)
    (h : wpList P ops Q rest (a.put o.dst (.slice (some ⟨g, 0, none⟩) n cap)) w) : wpList P ops Q (o :: rest) a w :=
  wpList_plain hgd fun K hK => by
    have hr := run_append_none (P := P) w t o.type e i ht hi g n cap hn ax c
    unfold Oper.wp execOp
    simp only [ho, resolve, invoke, builtin, Sem.run_bind, Sem.run_pure, Result.andThen_ok, List.map_toArray, List.map_cons, List.map_nil, hse, hx, hr]
    exact hK _ _ h
theorem item_info : ∃ ri, Try.prog.info? 50 = some ri ∧ ri.zero = some (.agg #[.string ⟨#[]⟩, .int .i64 0, .int .i64 0, .int .i64 0, .string ⟨#[]⟩, .slice none 0 0, .slice none 0 0]) ∧ ri.size = 7 ∧ ri.bytes = 104 := by
  have : (Try.prog.info? 50).map (fun i => (i.zero, i.size, i.bytes)) = some (some (.agg #[.string ⟨#[]⟩, .int .i64 0, .int .i64 0, .int .i64 0, .string ⟨#[]⟩, .slice none 0 0, .slice none 0 0]), 7, 104) := by kernel_rfl
  cases hq : Try.prog.info? 50 with
  | none => rw [hq] at this; cases this
  | some ri => rw [hq] at this; simp at this; exact ⟨ri, rfl, this.1, this.2.1, this.2.2⟩
/-- Items as they lie: their cells. -/
structure RawAt (w : World) (a : Option Addr) (n : Nat) (cs : List Value) : Prop where
  len : cs.length = n * 7
  at' : ∀ j u, cs[j]? = some u → ∃ b o, a = some ⟨b, o, none⟩ ∧ w.cell? ⟨b, o + j, none⟩ = some u
  one : ∀ u ∈ cs, u.oneCell' = true
set_option maxHeartbeats 4000000 in
theorem own_any (a : Option Addr) (n c : Nat) (cs : List Value) (w : World) (hR : RawAt w a n cs) (hn : n * 104 ≤ 140737488355328) : Calls Try.prog 9 #[.slice a n c] w fun e w' => Below w.heap.size w w' ∧ ∃ g c', e = .returned (.slice (some ⟨g, 0, none⟩) n c') ∧ w.heap.size ≤ g ∧ ∀ j u, cs[j]? = some u → w'.cell? ⟨g, j, none⟩ = some u := by
  obtain ⟨ri, hri, hri1, hri2, hri3⟩ := item_info
  have hB0 := hid_of ((Below.refl _ w).alloc (Nat.le_refl _) (.cells #[] 50))
  by_cases h0 : n = 0
  · subst h0
    have hcs : Hid (cs = []) := List.length_eq_zero_iff.1 (by rw [hR.len])
    clear hR
    go_enter Try.func9, Try.ntmps9
    go_wp2_with (at_builtin; refine wpList_append_zero _ rfl _ _ 25 rfl 50 ri Try.underlying25 hri w.heap.size 0 0 (Nat.le_refl _) rfl a c rfl ?_)
    go_ret
    exact ⟨hB0.out, w.heap.size, 0, rfl, Nat.le_refl _, fun j u h => by rw [hcs.out] at h; simp at h⟩
  · have hsrc : Hid (Src Try.prog 7 25 (.slice a n c) n cs (w.alloc (.cells #[] 50))) := by
      obtain ⟨b, o, rfl, -⟩ := hR.at' 0 _ (List.getElem?_eq_getElem (by rw [hR.len]; omega))
      refine Src.ofSlice _ Try.underlying25 ⟨b, o, none⟩ n c cs hR.len (fun j u hu => ?_) hR.one
      obtain ⟨b2, o2, e, hc⟩ := hR.at' j u hu
      cases e
      rw [add_plain]
      exact stay hB0.out hc
    have hn1 : Hid (0 < n ∧ 0 + n ≤ maxLen ∧ (0 + n) * 104 ≤ 140737488355328) := ⟨by omega, by unfold maxLen; omega, by omega⟩
    have hcap : Hid (¬ (0 + n ≤ 0)) := hid_of (by omega)
    clear h0 hn
    replace hR := hid_of hR
    go_enter Try.func9, Try.ntmps9
    go_wp2_with (at_builtin; refine wpList_append_rw _ rfl _ _ 25 rfl 50 ri _ 7 104 Try.underlying25 hri hri1 hri2 hri3 rfl w.heap.size _ 0 0 [] rfl rfl (Nat.le_refl _) (by unfold maxLen; omega) (fun j u hj => by simp at hj) _ rfl n cs hsrc.out (fun h' => absurd h' hcap.out) hn1.out.1 hn1.out.2.1 hn1.out.2.2 (by simp) ?_; intro g of c2 W3 hA; replace hA := hid_of hA)
    go_ret
    have hR2 := hA.out.row
    rcases hA.out.at' with ⟨-, -, h3⟩ | ⟨hg, ho, -⟩
    · exact absurd h3 hcap.out
    · subst hg ho
      rw [Nat.zero_add, List.nil_append] at hR2
      refine ⟨⟨hA.out.fr.os.trans hB0.out.os, hA.out.fr.tape.trans hB0.out.tape, hA.out.fr.output.trans hB0.out.output, Nat.le_trans hB0.out.size hA.out.fr.size, fun k hk => (hA.out.fr.block k (Nat.lt_of_lt_of_le hk hB0.out.size) (fun e => hcap.out e.2)).trans (hB0.out.block k hk)⟩, _, c2, rfl, hB0.out.size, fun j u hj => ?_⟩
      obtain ⟨b, o, e, -, hc⟩ := hR2.cell hj
      cases e
      rw [Nat.zero_add] at hc
      exact hc
set_option maxHeartbeats 1000000 in
theorem from_nil (v : Value) (w : World) : Calls Try.prog 8 #[.pointer none, v] w fun e w' => e = .returned (.tuple #[.slice none 0 0, .bool true]) ∧ w' = w := by
  have hdn := hid_of (done_nil w)
  go_enter Try.func8, Try.ntmps8
  go_wp2_with fail
  refine hdn.out.mono ?_
  rintro e X1 ⟨rfl, hX⟩
  have hX := hX.symm; subst hX
  go_wp2_with fail
  go_ret2
  exact ⟨rfl, rfl⟩
set_option maxHeartbeats 1000000 in
theorem next_nil (v : Value) (w : World) : Calls Try.prog 7 #[.pointer none, v, .agg #[.int .i64 1, .int .i64 1]] w fun e w' => e = .returned (.tuple #[.slice none 0 0, .bool true, .int .i64 0]) ∧ Below w.heap.size w w' := by
  have hdn := fun W => hid_of (done_nil W)
  have hB := hid_of ((Below.refl _ w).alloc (Nat.le_refl _) (.cells #[.int .i64 1, .int .i64 1] 37))
  go_enter Try.func7, Try.ntmps7
  go_wp2_with fail
  refine (hdn _).out.mono ?_
  rintro e X1 ⟨rfl, hX⟩
  have hX := hX.symm; subst hX
  go_wp2_with fail
  go_ret3
  exact ⟨rfl, hB.out⟩
theorem num_any (x : Int) (w : World) : Calls Try.prog 5 #[.int .i64 x] w fun e w' => e = .returned (.int .i64 x) ∧ w' = w := by
  go_enter Try.func5, Try.ntmps5
  go_wp2_with fail
  go_ret
  exact ⟨rfl, rfl⟩
theorem item_any (s : ByteArray) (n : Int) (w : World) : Calls Try.prog 13 #[.string s, .int .i64 n] w fun e w' => e = .returned (.agg #[.string s, .int .i64 n, .int .i64 3, .int .i64 n, .string ⟨#[]⟩, .slice none 0 0, .slice none 0 0]) ∧ Below w.heap.size w w' := by
  have HB := fun o => hid_of ((Below.refl _ w).alloc (Nat.le_refl _) o)
  go_enter Try.func13, Try.ntmps13
  go_wp2_with fail
  go_returns
  exact ⟨rfl, (HB _).out⟩
end Go.Proofs.Yteojoaceecncnaa
