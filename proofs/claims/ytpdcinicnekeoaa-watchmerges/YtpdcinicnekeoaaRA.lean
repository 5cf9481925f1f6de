import Derived.Test.YtpdcinicnekeoaaWI
/-! watch: the document's New, With. -/
namespace Go.Proofs.Ytpdcinicnekeoaa
open Go Go.RowKit Go.Watch
theorem run_append_none {P : Program} (w : World) (t ty e : TypeId) (i : TypeInfo) (ht : P.underlying t = some (.slice e)) (hi : P.info? e = some i) (g n cap : Nat) (hn : n ≤ cap) (ax : Option Addr) (c : Nat) :
    (Builtin.append_ #[t, t] ty #[.slice (some ⟨g, 0, none⟩) n cap, .slice ax 0 c]).run P w = .ok (.slice (some ⟨g, 0, none⟩) n cap) w := by
  have hs : Src P i.size t (.slice ax 0 c) 0 [] w := by
    cases ax with
    | none => exact Src.ofNil w ht c
    | some a => exact Src.ofSlice w ht a 0 c [] (by simp) (fun j u h => by simp at h) (fun u h => by cases h)
  have := run_append_room_src (P := P) w t t ty e i ht hi g 0 n cap _ 0 [] hs (by omega) (fun j h => by simp at h) (fun j h => by simp at h)
  rw [this]
  rfl
theorem wpList_append_zero {P : Program} {ops : Array Oper} {rest : List Oper} {o : Oper} {a : Act} {Q : Exit → Act → World → Prop} (w : World) (hgd : o.guard = none) (s y : Operand) (t : TypeId)
    (ho : o.op = .call { callee := .builtin .append, args := #[s, y], argTypes := #[t, t] }) (e : TypeId) (i : TypeInfo) (ht : P.underlying t = some (.slice e)) (hi : P.info? e = some i)
    (g n cap : Nat) (hn : n ≤ cap) (hse : a.eval s = .slice (some ⟨g, 0, none⟩) n cap) (ax : Option Addr) (c : Nat) (hx : a.eval y = .slice ax 0 c)
    (h : wpList P ops Q rest (a.put o.dst (.slice (some ⟨g, 0, none⟩) n cap)) w) : wpList P ops Q (o :: rest) a w :=
  wpList_plain hgd fun K hK => by
    have hr := run_append_none (P := P) w t o.type e i ht hi g n cap hn ax c
    unfold Oper.wp execOp
    simp only [ho, resolve, invoke, builtin, Sem.run_bind, Sem.run_pure, Result.andThen_ok, List.map_toArray, List.map_cons, List.map_nil, hse, hx, hr]
    exact hK _ _ h
/-- append([]T{}, xs...): a copy. -/
theorem wpList_append_cp {ops : Array Oper} {rest : List Oper} {o : Oper} {act : Act} {Q : Exit → Act → World → Prop} (W0 : World) (hgd : o.guard = none) (s y : Operand)
    (ho : o.op = .call { callee := .builtin .append, args := #[s, y], argTypes := #[23, 23] }) (S : Nat → Prop) (a : Option Addr) (cap : Nat) (l : List Chg) (hE : ChgsAt S W0 a l) (hlen : l.length * 48 ≤ 140737488355328)
    (hse : act.eval s = .slice (some ⟨W0.heap.size, 0, none⟩) 0 0) (hx : act.eval y = .slice a l.length cap)
    (h : ∀ g of c w', Below W0.heap.size W0 w' → W0.heap.size ≤ g → Rw w' W0.heap.size 4 (some ⟨g, of, none⟩) l.length c (flatC l) → wpList Try.prog ops Q rest (act.put o.dst (.slice (some ⟨g, of, none⟩) l.length c)) w') :
    wpList Try.prog ops Q (o :: rest) act (W0.alloc (.cells #[] 30)) := by
  obtain ⟨ri, hri, hri1, hri2, hri3⟩ := chg_info
  have hB0 : Below W0.heap.size W0 (W0.alloc (.cells #[] 30)) := (Below.refl _ W0).alloc (Nat.le_refl _) _
  by_cases h0 : l = []
  · subst h0
    exact wpList_append_zero _ hgd s y 23 ho 30 ri Try.underlying23 hri W0.heap.size 0 0 (Nat.le_refl _) hse a cap hx (h _ _ _ _ hB0 (Nat.le_refl _) (Rw.nil _ _ _ _))
  · have hl : 0 < l.length := List.length_pos_iff.2 h0
    obtain ⟨b, o', rfl, -, hb⟩ := hE 0 _ (List.getElem?_eq_getElem hl)
    have hsrc : Src Try.prog 4 23 (.slice (some ⟨b, o', none⟩) l.length cap) l.length (flatC l) (W0.alloc (.cells #[] 30)) := by
      refine Src.ofSlice _ Try.underlying23 ⟨b, o', none⟩ l.length cap (flatC l) (flatC_len l) (fun j u hu => ?_) (flatC_one l)
      obtain ⟨b2, o2, e, hc⟩ := hE.flat j u hu
      cases e
      rw [add_plain]
      exact stay hB0 hc
    refine wpList_append_rw _ hgd s y 23 ho 30 ri _ 4 48 Try.underlying23 hri hri1 hri2 hri3 rfl W0.heap.size _ 0 0 [] hse rfl (Nat.le_refl _) (by unfold maxLen; omega) (fun j u hj => by simp at hj) _ hx l.length (flatC l) hsrc (fun h' => by omega) hl (by unfold maxLen; omega) (by omega) (by simp) ?_
    intro g of c w' hA
    have hR := hA.row
    rw [Nat.zero_add, List.nil_append] at hR
    rw [Nat.zero_add]
    refine h g of c w' (hA.below hB0 (Nat.le_refl _) (fun b' hb' => ?_)) ?_ hR
    · obtain ⟨o3, s3, e3⟩ := hb'
      cases e3
      exact Nat.le_refl _
    · rcases hR.pt with h1 | ⟨b3, o3, e3, h3, -⟩
      · have := hR.le
        omega
      · cases e3; exact h3
theorem log_info : ∃ ri, Try.prog.info? 48 = some ri ∧ ri.zero = some (.agg #[.int .i64 0, .slice none 0 0, .int .i64 0, .int .i64 0]) ∧ ri.size = 4 := by
  have : (Try.prog.info? 48).map (fun i => (i.zero, i.size)) = some (some (.agg #[.int .i64 0, .slice none 0 0, .int .i64 0, .int .i64 0]), 4) := by kernel_rfl
  cases hq : Try.prog.info? 48 with
  | none => rw [hq] at this; cases this
  | some ri => rw [hq] at this; simp at this; exact ⟨ri, rfl, this.1, this.2⟩
/-- The document's log, as a value. -/
def refV (k : Int) (a : Option Addr) (n cap : Nat) (hor last : Int) : Value := .agg #[.int .i64 k, .slice a n cap, .int .i64 hor, .int .i64 last]
set_option maxHeartbeats 1000000 in
theorem rnew_any (keep : Int) (w : World) (h1 : 1 ≤ keep) (h2 : keep ≤ 4096) :
    Calls Try.prog 19 #[.int .i64 keep] w fun e w' => e = .returned (.tuple #[refV keep none 0 0 0 0, .int .i64 0]) ∧ Below w.heap.size w w' := by
  unfold refV
  have h3 : ¬ keep < 1 := by omega
  have h4 : ¬ 4096 < keep := by omega
  go_enter Try.func19, Try.ntmps19
  go_wp2_with fail
  exact bodyPost_ret (v := .tuple #[.agg #[.int .i64 keep, .slice none 0 0, .int .i64 0, .int .i64 0], .int .i64 0]) (by simp [results, Try.results19, go_sem]) rfl ⟨rfl, (Below.refl _ w).alloc (Nat.le_refl _) _⟩
set_option maxHeartbeats 1000000 in
theorem rnew_not (keep : Int) (w : World) (h : keep < 1 ∨ 4096 < keep) :
    Calls Try.prog 19 #[.int .i64 keep] w fun e w' => e = .returned (.tuple #[refV 0 none 0 0 0 0, .int .i64 2]) ∧ Below w.heap.size w w' := by
  unfold refV
  by_cases h3 : keep < 1
  · clear h
    go_enter Try.func19, Try.ntmps19
    go_wp2_with fail
    exact bodyPost_ret (v := .tuple #[.agg #[.int .i64 0, .slice none 0 0, .int .i64 0, .int .i64 0], .int .i64 2]) (by simp [results, Try.results19, go_sem]) rfl ⟨rfl, (Below.refl _ w).alloc (Nat.le_refl _) _⟩
  · have h4 : 4096 < keep := by omega
    clear h
    go_enter Try.func19, Try.ntmps19
    go_wp2_with fail
    exact bodyPost_ret (v := .tuple #[.agg #[.int .i64 0, .slice none 0 0, .int .i64 0, .int .i64 0], .int .i64 2]) (by simp [results, Try.results19, go_sem]) rfl ⟨rfl, (Below.refl _ w).alloc (Nat.le_refl _) _⟩
end Go.Proofs.Ytpdcinicnekeoaa
