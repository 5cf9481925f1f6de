import Derived.Test.YthebilggokpciaaH2
import Derived.Deep.Upon
/-! The document's All of every value and path. -/
namespace Go.Proofs.Ythebilggokpciaa
open Go Go.RowKit
theorem items_one {W : World} : {ts : List Tr} → {ys : List Value} → ItemsRep W ts ys → ∀ u ∈ ys, u.oneCell' = true
  | [], ys, h => by unfold ItemsRep at h; subst h; intro u hu; cases hu
  | t :: ts, ys, h => by
    unfold ItemsRep at h
    obtain ⟨cs, r, rfl, h1, h2, h3⟩ := h
    intro u hu
    rcases List.mem_append.1 hu with hu | hu
    · obtain ⟨k, x, s, an, ln, cn, ai, li, ci, rfl⟩ := vrep_five h2
      exact five_one k x s an ln cn ai li ci u hu
    · exact items_one h3 u hu
theorem items_len {W : World} : {ts : List Tr} → {ys : List Value} → ItemsRep W ts ys → ys.length = ts.length * 5
  | [], ys, h => by unfold ItemsRep at h; subst h; rfl
  | t :: ts, ys, h => by
    unfold ItemsRep at h
    obtain ⟨cs, r, rfl, h1, h2, h3⟩ := h
    have := items_len h3
    simp only [List.length_append, List.length_cons]
    omega
/-- A row of one's own appended to another. -/
theorem wpList_append_row {w : World} {ops : Array Oper} {rest : List Oper} {o : Oper} {a : Act} {Q : Exit → Act → World → Prop} (hgd : o.guard = none) (s x : Operand)
    (ho : o.op = .call { callee := .builtin .append, args := #[s, x], argTypes := #[23, 23] }) (lo : Nat) (v : Value) (n : Nat) (xs : List Value) (hs : a.eval s = v) (hown : w.ownsRow lo 25 5 v n xs)
    (lo2 : Nat) (vx : Value) (m : Nat) (ys : List Value) (hx : a.eval x = vx) (hrow : w.ownsRow lo2 25 5 vx m ys) (h1 : ∀ u ∈ ys, u.oneCell' = true) (hby : (n + m) * 80 ≤ 140737488355328) (hlo : lo ≤ w.heap.size)
    (h : ∀ v' w', w'.ownsRow lo 25 5 v' (n + m) (xs ++ ys) → Below lo w w' → wpList Try.prog ops Q rest (a.put o.dst v') w') : wpList Try.prog ops Q (o :: rest) a w := by
  obtain ⟨i5, hi5, hz0, hz1, hz2⟩ := info_parts F25
  obtain ⟨av, cv, rfl⟩ := ownsRow_slice hown
  obtain ⟨ax, cx, rfl⟩ := ownsRow_slice hrow
  by_cases hm : m = 0
  · subst hm
    have hys : ys = [] := List.eq_nil_of_length_eq_zero (by have := hrow.1; simpa using this)
    subst hys
    have hle : n ≤ cv := by
      rcases hown.2 with ⟨hv, h0⟩ | ⟨g, cap, cur, hv, hg, hh, hc, r⟩
      · cases hv; omega
      · cases hv; exact hc
    have hsrc : Src Try.prog i5.size 23 (.slice ax 0 cx) 0 [] w := by
      cases ax with
      | none => exact Src.ofNil w Try.underlying23 cx
      | some ad => exact Src.ofSlice w Try.underlying23 ad 0 cx [] (by simp) (fun j u h => by simp at h) (fun u h => by cases h)
    refine wpList_plain hgd fun K hK => ?_
    have hr := run_append_nothing (P := Try.prog) w 23 23 o.type 25 i5 Try.underlying23 hi5 av n cv hle _ hsrc
    unfold Oper.wp execOp
    simp only [ho, resolve, invoke, builtin, Sem.run_bind, Sem.run_pure, Result.andThen_ok, List.map_toArray, List.map_cons, List.map_nil, hs, hx, hr]
    exact hK _ _ (h _ w (by simpa using hown) (Below.refl _ _))
  · rcases hrow.2 with ⟨_, h0⟩ | ⟨g, cap, cur, hv, hg, hh, hc, hmx, hss, hr⟩
    · omega
    · cases hv
      refine wpList_append_lies w hgd s x 23 ho lo 25 i5 _ 5 80 Try.underlying23 hi5 hz0 hz1 hz2 rfl (by decide) _ n xs hs hown _ m cx ys hx hrow.1 (fun j u hu => ?_) h1 (by omega) (by unfold maxLen; omega) hby hlo _ rfl ?_
      · rw [add_off, Nat.zero_add]
        exact row_cell hrow j u hu
      · intro g' cap' w' h2 h3 _ _
        exact h _ w' h2 (grown_below h3 hlo (fun k hk => (ownsRow_ge hown hk).1))
theorem row_one (w : World) (k x : Int) (s : ByteArray) (an : Option Addr) (ln cn : Nat) (ai : Option Addr) (li ci : Nat) (lo : Nat) (h : lo ≤ w.heap.size) : (w.alloc (.cells #[.int .i64 k, .int .i64 x, .string s, .slice an ln cn, .slice ai li ci] 25)).ownsRow lo 25 5 (.slice (some ⟨w.heap.size, 0, none⟩) 1 1) 1 (five k x s (.slice an ln cn) (.slice ai li ci)) :=
  ⟨rfl, .inr ⟨w.heap.size, 1, #[.int .i64 k, .int .i64 x, .string s, .slice an ln cn, .slice ai li ci], rfl, h, heap_alloc_new w _, Nat.le_refl _, by unfold maxLen; omega, rfl, rfl⟩⟩
theorem reads_tail {W : World} {b o c : Nat} {sg : ByteArray} {r : List ByteArray} (hbb : b < W.heap.size) (hA : ∀ j s, (sg :: r)[j]? = some s → W.cell? ⟨b, o + j, none⟩ = some (.string s)) (hc : r.length + 1 ≤ c ∧ c ≤ 9223372036854775807) : Reads W (.slice (some ⟨b, if c = 1 then o else o + 1, none⟩) r.length (c - 1)) r := by
  refine ⟨_, c - 1, rfl, ⟨by omega, by omega⟩, ?_⟩
  by_cases hc1 : c = 1
  · exact .inl (List.eq_nil_of_length_eq_zero (by omega))
  · refine .inr ⟨b, o + 1, by rw [if_neg hc1], hbb, fun j s hj => ?_⟩
    have := hA (j + 1) s (by simpa using hj)
    rwa [show o + (j + 1) = o + 1 + j by omega] at this
end Go.Proofs.Ythebilggokpciaa
