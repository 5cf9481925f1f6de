import Derived.Test.YtdghkmgkmfnjjaaGreatDoorNA
import Derived.Deep.AppendLies
import Derived.Deep.AppendSrc
import Derived.Shelf.RegionOpen
/-! An act on a nil catalog. -/
namespace Go.Proofs.YtdghkmgkmfnjjaaGreatDoor
open Go Go.RowKit Go.Maps

theorem item_info : ∃ ri, Tryz.prog.info? 58 = some ri ∧ ri.zero = some (.agg #[.string ⟨#[]⟩, .int .i64 0, .int .i64 0, .int .i64 0, .string ⟨#[]⟩, .slice none 0 0, .slice none 0 0]) ∧ ri.size = 7 ∧ ri.bytes = 104 := by
  have : (Tryz.prog.info? 58).map (fun i => (i.zero, i.size, i.bytes)) = some (some (.agg #[.string ⟨#[]⟩, .int .i64 0, .int .i64 0, .int .i64 0, .string ⟨#[]⟩, .slice none 0 0, .slice none 0 0]), 7, 104) := by kernel_rfl
  cases hq : Tryz.prog.info? 58 with
  | none => rw [hq] at this; cases this
  | some ri => rw [hq] at this; simp at this; exact ⟨ri, rfl, this.1, this.2.1, this.2.2⟩
/-- Items as they lie: their cells. -/
structure RawAt (w : World) (a : Option Addr) (n : Nat) (cs : List Value) : Prop where
  len : cs.length = n * 7
  at' : ∀ j u, cs[j]? = some u → ∃ b o, a = some ⟨b, o, none⟩ ∧ w.cell? ⟨b, o + j, none⟩ = some u
  one : ∀ u ∈ cs, u.oneCell' = true
theorem RawAt.keep {w w' : World} {a : Option Addr} {n : Nat} {cs : List Value} (h : RawAt w a n cs) (hb : Below w.heap.size w w') : RawAt w' a n cs := ⟨h.len, fun j u hj => by
  obtain ⟨b, o, h1, h2⟩ := h.at' j u hj
  exact ⟨b, o, h1, stay hb h2⟩, h.one⟩
/-- A block of items. -/
def Th (w : World) (g m : Nat) : Prop := ∃ cs : Array Value, w.heap[g]? = some (.cells cs 58 (0, 0)) ∧ m ≤ cs.size
theorem Th.keep {w w' : World} {g m : Nat} (h : Th w g m) (hb : Below w.heap.size w w') : Th w' g m := by
  obtain ⟨cs, h1, h2⟩ := h
  exact ⟨cs, block_keep h1 hb, h2⟩
theorem Th.at {w : World} {g m : Nat} (h : Th w g m) {j : Nat} (hj : j < m) : (∃ u, w.cell? ⟨g, j, none⟩ = some u) ∧ w.frozen? ⟨g, j, none⟩ = false := by
  obtain ⟨cs, h1, h2⟩ := h
  refine ⟨⟨cs[j]'(by omega), ?_⟩, by simp [World.frozen?, h1]⟩
  simp [World.cell?, h1, Array.getElem?_eq_getElem (show j < cs.size by omega)]
theorem Th.set {w : World} {g m : Nat} (h : Th w g m) (j : Nat) (u : Value) : Th (w.setCell ⟨g, j, none⟩ u) g m := by
  obtain ⟨cs, h1, h2⟩ := h
  exact ⟨cs.setIfInBounds j u, by simp [World.setCell, Array.getElem?_modify, h1], by simpa using h2⟩
theorem run_append_none {P : Program} (w : World) (t ty e : TypeId) (i : TypeInfo) (ht : P.underlying t = some (.slice e)) (hi : P.info? e = some i) (g n cap : Nat) (hn : n ≤ cap) (ax : Option Addr) (c : Nat) :
    (Builtin.append_ #[t, t] ty #[.slice (some ⟨g, 0, none⟩) n cap, .slice ax 0 c]).run P w = .ok (.slice (some ⟨g, 0, none⟩) n cap) w := by
  have hs : Src P i.size t (.slice ax 0 c) 0 [] w := by
    cases ax with
    | none => exact Src.ofNil w ht c
    | some a => exact Src.ofSlice w ht a 0 c [] (by simp) (fun j u h => by simp at h) (fun u h => by cases h)
  have := run_append_room_src (P := P) w t t ty e i ht hi g 0 n cap _ 0 [] hs (by omega) (fun j h => by simp at h) (fun j h => by simp at h)
  rw [this]
  rfl
theorem wpList_append_zero {P : Program} {ops : Array Oper} {rest : List Oper} {o : Oper} {a : Act} {Q : Exit → Act → World → Prop} (w : World) (hgd : o.guard = none) (s y : Operand) (t : TypeId)
    (ho : o.op = .call { callee := .builtin .append, args := #[s, y], argTypes := #[t, t] }) (e : TypeId) (i : TypeInfo) (ht : P.underlying t = some (.slice e)) (hi : P.info? e = some i)
    (g n cap : Nat) (hn : n ≤ cap) (hse : a.eval s = .slice (some ⟨g, 0, none⟩) n cap) (ax : Option Addr) (c : Nat) (hx : a.eval y = .slice ax 0 c)
    (h : wpList P ops Q rest (a.put o.dst (.slice (some ⟨g, 0, none⟩) n cap)) w) : wpList P ops Q (o :: rest) a w :=
  wpList_plain hgd fun K hK => by
    have hr := run_append_none (P := P) w t o.type e i ht hi g n cap hn ax c
    unfold Oper.wp execOp
    simp only [ho, resolve, invoke, builtin, Sem.run_bind, Sem.run_pure, Result.andThen_ok, List.map_toArray, List.map_cons, List.map_nil, hse, hx, hr]
    exact hK _ _ h
set_option maxHeartbeats 4000000 in
set_option maxRecDepth 100000 in
theorem own_row (a : Option Addr) (n c : Nat) (cs : List Value) (w : World) (hR : RawAt w a n cs) (hn : n * 104 ≤ 140737488355328) : Calls Tryz.prog 11 #[.slice a n c] w fun e w' => Below w.heap.size w w' ∧ ∃ g c', e = .returned (.slice (some ⟨g, 0, none⟩) n c') ∧ w.heap.size ≤ g ∧ Th w' g (n * 7) := by
  obtain ⟨ri, hri, hri1, hri2, hri3⟩ := item_info
  have hB0 := hid_of ((Below.refl _ w).alloc (Nat.le_refl _) (.cells #[] 58))
  by_cases h0 : n = 0
  · subst h0
    clear hR
    go_enter Tryz.func11, Tryz.ntmps11
    go_wp2_with (at_builtin; refine wpList_append_zero _ rfl _ _ 28 rfl 58 ri Tryz.underlying28 hri w.heap.size 0 0 (Nat.le_refl _) rfl a c rfl ?_)
    go_ret
    exact ⟨hB0.out, w.heap.size, 0, rfl, Nat.le_refl _, #[], heap_alloc_new _ _, Nat.zero_le _⟩
  · obtain ⟨b, o, rfl, hb0⟩ := hR.at' 0 _ (List.getElem?_eq_getElem (by rw [hR.len]; omega))
    have hnews : ∀ j u, cs[j]? = some u → (w.alloc (.cells #[] 58)).cell? ((⟨b, o, none⟩ : Addr).add j) = some u := fun j u hj => by
      obtain ⟨b2, o2, e, hc⟩ := hR.at' j u hj
      cases e
      rw [Ap.add_plain]
      exact stay hB0.out hc
    have hown : (w.alloc (.cells #[] 58)).ownsRow w.heap.size 58 7 (.slice (some ⟨w.heap.size, 0, none⟩) 0 0) 0 [] := ⟨rfl, .inr ⟨w.heap.size, 0, #[], rfl, Nat.le_refl _, heap_alloc_new _ _, Nat.le_refl _, by unfold maxLen; omega, rfl, by simp⟩⟩
    have hn1 : Hid (0 < n ∧ 0 + n ≤ maxLen ∧ (0 + n) * 104 ≤ 140737488355328) := ⟨by omega, by unfold maxLen; omega, by omega⟩
    have hlen := hid_of hR.len
    have hone := hid_of hR.one
    replace hnews := hid_of hnews
    replace hown := hid_of hown
    clear h0 hn hb0 hR
    go_enter Tryz.func11, Tryz.ntmps11
    go_wp2_with (at_builtin; refine wpList_append_lies _ rfl _ _ 28 rfl w.heap.size 58 ri _ 7 104 Tryz.underlying28 hri hri1 hri2 hri3 rfl (by decide) _ 0 ([] : List Value) rfl hown.out _ n c cs rfl hlen.out hnews.out hone.out hn1.out.1 hn1.out.2.1 hn1.out.2.2 (by simp) _ rfl ?_; intro g2 cap2 X2 hown2 hgrow2 hat2 hlt2; have hO := hid_of hown2; have hB2 := hid_of (hB0.out.trans ((⟨hgrow2.os, hgrow2.tape, hgrow2.output, hgrow2.size, fun k hk => hgrow2.block k (by simp; omega) (fun e => by cases e; exact absurd hk (Nat.lt_irrefl _))⟩ : Below w.heap.size (w.alloc (.cells #[] 58)) X2))); clear hgrow2 hat2 hlt2 hown2)
    go_ret
    rw [Nat.zero_add] at hO
    obtain ⟨cur, r, hh⟩ := own_type hO.out rfl
    rcases hO.out.2 with ⟨h, _⟩ | ⟨q, cp, cur, h, h1, h2, h3, h4, h5, h6⟩
    · cases h
    · cases h
      exact ⟨hB2.out, g2, cap2, rfl, h1, cur, h2, by rw [h5]; exact Nat.mul_le_mul_right 7 h3⟩
end Go.Proofs.YtdghkmgkmfnjjaaGreatDoor
