import Derived.OrdersHeld
import Derived.Below
/-! A region that draws its order, where a load and a store of ONE cell stand: S0 is held throughout; S1 (what the loads of that cell read) only until operation 'stop' has come up, and 'stop' waits for those loads. -/
namespace Go.Until
open Go Go.RowKit
section
variable {P : Program} {ops : Array Oper} {Q : Exit → Act → World → Prop} {md : Region.Mode} {S0 S1 : World → Prop} {stop : Nat}

def wpU (P : Program) (md : Region.Mode) (ops : Array Oper) (Q : Exit → Act → World → Prop) (S0 S1 : World → Prop) (stop : Nat) : Nat → Array Bool → Act → World → Prop
  | 0, listed, a, w => Region.ready md ops listed = [] ∧ Q .normal a w
  | f + 1, listed, a, w =>
    (Region.ready md ops listed = [] → Q .normal a w) ∧
    ∀ i ∈ Region.ready md ops listed, wpOp P ops Q i (fun a' w' => (S0 w' ∧ ((listed.setIfInBounds i true).getD stop false = false → S1 w')) ∧ wpU P md ops Q S0 S1 stop f (listed.setIfInBounds i true) a' w') a w

theorem wpAny_of_U : ∀ (f : Nat) (listed : Array Bool) (a : Act) (w : World), wpU P md ops Q S0 S1 stop f listed a w → wpAny P md ops Q f listed a w
  | 0, _, _, _, h => h
  | f + 1, _, _, _, h => ⟨h.1, fun i hi => wpOp_mono (fun a' w' h' => wpAny_of_U f _ a' w' h'.2) (h.2 i hi)⟩

/-- 'stop' waits for i. -/
def waits (md : Region.Mode) (ops : Array Oper) (stop i : Nat) : Bool := ((ops[stop]?).map fun o => o.after.toList.any fun e => Region.binds md e && e.on == i).getD false

theorem not_listed {i : Nat} {oj : Oper} {listed : Array Bool} (hi : i ∈ Region.ready md ops listed) (hall : ∀ e ∈ oj.after, Region.binds md e = true → listed.getD e.on false = true) : ∀ e ∈ oj.after, Region.binds md e = true → e.on ≠ i := fun e he hb heq => by
  have h1 := hall e he hb
  have h0 := (mem_ready.1 hi).1
  rw [heq] at h1
  rcases Nat.lt_or_ge i listed.size with h' | h'
  · simp [h'] at h0 h1; rw [h0] at h1; cases h1
  · simp [Array.getElem?_eq_none h'] at h1

theorem ne_stop {i j : Nat} {listed : Array Bool} (hw : waits md ops stop i = true) (hi : i ∈ Region.ready md ops listed) (hj : j ∈ Region.ready md ops listed) : j ≠ stop := by
  intro e
  subst e
  obtain ⟨_, o, ho, hall⟩ := mem_ready.1 hj
  unfold waits at hw
  rw [ho] at hw
  simp only [Option.map_some, Option.getD_some, List.any_eq_true, Bool.and_eq_true, beq_iff_eq] at hw
  obtain ⟨e, he, hb, hei⟩ := hw
  exact not_listed hi hall e (by simpa using he) hb hei

/-- Take number i first: T says what of S0, S1 the operation leans on; 'ok' says that T holds as long as i has not come up. -/
theorem wpU_first {T : World → Prop} {i : Nat} {oi : Oper} {v : Value} (hi : ops[i]? = some oi) (hsel : ∀ (j : Nat) (o : Oper) cs b, ops[j]? = some o → o.op ≠ .select cs b)
    (hQ : ∀ c a w, Q (.panic c) (a.put oi.dst v) w → Q (.panic c) a w) (his : i ≠ stop)
    (ok : (∀ w, S0 w → T w) ∨ (waits md ops stop i = true ∧ ∀ w, S0 w → S1 w → T w)) :
    ∀ (f : Nat) (listed : Array Bool) (a : Act) (w : World),
      (∀ j oj, ops[j]? = some oj → j ≠ i → listed.getD j true = false → (∀ e ∈ oj.after, Region.binds md e = true → e.on ≠ i) → oi.apart ops oj = true) →
      i ∈ Region.ready md ops listed → (waits md ops stop i = true → listed.getD stop false = false) → YieldsIf P ops T oi v a → S0 w → (listed.getD stop false = false → S1 w) →
      wpU P md ops Q S0 S1 stop f (listed.setIfInBounds i true) (a.put oi.dst v) w → wpU P md ops Q S0 S1 stop (f + 1) listed a w := by
  have getT : ∀ (listed : Array Bool) (w : World), (waits md ops stop i = true → listed.getD stop false = false) → S0 w → (listed.getD stop false = false → S1 w) → T w := by
    intro listed w h1 h2 h3
    rcases ok with h | ⟨hw, h⟩
    · exact h w h2
    · exact h w h2 (h3 (h1 hw))
  have setE : ∀ (listed : Array Bool), (listed.setIfInBounds i true).getD stop false = listed.getD stop false := fun listed => getD_set_ne false his
  intro f
  induction f with
  | zero =>
    intro listed a w _ hr hs hy h0 h1 H
    refine ⟨fun h => (by rw [h] at hr; cases hr), fun j hj => ?_⟩
    by_cases hji : j = i
    · subst hji; exact hy.wpOp hi (getT listed w hs h0 h1) ⟨⟨h0, fun h => h1 (by rw [← setE]; exact h)⟩, H⟩
    · have := ready_mono hj hji
      rw [H.1] at this
      cases this
  | succ f ih =>
    intro listed a w hfree hr hs hy h0 h1 H
    refine ⟨fun h => (by rw [h] at hr; cases hr), fun j hj => ?_⟩
    by_cases hji : j = i
    · subst hji; exact hy.wpOp hi (getT listed w hs h0 h1) ⟨⟨h0, fun h => h1 (by rw [← setE]; exact h)⟩, H⟩
    · have hun := (mem_ready.1 hj).1
      obtain ⟨oj, hoj, hall⟩ := (mem_ready.1 hj).2
      have h2 := wpOp_putIf hoj (hfree j oj hoj hji hun (not_listed hr hall)) (fun cs b => hsel i oi cs b hi) (fun cs b => hsel j oj cs b hoj) hQ hy (H.2 j (ready_mono hj hji))
      have hs' : waits md ops stop i = true → (listed.setIfInBounds j true).getD stop false = false := fun hw => by
        rw [getD_set_ne false (ne_stop hw hr hj)]; exact hs hw
      refine wpOp_mono (fun a' w' h3 => ?_) h2
      obtain ⟨hy', ⟨hS0, hS1⟩, hU'⟩ := h3
      rw [Array.setIfInBounds_comm _ _ (Ne.symm hji)] at hS1 hU'
      rw [setE] at hS1
      refine ⟨⟨hS0, hS1⟩, ih (listed.setIfInBounds j true) a' w' (fun k ok hk hki hku hno => ?_) (ready_mono hr (Ne.symm hji)) hs' hy' hS0 hS1 hU'⟩
      refine hfree k ok hk hki ?_ hno
      by_cases hjk : j = k
      · subst hjk; exact hun
      · rw [getD_set_ne true hjk] at hku; exact hku

/-- A pure operation. -/
theorem wpU_pure {i : Nat} {oi : Oper} {v : Value} {f : Nat} {listed : Array Bool} {a : Act} {w : World} (hi : ops[i]? = some oi)
    (hs : Region.noSelect ops = true) (hf : Region.free md ops listed i = true) (hr : (Region.ready md ops listed).contains i = true) (his : (i != stop) = true) (hl : (!waits md ops stop i || !listed.getD stop false) = true)
    (hQ : ∀ c a w, Q (.panic c) (a.put oi.dst v) w → Q (.panic c) a w) (h0 : S0 w) (h1 : listed.getD stop false = false → S1 w)
    (hw : Region.wanted oi (yielded ops a.tmps) = true) (hy : ∀ w, (execOp a.eval oi).run P w = .ok (.value v) w)
    (h : wpU P md ops Q S0 S1 stop f (listed.setIfInBounds i true) (a.put oi.dst v) w) : wpU P md ops Q S0 S1 stop (f + 1) listed a w :=
  wpU_first (T := fun _ => True) hi (Region.noSelect_spec hs) hQ (by simpa using his) (Or.inl fun _ _ => trivial) f listed a w (Region.free_spec hi hf) (by simpa using hr) (fun hw => by simpa [hw] using hl) (Or.inl ⟨hw, fun w _ => hy w⟩) h0 h1 h
/-- A load that leans on S0. -/
theorem wpU_load0 {i : Nat} {oi : Oper} {v : Value} {f : Nat} {listed : Array Bool} {a : Act} {w : World} (hi : ops[i]? = some oi)
    (hs : Region.noSelect ops = true) (hf : Region.free md ops listed i = true) (hr : (Region.ready md ops listed).contains i = true) (his : (i != stop) = true) (hl : (!waits md ops stop i || !listed.getD stop false) = true)
    (hQ : ∀ c a w, Q (.panic c) (a.put oi.dst v) w → Q (.panic c) a w) (h0 : S0 w) (h1 : listed.getD stop false = false → S1 w)
    (hw : Region.wanted oi (yielded ops a.tmps) = true) (hy : ∀ w, S0 w → (execOp a.eval oi).run P w = .ok (.value v) w)
    (h : wpU P md ops Q S0 S1 stop f (listed.setIfInBounds i true) (a.put oi.dst v) w) : wpU P md ops Q S0 S1 stop (f + 1) listed a w :=
  wpU_first (T := S0) hi (Region.noSelect_spec hs) hQ (by simpa using his) (Or.inl fun _ h => h) f listed a w (Region.free_spec hi hf) (by simpa using hr) (fun hw => by simpa [hw] using hl) (Or.inl ⟨hw, hy⟩) h0 h1 h
/-- A load that leans on S1. -/
theorem wpU_load1 {i : Nat} {oi : Oper} {v : Value} {f : Nat} {listed : Array Bool} {a : Act} {w : World} (hi : ops[i]? = some oi)
    (hs : Region.noSelect ops = true) (hf : Region.free md ops listed i = true) (hr : (Region.ready md ops listed).contains i = true) (his : (i != stop) = true) (hwt : waits md ops stop i = true) (hl : listed.getD stop false = false)
    (hQ : ∀ c a w, Q (.panic c) (a.put oi.dst v) w → Q (.panic c) a w) (h0 : S0 w) (h1 : S1 w)
    (hw : Region.wanted oi (yielded ops a.tmps) = true) (hy : ∀ w, S1 w → (execOp a.eval oi).run P w = .ok (.value v) w)
    (h : wpU P md ops Q S0 S1 stop f (listed.setIfInBounds i true) (a.put oi.dst v) w) : wpU P md ops Q S0 S1 stop (f + 1) listed a w :=
  wpU_first (T := S1) hi (Region.noSelect_spec hs) hQ (by simpa using his) (Or.inr ⟨hwt, fun _ _ h => h⟩) f listed a w (Region.free_spec hi hf) (by simpa using hr) (fun _ => hl) (Or.inl ⟨hw, hy⟩) h0 (fun _ => h1) h

def AllU (P : Program) (md : Region.Mode) (ops : Array Oper) (Q : Exit → Act → World → Prop) (S0 S1 : World → Prop) (stop f : Nat) (listed : Array Bool) (a : Act) (w : World) (rs : List Nat) : Prop :=
  ∀ i ∈ rs, wpOp P ops Q i (fun a' w' => (S0 w' ∧ ((listed.setIfInBounds i true).getD stop false = false → S1 w')) ∧ wpU P md ops Q S0 S1 stop f (listed.setIfInBounds i true) a' w') a w
theorem AllU.nil {f : Nat} {listed : Array Bool} {a : Act} {w : World} : AllU P md ops Q S0 S1 stop f listed a w [] := fun _ h => by cases h
theorem AllU.cons {f : Nat} {listed : Array Bool} {a : Act} {w : World} {i : Nat} {o : Oper} {rs : List Nat} (ho : ops[i]? = some o)
    (h : ∀ K : Act → World → Prop, Hid (∀ a' w', S0 w' → ((listed.setIfInBounds i true).getD stop false = false → S1 w') → wpU P md ops Q S0 S1 stop f (listed.setIfInBounds i true) a' w' → K a' w') → if Region.wanted o (yielded ops a.tmps) = true then Oper.wp P o a w K Q else K (a.put o.dst undef) w)
    (hs : AllU P md ops Q S0 S1 stop f listed a w rs) : AllU P md ops Q S0 S1 stop f listed a w (i :: rs) := fun j hj => by
  rcases List.mem_cons.1 hj with rfl | hj
  · have := h (fun a' w' => (S0 w' ∧ ((listed.setIfInBounds j true).getD stop false = false → S1 w')) ∧ wpU P md ops Q S0 S1 stop f (listed.setIfInBounds j true) a' w') (fun a' w' h0 h1 hU => ⟨⟨h0, h1⟩, hU⟩)
    unfold wpOp
    simp only [ho]
    split at this
    · next hw => rw [if_pos hw]; exact Or.inl this
    · next hw => rw [if_neg hw]; exact this
  · exact hs j hj
theorem wpU_ready {rs : List Nat} {f : Nat} {listed : Array Bool} {a : Act} {w : World} (hr : Region.ready md ops listed = rs) (hne : rs ≠ [])
    (h : AllU P md ops Q S0 S1 stop f listed a w rs) : wpU P md ops Q S0 S1 stop (f + 1) listed a w := ⟨fun h0 => absurd (hr ▸ h0) hne, hr ▸ h⟩
theorem wpU_done {listed : Array Bool} {a : Act} {w : World} (hr : Region.ready md ops listed = []) (h : Q .normal a w) : ∀ f, wpU P md ops Q S0 S1 stop f listed a w
  | 0 => ⟨hr, h⟩
  | _ + 1 => ⟨fun _ => h, by rw [hr]; simp⟩
theorem wp_region_U (S0 S1 : World → Prop) (stop : Nat) {id : Nat} {a : Act} {w : World} (hm : P.follows .mixedOrders = true)
    (h : wpU P .any ops Q S0 S1 stop ops.size (Array.replicate ops.size false) a w.drew) : (Code.region id ops true).wp P Q a w :=
  wp_region_any hm (wpAny_of_U _ _ _ _ h)
end
end Go.Until
