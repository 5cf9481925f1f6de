import Derived.Test.YtbcfkajcmbckbaaGreatDoorAQ
import Derived.Orders
/-! A region that draws its order, by an invariant over what is done: one step an operation, whatever the order. -/
namespace Go.Proofs.YtbcfkajcmbckbaaGreatDoor
open Go Go.RowKit
section
variable {P : Program} {ops : Array Oper} {Q : Exit → Act → World → Prop} {md : Region.Mode}

theorem mem_ready {listed : Array Bool} {i : Nat} (h : i ∈ Region.ready md ops listed) : ∃ o, ops[i]? = some o ∧ listed.getD i true = false ∧ ∀ e ∈ o.after.toList, Region.binds md e = true → listed.getD e.on false = true := by
  unfold Region.ready at h
  rw [List.mem_filter] at h
  obtain ⟨hi, h⟩ := h
  rw [Bool.and_eq_true] at h
  obtain ⟨h1, h2⟩ := h
  have hlt : i < ops.size := List.mem_range.1 hi
  have ho : ops[i]? = some ops[i] := Array.getElem?_eq_getElem hlt
  rw [ho] at h2
  refine ⟨ops[i], ho, by simpa using h1, fun e he hb => ?_⟩
  simp only [Option.map_some, Option.getD_some] at h2
  rw [Array.all_eq_true_iff_forall_mem] at h2
  have := h2 e (by simpa using he)
  rw [hb] at this
  simpa using this
theorem ready_nil {listed : Array Bool} (hs : listed.size = ops.size) (hac : ∀ (i : Nat) (o : Oper), ops[i]? = some o → ∀ e ∈ o.after.toList, Region.binds md e = true → e.on < i) (h : Region.ready md ops listed = []) : ∀ i, i < ops.size → listed.getD i false = true := by
  intro i
  induction i using Nat.strongRecOn with
  | ind i ih =>
    intro hi
    cases hd : listed.getD i false with
    | true => rfl
    | false =>
      exfalso
      have hm : i ∈ Region.ready md ops listed := by
        unfold Region.ready
        rw [List.mem_filter]
        refine ⟨List.mem_range.2 hi, ?_⟩
        have ho : ops[i]? = some ops[i] := Array.getElem?_eq_getElem hi
        have hl : listed.getD i true = false := by
          have hls : i < listed.size := by omega
          simp only [Array.getD, hls, dif_pos] at hd ⊢
          exact hd
        rw [ho, hl]
        simp only [Bool.not_false, Bool.true_and, Option.map_some, Option.getD_some]
        rw [Array.all_eq_true_iff_forall_mem]
        intro e he
        by_cases hb : Region.binds md e = true
        · have := ih e.on (hac i _ ho e (by simpa using he) hb) (by have := hac i _ ho e (by simpa using he) hb; omega)
          rw [this, Bool.or_true]
        · rw [Bool.not_eq_true] at hb
          rw [hb]; rfl
      rw [h] at hm
      cases hm
def undone (l : Array Bool) : Nat := l.toList.countP fun b => !b
theorem undone_zero {l : Array Bool} (h : undone l = 0) : ∀ i, i < l.size → l.getD i false = true := fun i hi => by
  unfold undone at h
  rw [List.countP_eq_zero] at h
  have := h l[i] (by simp)
  simp only [Array.getD, hi, dif_pos]
  simpa using this
theorem undone_set {l : Array Bool} {i : Nat} (h : l.getD i true = false) : undone (l.setIfInBounds i true) + 1 = undone l := by
  have hi : i < l.size := by
    rcases Nat.lt_or_ge i l.size with h' | h'
    · exact h'
    · simp [Array.getD, Nat.not_lt.2 h'] at h
  have hv : l[i] = false := by simpa [Array.getD, hi] using h
  unfold undone
  rw [Array.toList_setIfInBounds]
  have hl : i < l.toList.length := by simpa using hi
  have e1 : l.toList = l.toList.take i ++ false :: l.toList.drop (i + 1) := by
    have := List.take_append_drop i l.toList
    rw [List.drop_eq_getElem_cons hl] at this
    rw [show l.toList[i] = false by simpa using hv] at this
    exact this.symm
  have e2 : l.toList.set i true = l.toList.take i ++ true :: l.toList.drop (i + 1) := by
    rw [List.set_eq_take_append_cons_drop, if_pos hl]
  rw [e2]
  conv => rhs; rw [e1]
  simp [List.countP_append]
  omega
theorem wpAny_inv (hac : ∀ (i : Nat) (o : Oper), ops[i]? = some o → ∀ e ∈ o.after.toList, Region.binds md e = true → e.on < i) (I : (Nat → Bool) → Act → World → Prop)
    (step : ∀ (i : Nat) (o : Oper), ops[i]? = some o → ∀ (d : Nat → Bool) (a : Act) (w : World), d i = false → (∀ e ∈ o.after.toList, Region.binds md e = true → d e.on = true) → I d a w → wpOp P ops Q i (I (fun j => d j || j == i)) a w)
    (fin : ∀ (d : Nat → Bool) (a : Act) (w : World), (∀ i, i < ops.size → d i = true) → I d a w → Q .normal a w) :
    ∀ (fuel : Nat) (listed : Array Bool) (a : Act) (w : World), listed.size = ops.size → undone listed ≤ fuel → I (fun j => listed.getD j false) a w → wpAny P md ops Q fuel listed a w := by
  intro fuel
  induction fuel with
  | zero =>
    intro listed a w hs hf hI
    have hall := undone_zero (l := listed) (by omega)
    refine ⟨?_, fin _ a w (fun i hi => hall i (by omega)) hI⟩
    cases hr : Region.ready md ops listed with
    | nil => rfl
    | cons i is =>
      have hm : i ∈ Region.ready md ops listed := by rw [hr]; simp
      obtain ⟨o, ho, h1, -⟩ := mem_ready hm
      have hi : i < listed.size := by rw [hs]; exact (Array.getElem?_eq_some_iff.1 ho).1
      have := hall i hi
      simp only [Array.getD, hi, dif_pos] at this h1
      rw [h1] at this
      cases this
  | succ fuel ih =>
    intro listed a w hs hf hI
    refine ⟨fun hr => fin _ a w (ready_nil hs hac hr) hI, fun i hi => ?_⟩
    obtain ⟨o, ho, h1, h2⟩ := mem_ready hi
    have hil : i < listed.size := by rw [hs]; exact (Array.getElem?_eq_some_iff.1 ho).1
    have hd : listed.getD i false = false := by
      simp only [Array.getD, hil, dif_pos] at h1 ⊢
      exact h1
    refine wpOp_mono (fun a' w' hI' => ih _ a' w' (by simpa using hs) (by have := undone_set h1; omega) ?_) (step i o ho _ a w hd h2 hI)
    have e : (fun j => (listed.setIfInBounds i true).getD j false) = fun j => listed.getD j false || j == i := by
      funext j
      by_cases hj : j < listed.size
      · by_cases e : i = j
        · subst e
          simp [Array.getD, hj]
        · simp [Array.getD, hj, e, Ne.symm e]
      · have : i ≠ j := by omega
        simp [Array.getD, hj, Ne.symm this]
    rw [e]
    exact hI'
theorem wp_region_inv {id : Nat} {a : Act} {w : World} (hm : P.follows .mixedOrders = true) (hac : ∀ (i : Nat) (o : Oper), ops[i]? = some o → ∀ e ∈ o.after.toList, Region.binds .any e = true → e.on < i) (I : (Nat → Bool) → Act → World → Prop) (start : I (fun _ => false) a w.drew)
    (step : ∀ (i : Nat) (o : Oper), ops[i]? = some o → ∀ (d : Nat → Bool) (a : Act) (w : World), d i = false → (∀ e ∈ o.after.toList, Region.binds .any e = true → d e.on = true) → I d a w → wpOp P ops Q i (I (fun j => d j || j == i)) a w)
    (fin : ∀ (d : Nat → Bool) (a : Act) (w : World), (∀ i, i < ops.size → d i = true) → I d a w → Q .normal a w) : (Code.region id ops true).wp P Q a w := by
  refine wp_region_any hm (wpAny_inv hac I step fin ops.size _ a _ (by simp) ?_ ?_)
  · unfold undone
    exact Nat.le_trans (List.countP_le_length) (by simp)
  · have e : (fun j => (Array.replicate ops.size false).getD j false) = fun _ => false := by
      funext j
      simp only [Array.getD]
      split <;> simp
    rw [e]
    exact start
end
/-- A frame that is another's but for some slots. -/
structure Sl (a0 a : Act) (ts : List Nat) : Prop where
  df : a.defers = a0.defers
  sz : a.tmps.size = a0.tmps.size
  eq : ∀ t, t ∉ ts → a.tmps[t]? = a0.tmps[t]?
theorem Sl.refl (a : Act) (ts : List Nat) : Sl a a ts := ⟨rfl, rfl, fun _ _ => rfl⟩
theorem Sl.put {a0 a : Act} {ts : List Nat} (h : Sl a0 a ts) {t : Nat} (ht : t ∈ ts) (v : Value) : Sl a0 (a.put (some t) v) ts :=
  ⟨h.df, by simpa [Act.put] using h.sz, fun j hj => by
    have : t ≠ j := fun e => hj (e ▸ ht)
    simp only [Act.put]
    rw [Array.getElem?_setIfInBounds_ne this]
    exact h.eq j hj⟩
theorem eval_of {a : Act} {t : Nat} {v : Value} (h : a.tmps[t]? = some v) : a.eval (.tmp t) = v := by
  simp [Act.eval, Array.getD_eq_getD_getElem?, h]
theorem put_same {a : Act} {t : Nat} (h : t < a.tmps.size) (v : Value) : (a.put (some t) v).tmps[t]? = some v := by
  simp [Act.put, h]
theorem put_other {a : Act} {t j : Nat} (h : t ≠ j) (v : Value) : (a.put (some t) v).tmps[j]? = a.tmps[j]? := by
  simp only [Act.put]
  exact Array.getElem?_setIfInBounds_ne h
theorem sl_put {a0 a : Act} {t : Nat} {ts : List Nat} (h : Sl a0 a (t :: ts)) (ht : t < a0.tmps.size) : ∃ v, a.tmps[t]? = some v ∧ Sl (a0.put (some t) v) a ts := by
  have hs : t < a.tmps.size := by rw [h.sz]; exact ht
  refine ⟨a.tmps[t], Array.getElem?_eq_getElem hs, ?_, ?_, fun j hj => ?_⟩
  · exact h.df
  · rw [h.sz]; simp [Act.put]
  · by_cases e : j = t
    · subst e
      rw [put_same ht, Array.getElem?_eq_getElem hs]
    · rw [put_other (fun e' => e e'.symm)]
      exact h.eq j (by simp [e, hj])
theorem sl_nil {a0 a : Act} (h : Sl a0 a []) : a = a0 := by
  have h1 : a.tmps = a0.tmps := Array.ext_getElem? (fun t => h.eq t (by simp))
  have h2 := h.df
  cases a
  cases a0
  simp only at h1 h2
  rw [h1, h2]
def updT (tag : Nat → Nat) (n k : Nat) : Nat → Nat := fun b => if b = n then k else tag b
theorem updT_lt {tag : Nat → Nat} {n k : Nat} : ∀ b, b < n → updT tag n k b = tag b := fun b hb => by unfold updT; rw [if_neg (by omega)]
theorem updT_new (tag : Nat → Nat) (n k : Nat) : updT tag n k n = k := by unfold updT; rw [if_pos rfl]
/-- A block made since, of a sort. -/
def OwnB (lo : Nat) (tag : Nat → Nat) (w : World) (k b : Nat) : Prop := lo ≤ b ∧ b < w.heap.size ∧ tag b = k
theorem OwnB.next {lo : Nat} {tag tag' : Nat → Nat} {w w' : World} {k b : Nat} (h : OwnB lo tag w k b) (hs : w.heap.size ≤ w'.heap.size) (ht : ∀ b, b < w.heap.size → tag' b = tag b) : OwnB lo tag' w' k b :=
  ⟨h.1, Nat.lt_of_lt_of_le h.2.1 hs, (ht b h.2.1).trans h.2.2⟩
theorem OwnB.kept {lo : Nat} {tag : Nat → Nat} {w w' : World} {k k' b : Nat} (h : OwnB lo tag w k' b) (hF : Fr (fun b => tag b = k ∧ lo ≤ b) w w') (hk : k ≠ k') : w'.heap[b]? = w.heap[b]? :=
  hF.block b h.2.1 (fun e => hk (e.1.symm.trans h.2.2))
/-- What is done of a region: each thing that was done says something, till another thing does away with it. -/
structure GI (W : World) (a0 : Act) (ts : List Nat) (F : (Nat → Nat) → Nat → (Nat → Option Value) → World → Prop) (dead pre : Nat → List Nat) (tag : Nat → Nat) (d : Nat → Bool) (a : Act) (w : World) : Prop where
  sl : Sl a0 a ts
  bel : Below W.heap.size W w
  pre : ∀ j, d j = true → ∀ m ∈ pre j, d m = true
  f : ∀ j, d j = true → (∀ m ∈ dead j, d m = false) → F tag j (fun t => a.tmps[t]?) w
def GIx (W : World) (a0 : Act) (ts : List Nat) (F : (Nat → Nat) → Nat → (Nat → Option Value) → World → Prop) (dead pre : Nat → List Nat) (d : Nat → Bool) (a : Act) (w : World) : Prop := ∃ tag, GI W a0 ts F dead pre tag d a w
theorem GI.next {W : World} {a0 : Act} {ts : List Nat} {F : (Nat → Nat) → Nat → (Nat → Option Value) → World → Prop} {dead pre : Nat → List Nat} {tag tag' : Nat → Nat} {d : Nat → Bool} {a a' : Act} {w w' : World} (h : GI W a0 ts F dead pre tag d a w) (i k : Nat) (hF : Fr (fun b => tag b = k ∧ W.heap.size ≤ b) w w') (hsl : Sl a0 a' ts)
    (hkeep : ∀ j, j ≠ i → d j = true → (∀ m ∈ pre j, d m = true) → (∀ m ∈ dead j, m ≠ i) → F tag j (fun t => a.tmps[t]?) w → F tag' j (fun t => a'.tmps[t]?) w')
    (hpre : ∀ m ∈ pre i, d m = true) (hnew : F tag' i (fun t => a'.tmps[t]?) w') : GIx W a0 ts F dead pre (fun j => d j || j == i) a' w' := by
  refine ⟨tag', hsl, h.bel.trans (hF.below h.bel.size (fun b hb => hb.2)), fun j hj m hm => ?_, fun j hj hd => ?_⟩
  · by_cases e : j = i
    · subst e
      simp [hpre m hm]
    · have : d j = true := by simpa [e] using hj
      simp [h.pre j this m hm]
  · by_cases e : j = i
    · subst e
      exact hnew
    · have hj' : d j = true := by simpa [e] using hj
      have q : ∀ m ∈ dead j, d m = false ∧ m ≠ i := fun m hm => by
        have := hd m hm
        rw [Bool.or_eq_false_iff] at this
        exact ⟨this.1, fun e' => by rw [e'] at this; simp at this⟩
      exact hkeep j e hj' (h.pre j hj') (fun m hm => (q m hm).2) (h.f j hj' (fun m hm => (q m hm).1))
end Go.Proofs.YtbcfkajcmbckbaaGreatDoor
