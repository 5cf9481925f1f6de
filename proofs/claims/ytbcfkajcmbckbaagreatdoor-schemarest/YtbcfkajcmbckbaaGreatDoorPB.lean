import Derived.Test.YtbcfkajcmbckbaaGreatDoorPA
import Derived.Test.YtbcfkajcmbckbaaGreatDoorPD
/-! SchemaRest's region that makes the greater object: four appends, in whatever order. -/
namespace Go.Proofs.YtbcfkajcmbckbaaGreatDoor
open Go Go.RowKit

/-- What the region is about. -/
structure RC where
  a0 : Act
  W : World
  vb : Nat
  xb : Nat
  an : Option Addr
  ln : Nat
  cn : Nat
  ai : Option Addr
  li : Nat
  ci : Nat
  ns : List ByteArray
  vs : List V5
  s : ByteArray
  x : V5
structure RCok (C : RC) : Prop where
  sz : 105 ≤ C.a0.tmps.size
  t4 : C.a0.tmps[4]? = some (.pointer (some ⟨C.vb, 0, none⟩))
  t5 : C.a0.tmps[5]? = some (.string C.s)
  t6 : C.a0.tmps[6]? = some (.pointer (some ⟨C.xb, 0, none⟩))
  v3 : C.W.cell? ⟨C.vb, 3, none⟩ = some (.slice C.an C.ln C.cn)
  v4 : C.W.cell? ⟨C.vb, 4, none⟩ = some (.slice C.ai C.li C.ci)
  x0 : C.W.cell? ⟨C.xb, 0, none⟩ = some (.int .i64 C.x.k)
  x1 : C.W.cell? ⟨C.xb, 1, none⟩ = some (.int .i64 C.x.x)
  x2 : C.W.cell? ⟨C.xb, 2, none⟩ = some (.string C.x.s)
  x3 : C.W.cell? ⟨C.xb, 3, none⟩ = some (.slice C.x.an C.x.ln C.x.cn)
  x4 : C.W.cell? ⟨C.xb, 4, none⟩ = some (.slice C.x.ai C.x.li C.x.ci)
  nl : C.ns.length = C.ln
  vl : C.vs.length = C.li
  nb : C.ln ≤ 1759218604390
  ib : C.li ≤ 1759218604390
  nsrc : C.ns = [] ∨ ∃ b o, C.an = some ⟨b, o, none⟩ ∧ ∀ j s, C.ns[j]? = some s → C.W.cell? ⟨b, o + j, none⟩ = some (.string s)
  vsrc : C.vs = [] ∨ ∃ b o, C.ai = some ⟨b, o, none⟩ ∧ ∀ j u, (flatV C.vs)[j]? = some u → C.W.cell? ⟨b, o + j, none⟩ = some u
/-- A block made since, of a sort. -/
def Own (C : RC) (tag : Nat → Nat) (w : World) (k b : Nat) : Prop := C.W.heap.size ≤ b ∧ b < w.heap.size ∧ tag b = k
abbrev restTs : List Nat := [90, 91, 92, 93, 94, 95, 96, 97, 98, 99, 100, 101, 102, 103, 104, 12]
/-- The slot of an operation. -/
def slotOf (j : Nat) : Nat := if j = 15 then 12 else 90 + j
/-- What holds of a thing that was done. -/
def Fld (C : RC) (tag : Nat → Nat) (j : Nat) (T : Nat → Option Value) (w : World) : Prop :=
  match j with
  | 0 => ∃ b, T 90 = some (.slice (some ⟨b, 0, none⟩) 0 0) ∧ Own C tag w 1 b
  | 1 => T 91 = some (.pointer (some ⟨C.vb, 3, none⟩))
  | 2 => T 92 = some (.slice C.an C.ln C.cn)
  | 3 => ∃ na c, T 93 = some (.slice na C.ln c) ∧ Rw w C.W.heap.size 1 na C.ln c (strs C.ns) ∧ ∀ b, blkOf na b → Own C tag w 1 b
  | 4 => T 94 = some (.string C.s)
  | 5 => ∃ b, T 95 = some (.slice (some ⟨b, 0, none⟩) 1 1) ∧ w.heap[b]? = some (.cells #[.string C.s] 9 (0, 0)) ∧ Own C tag w 3 b
  | 6 => ∃ na c, T 96 = some (.slice na (C.ln + 1) c) ∧ Rw w C.W.heap.size 1 na (C.ln + 1) c (strs (C.ns ++ [C.s])) ∧ ∀ b, blkOf na b → Own C tag w 1 b
  | 7 => ∃ b, T 97 = some (.slice (some ⟨b, 0, none⟩) 0 0) ∧ Own C tag w 2 b
  | 8 => T 98 = some (.pointer (some ⟨C.vb, 4, none⟩))
  | 9 => T 99 = some (.slice C.ai C.li C.ci)
  | 10 => ∃ ia c, T 100 = some (.slice ia C.li c) ∧ Rw w C.W.heap.size 5 ia C.li c (flatV C.vs) ∧ ∀ b, blkOf ia b → Own C tag w 2 b
  | 11 => T 101 = some C.x.v
  | 12 => ∃ b, T 102 = some (.slice (some ⟨b, 0, none⟩) 1 1) ∧ w.heap[b]? = some (C.x.obj 25) ∧ Own C tag w 4 b
  | 13 => ∃ ia c, T 103 = some (.slice ia (C.li + 1) c) ∧ Rw w C.W.heap.size 5 ia (C.li + 1) c (flatV (C.vs ++ [C.x])) ∧ ∀ b, blkOf ia b → Own C tag w 2 b
  | 14 => ∃ na nc ia ic, T 96 = some (.slice na (C.ln + 1) nc) ∧ T 103 = some (.slice ia (C.li + 1) ic) ∧ T 104 = some (.agg #[.int .i64 6, .int .i64 0, .string ⟨#[]⟩, .slice na (C.ln + 1) nc, .slice ia (C.li + 1) ic])
  | 15 => ∃ b, T 12 = some (.pointer (some ⟨b, 0, none⟩)) ∧ w.heap[b]? = some (.cells #[.int .i64 0, .int .i64 0, .string ⟨#[]⟩, .slice none 0 0, .slice none 0 0] 25 (0, 0)) ∧ Own C tag w 5 b
  | 16 => ∃ b na nc ia ic, T 96 = some (.slice na (C.ln + 1) nc) ∧ T 103 = some (.slice ia (C.li + 1) ic) ∧ T 12 = some (.pointer (some ⟨b, 0, none⟩)) ∧ w.heap[b]? = some (.cells #[.int .i64 6, .int .i64 0, .string ⟨#[]⟩, .slice na (C.ln + 1) nc, .slice ia (C.li + 1) ic] 25 (0, 0)) ∧ Own C tag w 5 b
  | _ => True
/-- The sort of the blocks that it speaks of. -/
def sortOf (j : Nat) : Nat := if j = 3 ∨ j = 6 then 1 else if j = 5 then 3 else if j = 10 ∨ j = 13 then 2 else if j = 12 then 4 else if j = 15 ∨ j = 16 then 5 else 0
theorem rsort_one {j : Nat} (h : 1 = sortOf j) : j = 3 ∨ j = 6 := by
  by_cases c : j = 3 ∨ j = 6
  · exact c
  · unfold sortOf at h
    rw [if_neg c] at h
    exfalso
    revert h
    (repeat' split) <;> omega
theorem rsort_two {j : Nat} (h : 2 = sortOf j) : j = 10 ∨ j = 13 := by
  by_cases c : j = 10 ∨ j = 13
  · exact c
  · unfold sortOf at h
    rw [if_neg c] at h
    exfalso
    revert h
    (repeat' split) <;> omega
theorem rsort_five {j : Nat} (h : 5 = sortOf j) : j = 15 ∨ j = 16 := by
  by_cases c : j = 15 ∨ j = 16
  · exact c
  · unfold sortOf at h
    rw [if_neg c] at h
    exfalso
    revert h
    (repeat' split) <;> omega
theorem Own.next {C : RC} {tag tag' : Nat → Nat} {w w' : World} {k b : Nat} (h : Own C tag w k b) (hs : w.heap.size ≤ w'.heap.size) (ht : ∀ b, b < w.heap.size → tag' b = tag b) : Own C tag' w' k b :=
  ⟨h.1, Nat.lt_of_lt_of_le h.2.1 hs, (ht b h.2.1).trans h.2.2⟩
theorem Own.kept {C : RC} {tag : Nat → Nat} {w w' : World} {k k' b : Nat} (h : Own C tag w k' b) (hF : Fr (fun b => tag b = k ∧ C.W.heap.size ≤ b) w w') (hk : k ≠ k') : w'.heap[b]? = w.heap[b]? :=
  hF.block b h.2.1 (fun e => hk (e.1.symm.trans h.2.2))
theorem Fld.keep {C : RC} {tag tag' : Nat → Nat} {w w' : World} {k : Nat} (hF : Fr (fun b => tag b = k ∧ C.W.heap.size ≤ b) w w') (ht : ∀ b, b < w.heap.size → tag' b = tag b) {T T' : Nat → Option Value} (j : Nat) (hk : k = 0 ∨ k ≠ sortOf j) (hT : j ≠ 14 → j ≠ 16 → T' (slotOf j) = T (slotOf j)) (hT2 : j = 14 → T' 96 = T 96 ∧ T' 103 = T 103 ∧ T' 104 = T 104) (hT3 : j = 16 → T' 96 = T 96 ∧ T' 103 = T 103 ∧ T' 12 = T 12) (h : Fld C tag j T w) : Fld C tag' j T' w' := by
  have hs := hF.size
  rcases j with _ | _ | _ | _ | _ | _ | _ | _ | _ | _ | _ | _ | _ | _ | _ | _ | _ | j
  · have e : T' 90 = T 90 := hT (by decide) (by decide)
    obtain ⟨b, h1, h2⟩ := h
    exact ⟨b, e.trans h1, h2.next hs ht⟩
  · have e : T' 91 = T 91 := hT (by decide) (by decide)
    exact e.trans h
  · have e : T' 92 = T 92 := hT (by decide) (by decide)
    exact e.trans h
  · have e : T' 93 = T 93 := hT (by decide) (by decide)
    have hk' : k ≠ 1 := by have h' : k = 0 ∨ k ≠ 1 := hk; omega
    obtain ⟨na, c, h1, h2, h3⟩ := h
    exact ⟨na, c, e.trans h1, h2.keep hs (fun b hb _ => (h3 b hb).kept hF hk'), fun b hb => (h3 b hb).next hs ht⟩
  · have e : T' 94 = T 94 := hT (by decide) (by decide)
    exact e.trans h
  · have e : T' 95 = T 95 := hT (by decide) (by decide)
    have hk' : k ≠ 3 := by have h' : k = 0 ∨ k ≠ 3 := hk; omega
    obtain ⟨b, h1, h2, h3⟩ := h
    exact ⟨b, e.trans h1, (h3.kept hF hk').trans h2, h3.next hs ht⟩
  · have e : T' 96 = T 96 := hT (by decide) (by decide)
    have hk' : k ≠ 1 := by have h' : k = 0 ∨ k ≠ 1 := hk; omega
    obtain ⟨na, c, h1, h2, h3⟩ := h
    exact ⟨na, c, e.trans h1, h2.keep hs (fun b hb _ => (h3 b hb).kept hF hk'), fun b hb => (h3 b hb).next hs ht⟩
  · have e : T' 97 = T 97 := hT (by decide) (by decide)
    obtain ⟨b, h1, h2⟩ := h
    exact ⟨b, e.trans h1, h2.next hs ht⟩
  · have e : T' 98 = T 98 := hT (by decide) (by decide)
    exact e.trans h
  · have e : T' 99 = T 99 := hT (by decide) (by decide)
    exact e.trans h
  · have e : T' 100 = T 100 := hT (by decide) (by decide)
    have hk' : k ≠ 2 := by have h' : k = 0 ∨ k ≠ 2 := hk; omega
    obtain ⟨na, c, h1, h2, h3⟩ := h
    exact ⟨na, c, e.trans h1, h2.keep hs (fun b hb _ => (h3 b hb).kept hF hk'), fun b hb => (h3 b hb).next hs ht⟩
  · have e : T' 101 = T 101 := hT (by decide) (by decide)
    exact e.trans h
  · have e : T' 102 = T 102 := hT (by decide) (by decide)
    have hk' : k ≠ 4 := by have h' : k = 0 ∨ k ≠ 4 := hk; omega
    obtain ⟨b, h1, h2, h3⟩ := h
    exact ⟨b, e.trans h1, (h3.kept hF hk').trans h2, h3.next hs ht⟩
  · have e : T' 103 = T 103 := hT (by decide) (by decide)
    have hk' : k ≠ 2 := by have h' : k = 0 ∨ k ≠ 2 := hk; omega
    obtain ⟨na, c, h1, h2, h3⟩ := h
    exact ⟨na, c, e.trans h1, h2.keep hs (fun b hb _ => (h3 b hb).kept hF hk'), fun b hb => (h3 b hb).next hs ht⟩
  · obtain ⟨e1, e2, e3⟩ := hT2 rfl
    obtain ⟨na, nc, ia, ic, h1, h2, h3⟩ := h
    exact ⟨na, nc, ia, ic, e1.trans h1, e2.trans h2, e3.trans h3⟩
  · have e : T' 12 = T 12 := hT (by decide) (by decide)
    have hk' : k ≠ 5 := by have h' : k = 0 ∨ k ≠ 5 := hk; omega
    obtain ⟨b, h1, h2, h3⟩ := h
    exact ⟨b, e.trans h1, (h3.kept hF hk').trans h2, h3.next hs ht⟩
  · have hk' : k ≠ 5 := by have h' : k = 0 ∨ k ≠ 5 := hk; omega
    obtain ⟨e1, e2, e3⟩ := hT3 rfl
    obtain ⟨b, na, nc, ia, ic, h1, h2, h3, h4, h5⟩ := h
    exact ⟨b, na, nc, ia, ic, e1.trans h1, e2.trans h2, e3.trans h3, (h5.kept hF hk').trans h4, h5.next hs ht⟩
  · trivial
structure RI (C : RC) (tag : Nat → Nat) (d : Nat → Bool) (a : Act) (w : World) : Prop where
  sl : Sl C.a0 a restTs
  bel : Below C.W.heap.size C.W w
  g14 : d 14 = true → d 6 = true ∧ d 13 = true
  g16 : d 16 = true → d 6 = true ∧ d 13 = true ∧ d 15 = true
  f : ∀ j, d j = true → (j = 3 ∨ j = 5 → d 6 = false) → (j = 10 ∨ j = 12 → d 13 = false) → (j = 15 → d 16 = false) → Fld C tag j (fun t => a.tmps[t]?) w
def RestI (C : RC) (d : Nat → Bool) (a : Act) (w : World) : Prop := ∃ tag, RI C tag d a w
theorem or_self' (d : Nat → Bool) (i : Nat) : (d i || i == i) = true := by simp
theorem or_ne {d : Nat → Bool} {i j : Nat} (h : j ≠ i) : (d j || j == i) = d j := by simp [h]
theorem or_true' {d : Nat → Bool} {i j : Nat} (h : d j = true) : (d j || j == i) = true := by simp [h]
theorem slot_ne {i j : Nat} (h : j ≠ i) (hj : j < 17) (hi : i < 17) : slotOf i ≠ slotOf j := by
  unfold slotOf
  split <;> split <;> omega
/-- One thing more is done. -/
theorem RI.next {C : RC} {tag tag' : Nat → Nat} {d : Nat → Bool} {a a' : Act} {w w' : World} (h : RI C tag d a w) (i k : Nat) (hd : d i = false) (hF : Fr (fun b => tag b = k ∧ C.W.heap.size ≤ b) w w') (ht : ∀ b, b < w.heap.size → tag' b = tag b)
    (hk : k = 0 ∨ (k = 1 ∧ i = 6) ∨ (k = 2 ∧ i = 13) ∨ (k = 5 ∧ i = 16)) (hsl : Sl C.a0 a' restTs) (hT : ∀ j, j < 17 → j ≠ i → a'.tmps[slotOf j]? = a.tmps[slotOf j]?) (hT16 : i = 16 → a' = a)
    (h14 : i = 14 → d 6 = true ∧ d 13 = true) (h16 : i = 16 → d 6 = true ∧ d 13 = true ∧ d 15 = true) (hi : i < 17) (hnew : Fld C tag' i (fun t => a'.tmps[t]?) w') : RestI C (fun j => d j || j == i) a' w' := by
  refine ⟨tag', hsl, h.bel.trans (hF.below h.bel.size (fun b hb => hb.2)), fun h14' => ?_, fun h16' => ?_, fun j hj h1 h2 h3 => ?_⟩
  · by_cases e : 14 = i
    · exact ⟨or_true' (h14 e.symm).1, or_true' (h14 e.symm).2⟩
    · have := h.g14 ((or_ne (d := d) e).symm.trans h14')
      exact ⟨or_true' this.1, or_true' this.2⟩
  · by_cases e : 16 = i
    · exact ⟨or_true' (h16 e.symm).1, or_true' (h16 e.symm).2.1, or_true' (h16 e.symm).2.2⟩
    · have := h.g16 ((or_ne (d := d) e).symm.trans h16')
      exact ⟨or_true' this.1, or_true' this.2.1, or_true' this.2.2⟩
  · by_cases e : j = i
    · subst e
      exact hnew
    · have hj' : d j = true := (or_ne (d := d) e).symm.trans hj
      have q1 : j = 3 ∨ j = 5 → d 6 = false := fun e' => by
        have := h1 e'
        rw [Bool.or_eq_false_iff] at this
        exact this.1
      have q2 : j = 10 ∨ j = 12 → d 13 = false := fun e' => by
        have := h2 e'
        rw [Bool.or_eq_false_iff] at this
        exact this.1
      have q3 : j = 15 → d 16 = false := fun e' => by
        have := h3 e'
        rw [Bool.or_eq_false_iff] at this
        exact this.1
      by_cases hj17 : j < 17
      · have at' : ∀ m, m < 17 → d m = true → a'.tmps[slotOf m]? = a.tmps[slotOf m]? := fun m hm hdm => hT m hm (fun e' => by rw [e', hd] at hdm; cases hdm)
        refine Fld.keep hF ht j ?_ (fun _ _ => hT j hj17 e) (fun e' => ?_) (fun e' => ?_) (h.f j hj' q1 q2 q3)
        · rcases hk with hk | ⟨hk, hi'⟩ | ⟨hk, hi'⟩ | ⟨hk, hi'⟩
          · exact .inl hk
          · refine .inr (fun hs => ?_)
            subst hi'
            rw [hk] at hs
            have hjj : j = 3 ∨ j = 6 := rsort_one hs
            have := h1 (.inl (by omega))
            simp at this
          · refine .inr (fun hs => ?_)
            subst hi'
            rw [hk] at hs
            have hjj : j = 10 ∨ j = 13 := rsort_two hs
            have := h2 (.inl (by omega))
            simp at this
          · refine .inr (fun hs => ?_)
            subst hi'
            rw [hk] at hs
            have hjj : j = 15 ∨ j = 16 := rsort_five hs
            have := h3 (by omega)
            simp at this
        · subst e'
          have := h.g14 hj'
          exact ⟨at' 6 (by omega) this.1, at' 13 (by omega) this.2, at' 14 (by omega) hj'⟩
        · subst e'
          have := h.g16 hj'
          exact ⟨at' 6 (by omega) this.1, at' 13 (by omega) this.2.1, at' 15 (by omega) this.2.2⟩
      · obtain ⟨m, rfl⟩ : ∃ m, j = m + 17 := ⟨j - 17, by omega⟩
        trivial
/-- One thing more is done, in a slot. -/
theorem RI.put {C : RC} (hC : RCok C) {tag tag' : Nat → Nat} {d : Nat → Bool} {a : Act} {w w' : World} (h : RI C tag d a w) (i k : Nat) (v : Value) (hd : d i = false) (hi16 : i < 16) (hF : Fr (fun b => tag b = k ∧ C.W.heap.size ≤ b) w w') (ht : ∀ b, b < w.heap.size → tag' b = tag b)
    (hk : k = 0 ∨ (k = 1 ∧ i = 6) ∨ (k = 2 ∧ i = 13)) (h14 : i = 14 → d 6 = true ∧ d 13 = true) (hnew : ∀ T : Nat → Option Value, T (slotOf i) = some v → (∀ t, t ≠ slotOf i → T t = a.tmps[t]?) → Fld C tag' i T w') : RestI C (fun j => d j || j == i) (a.put (some (slotOf i)) v) w' := by
  have hm : slotOf i ∈ restTs := by
    have hi' : slotOf i = 12 ∨ (90 ≤ slotOf i ∧ slotOf i ≤ 104) := by unfold slotOf; split <;> omega
    generalize slotOf i = t at hi'
    rcases hi' with rfl | ⟨h1, h2⟩
    · decide
    · obtain ⟨m, rfl⟩ : ∃ m, t = 90 + m := ⟨t - 90, by omega⟩
      have : m < 15 := by omega
      rcases m with _ | _ | _ | _ | _ | _ | _ | _ | _ | _ | _ | _ | _ | _ | _ | m
      all_goals first | decide | omega
  have hsz : slotOf i < a.tmps.size := by
    rw [h.sl.sz]
    have := hC.sz
    unfold slotOf
    split <;> omega
  refine RI.next h i k hd hF ht (by rcases hk with h' | h' | h' <;> simp [h']) (h.sl.put hm v) (fun j hj e => put_other (slot_ne e hj (by omega)) v) (fun e => by omega) h14 (fun e => by omega) (by omega) ?_
  exact hnew _ (put_same hsz v) (fun t ht => put_other (fun e => ht e.symm) v)
theorem run_append_noneR {P : Program} (w : World) (t ty e : TypeId) (i : TypeInfo) (ht : P.underlying t = some (.slice e)) (hi : P.info? e = some i) (g n cap : Nat) (hn : n ≤ cap) (ax : Option Addr) (c : Nat) :
    (Builtin.append_ #[t, t] ty #[.slice (some ⟨g, 0, none⟩) n cap, .slice ax 0 c]).run P w = .ok (.slice (some ⟨g, 0, none⟩) n cap) w := by
  have hs : Src P i.size t (.slice ax 0 c) 0 [] w := by
    cases ax with
    | none => exact Src.ofNil w ht c
    | some a => exact Src.ofSlice w ht a 0 c [] (by simp) (fun j u h => by simp at h) (fun u h => by cases h)
  have := run_append_room_src (P := P) w t t ty e i ht hi g 0 n cap _ 0 [] hs (by omega) (fun j h => by simp at h) (fun j h => by simp at h)
  rw [this]
  rfl
theorem wp_append_zero {P : Program} {o : Oper} {a : Act} {K : Act → World → Prop} {Q : Exit → Act → World → Prop} (w : World) (s y : Operand) (t : TypeId)
    (ho : o.op = .call { callee := .builtin .append, args := #[s, y], argTypes := #[t, t] }) (e : TypeId) (i : TypeInfo) (ht : P.underlying t = some (.slice e)) (hi : P.info? e = some i)
    (g n cap : Nat) (hn : n ≤ cap) (hse : a.eval s = .slice (some ⟨g, 0, none⟩) n cap) (ax : Option Addr) (c : Nat) (hx : a.eval y = .slice ax 0 c)
    (h : K (a.put o.dst (.slice (some ⟨g, 0, none⟩) n cap)) w) : o.wp P a w K Q := by
  have hr := run_append_noneR (P := P) w t o.type e i ht hi g n cap hn ax c
  unfold Oper.wp execOp
  simp only [ho, resolve, invoke, builtin, Sem.run_bind, Sem.run_pure, Result.andThen_ok, List.map_toArray, List.map_cons, List.map_nil, hse, hx, hr]
  exact h
theorem strs_at {l : List ByteArray} {j : Nat} {u : Value} (h : (strs l)[j]? = some u) : ∃ x, l[j]? = some x ∧ Value.string x = u := by
  unfold strs at h
  rw [List.getElem?_map, Option.map_eq_some_iff] at h
  exact h
theorem flat_one {vs : List V5} : ∀ u ∈ flatV vs, u.oneCell' = true := fun u hu => by
  unfold flatV at hu
  obtain ⟨v, -, hv⟩ := List.mem_flatMap.1 hu
  unfold V5.cs five at hv
  simp at hv
  rcases hv with rfl | rfl | rfl | rfl | rfl <;> rfl
set_option maxHeartbeats 1000000 in
set_option maxRecDepth 100000 in
theorem rest_step1 {C : RC} (hC : RCok C) {ops : Array Oper} {Q : Exit → Act → World → Prop} (ho : ops[1]? = some { dst := some 91, op := Op.fieldAddr 25 (Operand.tmp 4) 3, type := 0, pos := "law.go:182", after := #[], guard := none }) {d : Nat → Bool} {a : Act} {w : World} (hd : d 1 = false)  (hI : RestI C d a w) : wpOp Tryz.prog ops Q 1 (RestI C (fun j => d j || j == 1)) a w := by
  obtain ⟨tag, hI⟩ := hI
  unfold wpOp
  rw [ho]
  simp only [Region.wanted, if_true]
  left
  have e4 : a.tmps[4]? = some (.pointer (some ⟨C.vb, 0, none⟩)) := (hI.sl.eq 4 (by decide)).trans hC.t4
  unfold Oper.wp
  go_simp
  exact RI.put hC hI 1 0 (.pointer (some ⟨C.vb, 3, none⟩)) hd (by decide) (Fr.refl _ w) (fun _ _ => rfl) (.inl rfl) (fun e => absurd e (by decide)) (fun T q1 _ => q1)
set_option maxHeartbeats 1000000 in
set_option maxRecDepth 100000 in
theorem rest_step2 {C : RC} (hC : RCok C) {ops : Array Oper} {Q : Exit → Act → World → Prop} (ho : ops[2]? = some { dst := some 92, op := Op.load 22 (Operand.tmp 91), type := 22, pos := "law.go:182", after := #[{ on := 1, ground := Ground.data }], guard := none }) {d : Nat → Bool} {a : Act} {w : World} (hd : d 2 = false) (h1 : d 1 = true) (hI : RestI C d a w) : wpOp Tryz.prog ops Q 2 (RestI C (fun j => d j || j == 2)) a w := by
  obtain ⟨tag, hI⟩ := hI
  unfold wpOp
  rw [ho]
  simp only [Region.wanted, if_true]
  left
  have e1 : a.tmps[91]? = _ := hI.f 1 h1 (fun e => absurd e (by decide)) (fun e => absurd e (by decide)) (fun e => absurd e (by decide))
  have c1 := stay hI.bel hC.v3
  unfold Oper.wp
  go_simp
  exact RI.put hC hI 2 0 (.slice C.an C.ln C.cn) hd (by decide) (Fr.refl _ w) (fun _ _ => rfl) (.inl rfl) (fun e => absurd e (by decide)) (fun T q1 _ => q1)
set_option maxHeartbeats 1000000 in
set_option maxRecDepth 100000 in
theorem rest_step4 {C : RC} (hC : RCok C) {ops : Array Oper} {Q : Exit → Act → World → Prop} (ho : ops[4]? = some { dst := some 94, op := Op.move (Operand.tmp 5), type := 9, pos := "law.go:182", after := #[], guard := none }) {d : Nat → Bool} {a : Act} {w : World} (hd : d 4 = false)  (hI : RestI C d a w) : wpOp Tryz.prog ops Q 4 (RestI C (fun j => d j || j == 4)) a w := by
  obtain ⟨tag, hI⟩ := hI
  unfold wpOp
  rw [ho]
  simp only [Region.wanted, if_true]
  left
  have e5 : a.tmps[5]? = some (.string C.s) := (hI.sl.eq 5 (by decide)).trans hC.t5
  unfold Oper.wp
  go_simp
  exact RI.put hC hI 4 0 (.string C.s) hd (by decide) (Fr.refl _ w) (fun _ _ => rfl) (.inl rfl) (fun e => absurd e (by decide)) (fun T q1 _ => q1)
set_option maxHeartbeats 1000000 in
set_option maxRecDepth 100000 in
theorem rest_step8 {C : RC} (hC : RCok C) {ops : Array Oper} {Q : Exit → Act → World → Prop} (ho : ops[8]? = some { dst := some 98, op := Op.fieldAddr 25 (Operand.tmp 4) 4, type := 0, pos := "law.go:182", after := #[], guard := none }) {d : Nat → Bool} {a : Act} {w : World} (hd : d 8 = false)  (hI : RestI C d a w) : wpOp Tryz.prog ops Q 8 (RestI C (fun j => d j || j == 8)) a w := by
  obtain ⟨tag, hI⟩ := hI
  unfold wpOp
  rw [ho]
  simp only [Region.wanted, if_true]
  left
  have e4 : a.tmps[4]? = some (.pointer (some ⟨C.vb, 0, none⟩)) := (hI.sl.eq 4 (by decide)).trans hC.t4
  unfold Oper.wp
  go_simp
  exact RI.put hC hI 8 0 (.pointer (some ⟨C.vb, 4, none⟩)) hd (by decide) (Fr.refl _ w) (fun _ _ => rfl) (.inl rfl) (fun e => absurd e (by decide)) (fun T q1 _ => q1)
set_option maxHeartbeats 1000000 in
set_option maxRecDepth 100000 in
theorem rest_step9 {C : RC} (hC : RCok C) {ops : Array Oper} {Q : Exit → Act → World → Prop} (ho : ops[9]? = some { dst := some 99, op := Op.load 23 (Operand.tmp 98), type := 23, pos := "law.go:182", after := #[{ on := 8, ground := Ground.data }], guard := none }) {d : Nat → Bool} {a : Act} {w : World} (hd : d 9 = false) (h8 : d 8 = true) (hI : RestI C d a w) : wpOp Tryz.prog ops Q 9 (RestI C (fun j => d j || j == 9)) a w := by
  obtain ⟨tag, hI⟩ := hI
  unfold wpOp
  rw [ho]
  simp only [Region.wanted, if_true]
  left
  have e1 : a.tmps[98]? = _ := hI.f 8 h8 (fun e => absurd e (by decide)) (fun e => absurd e (by decide)) (fun e => absurd e (by decide))
  have c1 := stay hI.bel hC.v4
  unfold Oper.wp
  go_simp
  exact RI.put hC hI 9 0 (.slice C.ai C.li C.ci) hd (by decide) (Fr.refl _ w) (fun _ _ => rfl) (.inl rfl) (fun e => absurd e (by decide)) (fun T q1 _ => q1)
set_option maxHeartbeats 1000000 in
set_option maxRecDepth 100000 in
theorem rest_step11 {C : RC} (hC : RCok C) {ops : Array Oper} {Q : Exit → Act → World → Prop} (ho : ops[11]? = some { dst := some 101, op := Op.load 25 (Operand.tmp 6), type := 25, pos := "law.go:182", after := #[], guard := none }) {d : Nat → Bool} {a : Act} {w : World} (hd : d 11 = false)  (hI : RestI C d a w) : wpOp Tryz.prog ops Q 11 (RestI C (fun j => d j || j == 11)) a w := by
  obtain ⟨tag, hI⟩ := hI
  unfold wpOp
  rw [ho]
  simp only [Region.wanted, if_true]
  left
  have e6 : a.tmps[6]? = some (.pointer (some ⟨C.xb, 0, none⟩)) := (hI.sl.eq 6 (by decide)).trans hC.t6
  have c0 := stay hI.bel hC.x0
  have c1 := stay hI.bel hC.x1
  have c2 := stay hI.bel hC.x2
  have c3 := stay hI.bel hC.x3
  have c4 := stay hI.bel hC.x4
  unfold Oper.wp
  go_simp
  exact RI.put hC hI 11 0 (C.x.v) hd (by decide) (Fr.refl _ w) (fun _ _ => rfl) (.inl rfl) (fun e => absurd e (by decide)) (fun T q1 _ => q1)
set_option maxHeartbeats 1000000 in
set_option maxRecDepth 100000 in
theorem rest_step0 {C : RC} (hC : RCok C) {ops : Array Oper} {Q : Exit → Act → World → Prop} (ho : ops[0]? = some { dst := some 90, op := Op.buildSlice 22 0 #[], type := 22, pos := "law.go:182", after := #[], guard := none }) {d : Nat → Bool} {a : Act} {w : World} (hd : d 0 = false)  (hI : RestI C d a w) : wpOp Tryz.prog ops Q 0 (RestI C (fun j => d j || j == 0)) a w := by
  obtain ⟨tag, hI⟩ := hI
  unfold wpOp
  rw [ho]
  simp only [Region.wanted, if_true]
  left
  unfold Oper.wp
  go_simp
  exact RI.put hC hI (tag' := updT tag w.heap.size 1) 0 0 (.slice (some ⟨w.heap.size, 0, none⟩) 0 0) hd (by decide) ((Fr.refl _ w).alloc _) updT_lt (.inl rfl) (fun e => absurd e (by decide)) (fun T q1 _ => ⟨_, q1, ⟨hI.bel.size, by rw [World.size_alloc]; omega, updT_new _ _ _⟩⟩)
set_option maxHeartbeats 1000000 in
set_option maxRecDepth 100000 in
theorem rest_step7 {C : RC} (hC : RCok C) {ops : Array Oper} {Q : Exit → Act → World → Prop} (ho : ops[7]? = some { dst := some 97, op := Op.buildSlice 23 0 #[], type := 23, pos := "law.go:182", after := #[], guard := none }) {d : Nat → Bool} {a : Act} {w : World} (hd : d 7 = false)  (hI : RestI C d a w) : wpOp Tryz.prog ops Q 7 (RestI C (fun j => d j || j == 7)) a w := by
  obtain ⟨tag, hI⟩ := hI
  unfold wpOp
  rw [ho]
  simp only [Region.wanted, if_true]
  left
  unfold Oper.wp
  go_simp
  exact RI.put hC hI (tag' := updT tag w.heap.size 2) 7 0 (.slice (some ⟨w.heap.size, 0, none⟩) 0 0) hd (by decide) ((Fr.refl _ w).alloc _) updT_lt (.inl rfl) (fun e => absurd e (by decide)) (fun T q1 _ => ⟨_, q1, ⟨hI.bel.size, by rw [World.size_alloc]; omega, updT_new _ _ _⟩⟩)
set_option maxHeartbeats 1000000 in
set_option maxRecDepth 100000 in
theorem rest_step5 {C : RC} (hC : RCok C) {ops : Array Oper} {Q : Exit → Act → World → Prop} (ho : ops[5]? = some { dst := some 95, op := Op.buildSlice 22 1 #[(0, Operand.tmp 94)], type := 22, pos := "law.go:182", after := #[{ on := 4, ground := Ground.data }], guard := none }) {d : Nat → Bool} {a : Act} {w : World} (hd : d 5 = false) (h4 : d 4 = true) (hI : RestI C d a w) : wpOp Tryz.prog ops Q 5 (RestI C (fun j => d j || j == 5)) a w := by
  obtain ⟨tag, hI⟩ := hI
  unfold wpOp
  rw [ho]
  simp only [Region.wanted, if_true]
  left
  have e1 : a.tmps[94]? = _ := hI.f 4 h4 (fun e => absurd e (by decide)) (fun e => absurd e (by decide)) (fun e => absurd e (by decide))
  unfold Oper.wp
  go_simp
  exact RI.put hC hI (tag' := updT tag w.heap.size 3) 5 0 (.slice (some ⟨w.heap.size, 0, none⟩) 1 1) hd (by decide) ((Fr.refl _ w).alloc _) updT_lt (.inl rfl) (fun e => absurd e (by decide)) (fun T q1 _ => ⟨_, q1, heap_alloc_new w _, ⟨hI.bel.size, by rw [World.size_alloc]; omega, updT_new _ _ _⟩⟩)
set_option maxHeartbeats 1000000 in
set_option maxRecDepth 100000 in
theorem rest_step12 {C : RC} (hC : RCok C) {ops : Array Oper} {Q : Exit → Act → World → Prop} (ho : ops[12]? = some { dst := some 102, op := Op.buildSlice 23 1 #[(0, Operand.tmp 101)], type := 23, pos := "law.go:182", after := #[{ on := 11, ground := Ground.data }], guard := none }) {d : Nat → Bool} {a : Act} {w : World} (hd : d 12 = false) (h11 : d 11 = true) (hI : RestI C d a w) : wpOp Tryz.prog ops Q 12 (RestI C (fun j => d j || j == 12)) a w := by
  obtain ⟨tag, hI⟩ := hI
  unfold wpOp
  rw [ho]
  simp only [Region.wanted, if_true]
  left
  have e1 : a.tmps[101]? = _ := hI.f 11 h11 (fun e => absurd e (by decide)) (fun e => absurd e (by decide)) (fun e => absurd e (by decide))
  unfold V5.v at e1
  unfold Oper.wp
  go_simp
  exact RI.put hC hI (tag' := updT tag w.heap.size 4) 12 0 (.slice (some ⟨w.heap.size, 0, none⟩) 1 1) hd (by decide) ((Fr.refl _ w).alloc _) updT_lt (.inl rfl) (fun e => absurd e (by decide)) (fun T q1 _ => ⟨_, q1, heap_alloc_new w _, ⟨hI.bel.size, by rw [World.size_alloc]; omega, updT_new _ _ _⟩⟩)
set_option maxHeartbeats 1000000 in
set_option maxRecDepth 100000 in
theorem rest_step15 {C : RC} (hC : RCok C) {ops : Array Oper} {Q : Exit → Act → World → Prop} (ho : ops[15]? = some { dst := some 12, op := Op.alloc 25, type := 0, pos := "law.go:182", after := #[], guard := none }) {d : Nat → Bool} {a : Act} {w : World} (hd : d 15 = false)  (hI : RestI C d a w) : wpOp Tryz.prog ops Q 15 (RestI C (fun j => d j || j == 15)) a w := by
  obtain ⟨tag, hI⟩ := hI
  unfold wpOp
  rw [ho]
  simp only [Region.wanted, if_true]
  left
  unfold Oper.wp
  go_simp
  exact RI.put hC hI (tag' := updT tag w.heap.size 5) 15 0 (.pointer (some ⟨w.heap.size, 0, none⟩)) hd (by decide) ((Fr.refl _ w).alloc _) updT_lt (.inl rfl) (fun e => absurd e (by decide)) (fun T q1 _ => ⟨_, q1, heap_alloc_new w _, ⟨hI.bel.size, by rw [World.size_alloc]; omega, updT_new _ _ _⟩⟩)
set_option maxHeartbeats 1000000 in
set_option maxRecDepth 100000 in
theorem rest_step14 {C : RC} (hC : RCok C) {ops : Array Oper} {Q : Exit → Act → World → Prop} (ho : ops[14]? = some { dst := some 104, op := Op.build 25 #[(0, Operand.const (Value.int IntKind.i64 6)), (3, Operand.tmp 96), (4, Operand.tmp 103)], type := 25, pos := "law.go:182", after := #[{ on := 6, ground := Ground.data }, { on := 13, ground := Ground.data }], guard := none }) {d : Nat → Bool} {a : Act} {w : World} (hd : d 14 = false) (h6 : d 6 = true) (h13 : d 13 = true) (hI : RestI C d a w) : wpOp Tryz.prog ops Q 14 (RestI C (fun j => d j || j == 14)) a w := by
  obtain ⟨tag, hI⟩ := hI
  unfold wpOp
  rw [ho]
  simp only [Region.wanted, if_true]
  left
  obtain ⟨na, nc, e1, -, -⟩ := hI.f 6 h6 (fun e => absurd e (by decide)) (fun e => absurd e (by decide)) (fun e => absurd e (by decide))
  obtain ⟨ia, ic, e2, -, -⟩ := hI.f 13 h13 (fun e => absurd e (by decide)) (fun e => absurd e (by decide)) (fun e => absurd e (by decide))
  unfold Oper.wp
  go_simp
  exact RI.put hC hI 14 0 (.agg #[.int .i64 6, .int .i64 0, .string ⟨#[]⟩, .slice na (C.ln + 1) nc, .slice ia (C.li + 1) ic]) hd (by decide) (Fr.refl _ w) (fun _ _ => rfl) (.inl rfl) (fun _ => ⟨h6, h13⟩) (fun T q1 q2 => ⟨na, nc, ia, ic, (q2 96 (by decide)).trans e1, (q2 103 (by decide)).trans e2, q1⟩)
set_option maxHeartbeats 1000000 in
set_option maxRecDepth 100000 in
theorem rest_step3 {C : RC} (hC : RCok C) {ops : Array Oper} {Q : Exit → Act → World → Prop} (ho : ops[3]? = some { dst := some 93, op := Op.call { callee := Callee.builtin Builtin.append, args := #[Operand.tmp 90, Operand.tmp 92], argTypes := #[22, 22] }, type := 22, pos := "law.go:182", after := #[{ on := 0, ground := Ground.data }, { on := 2, ground := Ground.data }], guard := none }) {d : Nat → Bool} {a : Act} {w : World} (hd : d 3 = false) (h0 : d 0 = true) (h2 : d 2 = true) (hI : RestI C d a w) : wpOp Tryz.prog ops Q 3 (RestI C (fun j => d j || j == 3)) a w := by
  obtain ⟨tag, hI⟩ := hI
  unfold wpOp
  rw [ho]
  simp only [Region.wanted, if_true]
  left
  obtain ⟨r9, hr9, hr91, hr92, hr93⟩ := info_parts A9
  obtain ⟨b, q1, hO⟩ := hI.f 0 h0 (fun e => absurd e (by decide)) (fun e => absurd e (by decide)) (fun e => absurd e (by decide))
  have q2 : a.tmps[92]? = _ := hI.f 2 h2 (fun e => absurd e (by decide)) (fun e => absurd e (by decide)) (fun e => absurd e (by decide))
  have e1 : a.eval (.tmp 90) = .slice (some ⟨b, 0, none⟩) 0 0 := eval_of q1
  have e2 : a.eval (.tmp 92) = .slice C.an C.ln C.cn := eval_of q2
  by_cases hn : C.ln = 0
  · rw [hn] at e2
    refine wp_append_zero w (.tmp 90) (.tmp 92) 22 rfl 9 r9 Tryz.underlying22 hr9 b 0 0 (Nat.le_refl _) e1 C.an C.cn e2 ?_
    have hl : C.ns = [] := List.eq_nil_of_length_eq_zero (by rw [hC.nl]; exact hn)
    exact RI.put hC hI 3 0 (.slice (some ⟨b, 0, none⟩) 0 0) hd (by decide) (Fr.refl _ w) (fun _ _ => rfl) (.inl rfl) (fun e => absurd e (by decide)) (fun T q1 _ => ⟨some ⟨b, 0, none⟩, 0, by rw [hn]; exact q1, by rw [hn, hl]; exact Rw.nil _ _ _ _, fun b' hb' => by rw [blk_some hb']; exact hO⟩)
  · have hsrc : Src Tryz.prog 1 22 (.slice C.an C.ln C.cn) C.ln (strs C.ns) w := by
      rcases hC.nsrc with h0 | ⟨sb, so, ha, hc⟩
      · exact absurd (by rw [← hC.nl, h0]; rfl) hn
      · rw [ha]
        exact Src.ofSlice w Tryz.underlying22 ⟨sb, so, none⟩ C.ln C.cn (strs C.ns) (by unfold strs; simp [hC.nl]) (fun j u hj => by rw [add_plain]; obtain ⟨x, hx, rfl⟩ := strs_at hj; exact stay hI.bel (hc j x hx)) (fun u hu => by obtain ⟨x, -, rfl⟩ := List.mem_map.1 hu; rfl)
    refine wp_append_rw w (.tmp 90) (.tmp 92) 22 rfl 9 r9 _ 1 16 Tryz.underlying22 hr9 hr91 hr92 hr93 rfl C.W.heap.size (some ⟨b, 0, none⟩) 0 0 [] e1 rfl (Nat.le_refl _) (by unfold maxLen; omega) (fun j u hj => by simp at hj) _ e2 C.ln (strs C.ns) hsrc (fun h => absurd h (by omega)) (by omega) (by have := hC.nb; unfold maxLen; omega) (by have := hC.nb; omega) hI.bel.size ?_
    intro g2 o2 c2 w2 hA
    have hrow := hA.row
    have hat := hA.at'
    rw [Nat.zero_add, List.nil_append] at hrow
    rw [Nat.zero_add]
    have hg : g2 = w.heap.size := by
      rcases hat with ⟨-, -, h⟩ | ⟨h, -, -⟩
      · omega
      · exact h
    exact RI.put hC hI (tag' := updT tag w.heap.size 1) 3 0 (.slice (some ⟨g2, o2, none⟩) C.ln c2) hd (by decide) (hA.fr.mono (fun j hj => absurd hj.2 (by omega))) updT_lt (.inl rfl) (fun e => absurd e (by decide)) (fun T q1 _ => ⟨_, _, q1, hrow, fun b' hb' => by rw [blk_some hb', hg]; exact ⟨hI.bel.size, by rw [← hg]; exact hA.lt, updT_new _ _ _⟩⟩)
set_option maxHeartbeats 1000000 in
set_option maxRecDepth 100000 in
theorem rest_step10 {C : RC} (hC : RCok C) {ops : Array Oper} {Q : Exit → Act → World → Prop} (ho : ops[10]? = some { dst := some 100, op := Op.call { callee := Callee.builtin Builtin.append, args := #[Operand.tmp 97, Operand.tmp 99], argTypes := #[23, 23] }, type := 23, pos := "law.go:182", after := #[{ on := 7, ground := Ground.data }, { on := 9, ground := Ground.data }, { on := 6, ground := Ground.chain }], guard := none }) {d : Nat → Bool} {a : Act} {w : World} (hd : d 10 = false) (h7 : d 7 = true) (h9 : d 9 = true) (hI : RestI C d a w) : wpOp Tryz.prog ops Q 10 (RestI C (fun j => d j || j == 10)) a w := by
  obtain ⟨tag, hI⟩ := hI
  unfold wpOp
  rw [ho]
  simp only [Region.wanted, if_true]
  left
  obtain ⟨rv, hrv, hrv1, hrv2, hrv3⟩ := info_parts AV
  obtain ⟨b, q1, hO⟩ := hI.f 7 h7 (fun e => absurd e (by decide)) (fun e => absurd e (by decide)) (fun e => absurd e (by decide))
  have q2 : a.tmps[99]? = _ := hI.f 9 h9 (fun e => absurd e (by decide)) (fun e => absurd e (by decide)) (fun e => absurd e (by decide))
  have e1 : a.eval (.tmp 97) = .slice (some ⟨b, 0, none⟩) 0 0 := eval_of q1
  have e2 : a.eval (.tmp 99) = .slice C.ai C.li C.ci := eval_of q2
  by_cases hn : C.li = 0
  · rw [hn] at e2
    refine wp_append_zero w (.tmp 97) (.tmp 99) 23 rfl 25 rv Tryz.underlying23 hrv b 0 0 (Nat.le_refl _) e1 C.ai C.ci e2 ?_
    have hl : C.vs = [] := List.eq_nil_of_length_eq_zero (by rw [hC.vl]; exact hn)
    exact RI.put hC hI 10 0 (.slice (some ⟨b, 0, none⟩) 0 0) hd (by decide) (Fr.refl _ w) (fun _ _ => rfl) (.inl rfl) (fun e => absurd e (by decide)) (fun T q1 _ => ⟨some ⟨b, 0, none⟩, 0, by rw [hn]; exact q1, by rw [hn, hl]; exact Rw.nil _ _ _ _, fun b' hb' => by rw [blk_some hb']; exact hO⟩)
  · have hsrc : Src Tryz.prog 5 23 (.slice C.ai C.li C.ci) C.li (flatV C.vs) w := by
      rcases hC.vsrc with h0 | ⟨sb, so, ha, hc⟩
      · exact absurd (by rw [← hC.vl, h0]; rfl) hn
      · rw [ha]
        exact Src.ofSlice w Tryz.underlying23 ⟨sb, so, none⟩ C.li C.ci (flatV C.vs) (by rw [flatV_len, hC.vl]) (fun j u hj => by rw [add_plain]; exact stay hI.bel (hc j u hj)) flat_one
    refine wp_append_rw w (.tmp 97) (.tmp 99) 23 rfl 25 rv _ 5 80 Tryz.underlying23 hrv hrv1 hrv2 hrv3 rfl C.W.heap.size (some ⟨b, 0, none⟩) 0 0 [] e1 rfl (Nat.le_refl _) (by unfold maxLen; omega) (fun j u hj => by simp at hj) _ e2 C.li (flatV C.vs) hsrc (fun h => absurd h (by omega)) (by omega) (by have := hC.ib; unfold maxLen; omega) (by have := hC.ib; omega) hI.bel.size ?_
    intro g2 o2 c2 w2 hA
    have hrow := hA.row
    have hat := hA.at'
    rw [Nat.zero_add, List.nil_append] at hrow
    rw [Nat.zero_add]
    have hg : g2 = w.heap.size := by
      rcases hat with ⟨-, -, h⟩ | ⟨h, -, -⟩
      · omega
      · exact h
    exact RI.put hC hI (tag' := updT tag w.heap.size 2) 10 0 (.slice (some ⟨g2, o2, none⟩) C.li c2) hd (by decide) (hA.fr.mono (fun j hj => absurd hj.2 (by omega))) updT_lt (.inl rfl) (fun e => absurd e (by decide)) (fun T q1 _ => ⟨_, _, q1, hrow, fun b' hb' => by rw [blk_some hb', hg]; exact ⟨hI.bel.size, by rw [← hg]; exact hA.lt, updT_new _ _ _⟩⟩)
set_option maxHeartbeats 1000000 in
set_option maxRecDepth 100000 in
theorem rest_step6 {C : RC} (hC : RCok C) {ops : Array Oper} {Q : Exit → Act → World → Prop} (ho : ops[6]? = some { dst := some 96, op := Op.call { callee := Callee.builtin Builtin.append, args := #[Operand.tmp 93, Operand.tmp 95], argTypes := #[22, 22] }, type := 22, pos := "law.go:182", after := #[{ on := 3, ground := Ground.data }, { on := 5, ground := Ground.data }, { on := 3, ground := Ground.chain }], guard := none }) {d : Nat → Bool} {a : Act} {w : World} (hd : d 6 = false) (h3 : d 3 = true) (h5 : d 5 = true) (hI : RestI C d a w) : wpOp Tryz.prog ops Q 6 (RestI C (fun j => d j || j == 6)) a w := by
  obtain ⟨tag, hI⟩ := hI
  unfold wpOp
  rw [ho]
  simp only [Region.wanted, if_true]
  left
  obtain ⟨r9, hr9, hr91, hr92, hr93⟩ := info_parts A9
  obtain ⟨na, c, q1, hR, hO⟩ := hI.f 3 h3 (fun _ => hd) (fun e => absurd e (by decide)) (fun e => absurd e (by decide))
  obtain ⟨sb, q2, hb, -⟩ := hI.f 5 h5 (fun _ => hd) (fun e => absurd e (by decide)) (fun e => absurd e (by decide))
  have e1 : a.eval (.tmp 93) = .slice na C.ln c := eval_of q1
  have e2 : a.eval (.tmp 95) = .slice (some ⟨sb, 0, none⟩) 1 1 := eval_of q2
  have hsrc : Src Tryz.prog 1 22 (.slice (some ⟨sb, 0, none⟩) 1 1) 1 [.string C.s] w := Src.of_block Tryz.underlying22 hb 1 1 rfl (fun u hu => by simp at hu; subst hu; rfl)
  refine wp_append_rw w (.tmp 93) (.tmp 95) 22 rfl 9 r9 _ 1 16 Tryz.underlying22 hr9 hr91 hr92 hr93 rfl C.W.heap.size na C.ln c (strs C.ns) e1 hR.len hR.le hR.mx hR.rd _ e2 1 [.string C.s] hsrc (fun _ => hR) (by decide) (by have := hC.nb; unfold maxLen; omega) (by have := hC.nb; omega) hI.bel.size ?_
  intro g2 o2 c2 w2 hA
  have hrow : Rw w2 C.W.heap.size 1 (some ⟨g2, o2, none⟩) (C.ln + 1) c2 (strs (C.ns ++ [C.s])) := by rw [show strs (C.ns ++ [C.s]) = strs C.ns ++ [.string C.s] by unfold strs; simp]; exact hA.row
  exact RI.put hC hI (tag' := updT tag w.heap.size 1) 6 1 (.slice (some ⟨g2, o2, none⟩) (C.ln + 1) c2) hd (by decide) (hA.fr.mono (fun j hj => .inl ⟨(hO j hj.1).2.2, (hO j hj.1).1⟩)) updT_lt (.inr (by decide)) (fun e => absurd e (by decide)) (fun T q1 _ => ⟨_, _, q1, hrow, fun b' hb' => by
    rw [blk_some hb']
    rcases hA.at' with ⟨h, -, -⟩ | ⟨h, -, -⟩
    · exact (hO g2 ⟨_, _, h⟩).next hA.fr.size updT_lt
    · exact ⟨by rw [h]; exact hI.bel.size, hA.lt, by rw [h]; exact updT_new _ _ _⟩⟩)
set_option maxHeartbeats 1000000 in
set_option maxRecDepth 100000 in
theorem rest_step13 {C : RC} (hC : RCok C) {ops : Array Oper} {Q : Exit → Act → World → Prop} (ho : ops[13]? = some { dst := some 103, op := Op.call { callee := Callee.builtin Builtin.append, args := #[Operand.tmp 100, Operand.tmp 102], argTypes := #[23, 23] }, type := 23, pos := "law.go:182", after := #[{ on := 10, ground := Ground.data }, { on := 12, ground := Ground.data }, { on := 10, ground := Ground.chain }], guard := none }) {d : Nat → Bool} {a : Act} {w : World} (hd : d 13 = false) (h10 : d 10 = true) (h12 : d 12 = true) (hI : RestI C d a w) : wpOp Tryz.prog ops Q 13 (RestI C (fun j => d j || j == 13)) a w := by
  obtain ⟨tag, hI⟩ := hI
  unfold wpOp
  rw [ho]
  simp only [Region.wanted, if_true]
  left
  obtain ⟨rv, hrv, hrv1, hrv2, hrv3⟩ := info_parts AV
  obtain ⟨na, c, q1, hR, hO⟩ := hI.f 10 h10 (fun e => absurd e (by decide)) (fun _ => hd) (fun e => absurd e (by decide))
  obtain ⟨sb, q2, hb, -⟩ := hI.f 12 h12 (fun e => absurd e (by decide)) (fun _ => hd) (fun e => absurd e (by decide))
  have e1 : a.eval (.tmp 100) = .slice na C.li c := eval_of q1
  have e2 : a.eval (.tmp 102) = .slice (some ⟨sb, 0, none⟩) 1 1 := eval_of q2
  have hsrc : Src Tryz.prog 5 23 (.slice (some ⟨sb, 0, none⟩) 1 1) 1 [.int .i64 C.x.k, .int .i64 C.x.x, .string C.x.s, .slice C.x.an C.x.ln C.x.cn, .slice C.x.ai C.x.li C.x.ci] w := Src.of_block Tryz.underlying23 hb 1 1 rfl (fun u hu => by simp at hu; rcases hu with rfl | rfl | rfl | rfl | rfl <;> rfl)
  refine wp_append_rw w (.tmp 100) (.tmp 102) 23 rfl 25 rv _ 5 80 Tryz.underlying23 hrv hrv1 hrv2 hrv3 rfl C.W.heap.size na C.li c (flatV C.vs) e1 hR.len hR.le hR.mx hR.rd _ e2 1 [.int .i64 C.x.k, .int .i64 C.x.x, .string C.x.s, .slice C.x.an C.x.ln C.x.cn, .slice C.x.ai C.x.li C.x.ci] hsrc (fun _ => hR) (by decide) (by have := hC.ib; unfold maxLen; omega) (by have := hC.ib; omega) hI.bel.size ?_
  intro g2 o2 c2 w2 hA
  have hrow : Rw w2 C.W.heap.size 5 (some ⟨g2, o2, none⟩) (C.li + 1) c2 (flatV (C.vs ++ [C.x])) := by rw [flatV_snoc]; exact hA.row
  exact RI.put hC hI (tag' := updT tag w.heap.size 2) 13 2 (.slice (some ⟨g2, o2, none⟩) (C.li + 1) c2) hd (by decide) (hA.fr.mono (fun j hj => .inl ⟨(hO j hj.1).2.2, (hO j hj.1).1⟩)) updT_lt (.inr (by decide)) (fun e => absurd e (by decide)) (fun T q1 _ => ⟨_, _, q1, hrow, fun b' hb' => by
    rw [blk_some hb']
    rcases hA.at' with ⟨h, -, -⟩ | ⟨h, -, -⟩
    · exact (hO g2 ⟨_, _, h⟩).next hA.fr.size updT_lt
    · exact ⟨by rw [h]; exact hI.bel.size, hA.lt, by rw [h]; exact updT_new _ _ _⟩⟩)
set_option maxHeartbeats 1000000 in
set_option maxRecDepth 100000 in
theorem rest_step16 {C : RC} (hC : RCok C) {ops : Array Oper} {Q : Exit → Act → World → Prop} (ho : ops[16]? = some { dst := none, op := Op.store 25 (Operand.tmp 12) (Operand.tmp 104), type := 0, pos := "law.go:182", after := #[{ on := 15, ground := Ground.data }, { on := 14, ground := Ground.data }, { on := 13, ground := Ground.chain }, { on := 0, ground := Ground.phase }, { on := 1, ground := Ground.phase }, { on := 2, ground := Ground.phase }, { on := 3, ground := Ground.phase }, { on := 4, ground := Ground.phase }, { on := 5, ground := Ground.phase }, { on := 6, ground := Ground.phase }, { on := 7, ground := Ground.phase }, { on := 8, ground := Ground.phase }, { on := 9, ground := Ground.phase }, { on := 10, ground := Ground.phase }, { on := 11, ground := Ground.phase }, { on := 12, ground := Ground.phase }, { on := 13, ground := Ground.phase }, { on := 14, ground := Ground.phase }, { on := 15, ground := Ground.phase }], guard := none }) {d : Nat → Bool} {a : Act} {w : World} (hd : d 16 = false) (h14 : d 14 = true) (h15 : d 15 = true) (hI : RestI C d a w) : wpOp Tryz.prog ops Q 16 (RestI C (fun j => d j || j == 16)) a w := by
  obtain ⟨tag, hI⟩ := hI
  unfold wpOp
  rw [ho]
  simp only [Region.wanted, if_true]
  left
  have _ := hC
  obtain ⟨na, nc, ia, ic, q1, q2, q3⟩ := hI.f 14 h14 (fun e => absurd e (by decide)) (fun e => absurd e (by decide)) (fun e => absurd e (by decide))
  obtain ⟨b, q4, hb, hO⟩ := hI.f 15 h15 (fun e => absurd e (by decide)) (fun e => absurd e (by decide)) (fun _ => hd)
  obtain ⟨y0, y1, y2, y3, y4, -⟩ := row_cells hb
  have yf : ∀ j, w.frozen? ⟨b, j, none⟩ = false := fun j => by simp [World.frozen?, hb]
  have hg := hI.g14 h14
  unfold Oper.wp
  go_simp
  have hp : Fr (fun b => tag b = 5 ∧ C.W.heap.size ≤ b) w (((((w.setCell ⟨b, 0, none⟩ (.int .i64 6)).setCell ⟨b, 1, none⟩ (.int .i64 0)).setCell ⟨b, 2, none⟩ (.string ⟨#[]⟩)).setCell ⟨b, 3, none⟩ (.slice na (C.ln + 1) nc)).setCell ⟨b, 4, none⟩ (.slice ia (C.li + 1) ic)) := (((((Fr.refl _ w).set _ _ (.inl ⟨hO.2.2, hO.1⟩)).set _ _ (.inl ⟨hO.2.2, hO.1⟩)).set _ _ (.inl ⟨hO.2.2, hO.1⟩)).set _ _ (.inl ⟨hO.2.2, hO.1⟩)).set _ _ (.inl ⟨hO.2.2, hO.1⟩)
  refine RI.next hI 16 5 hd hp (tag' := tag) (fun _ _ => rfl) (.inr (.inr (.inr ⟨rfl, rfl⟩))) hI.sl (fun _ _ _ => rfl) (fun _ => rfl) (fun e => absurd e (by decide)) (fun _ => ⟨hg.1, hg.2, h15⟩) (by decide) ⟨b, na, nc, ia, ic, q1, q2, q4, ?_, hO.next hp.size (fun _ _ => rfl)⟩
  simp [World.setCell, Array.getElem?_modify, hb]
/-- What the region leaves. -/
structure RestPost (C : RC) (b : Nat) (na : Option Addr) (nc : Nat) (ia : Option Addr) (ic : Nat) (w : World) : Prop where
  bel : Below C.W.heap.size C.W w
  box : w.heap[b]? = some (.cells #[.int .i64 6, .int .i64 0, .string ⟨#[]⟩, .slice na (C.ln + 1) nc, .slice ia (C.li + 1) ic] 25 (0, 0))
  rn : Rw w C.W.heap.size 1 na (C.ln + 1) nc (strs (C.ns ++ [C.s]))
  ri : Rw w C.W.heap.size 5 ia (C.li + 1) ic (flatV (C.vs ++ [C.x]))
theorem rest_end {C : RC} (hC : RCok C) {d : Nat → Bool} {a : Act} {w : World} (hall : ∀ i, i < 17 → d i = true) (h : RestI C d a w) : ∃ v90 v91 v92 v93 v94 v95 v96 v97 v98 v99 v100 v101 v102 v103 v104 b na nc ia ic,
    a = ((((((((((((((((C.a0.put (some 90) v90).put (some 91) v91).put (some 92) v92).put (some 93) v93).put (some 94) v94).put (some 95) v95).put (some 96) v96).put (some 97) v97).put (some 98) v98).put (some 99) v99).put (some 100) v100).put (some 101) v101).put (some 102) v102).put (some 103) v103).put (some 104) v104).put (some 12) (.pointer (some ⟨b, 0, none⟩))) ∧ RestPost C b na nc ia ic w := by
  obtain ⟨tag, h⟩ := h
  have hz := hC.sz
  have szp : ∀ (a : Act) t v, (a.put (some t) v).tmps.size = a.tmps.size := fun a t v => by simp [Act.put]
  have H := h.sl
  unfold restTs at H
  obtain ⟨v90, e90, H⟩ := sl_put H (by (try simp only [szp]); omega)
  obtain ⟨v91, e91, H⟩ := sl_put H (by (try simp only [szp]); omega)
  obtain ⟨v92, e92, H⟩ := sl_put H (by (try simp only [szp]); omega)
  obtain ⟨v93, e93, H⟩ := sl_put H (by (try simp only [szp]); omega)
  obtain ⟨v94, e94, H⟩ := sl_put H (by (try simp only [szp]); omega)
  obtain ⟨v95, e95, H⟩ := sl_put H (by (try simp only [szp]); omega)
  obtain ⟨v96, e96, H⟩ := sl_put H (by (try simp only [szp]); omega)
  obtain ⟨v97, e97, H⟩ := sl_put H (by (try simp only [szp]); omega)
  obtain ⟨v98, e98, H⟩ := sl_put H (by (try simp only [szp]); omega)
  obtain ⟨v99, e99, H⟩ := sl_put H (by (try simp only [szp]); omega)
  obtain ⟨v100, e100, H⟩ := sl_put H (by (try simp only [szp]); omega)
  obtain ⟨v101, e101, H⟩ := sl_put H (by (try simp only [szp]); omega)
  obtain ⟨v102, e102, H⟩ := sl_put H (by (try simp only [szp]); omega)
  obtain ⟨v103, e103, H⟩ := sl_put H (by (try simp only [szp]); omega)
  obtain ⟨v104, e104, H⟩ := sl_put H (by (try simp only [szp]); omega)
  obtain ⟨v12, e12, H⟩ := sl_put H (by (try simp only [szp]); omega)
  have ha := sl_nil H
  obtain ⟨b, na, nc, ia, ic, q1, q2, q3, q4, q5⟩ := h.f 16 (hall 16 (by decide)) (fun e => absurd e (by decide)) (fun e => absurd e (by decide)) (fun e => absurd e (by decide))
  obtain ⟨na', nc', p1, p2, -⟩ := h.f 6 (hall 6 (by decide)) (fun e => absurd e (by decide)) (fun e => absurd e (by decide)) (fun e => absurd e (by decide))
  obtain ⟨ia', ic', p4, p5, -⟩ := h.f 13 (hall 13 (by decide)) (fun e => absurd e (by decide)) (fun e => absurd e (by decide)) (fun e => absurd e (by decide))
  have e1 := Option.some.inj (q1.symm.trans p1)
  have e2 := Option.some.inj (q2.symm.trans p4)
  injection e1 with e1a _ e1b
  injection e2 with e2a _ e2b
  subst e1a e1b e2a e2b
  obtain rfl : v12 = .pointer (some ⟨b, 0, none⟩) := Option.some.inj (e12.symm.trans q3)
  exact ⟨v90, v91, v92, v93, v94, v95, v96, v97, v98, v99, v100, v101, v102, v103, v104, b, na, nc, ia, ic, ha, h.bel, q4, p2, p5⟩
set_option maxHeartbeats 2000000 in
set_option maxRecDepth 100000 in
theorem rest_region {C : RC} (hC : RCok C) {Q : Exit → Act → World → Prop} {w0 : World} (hW : C.W = w0.drew)
    (fin : ∀ v90 v91 v92 v93 v94 v95 v96 v97 v98 v99 v100 v101 v102 v103 v104 b na nc ia ic w, RestPost C b na nc ia ic w → Q .normal ((((((((((((((((C.a0.put (some 90) v90).put (some 91) v91).put (some 92) v92).put (some 93) v93).put (some 94) v94).put (some 95) v95).put (some 96) v96).put (some 97) v97).put (some 98) v98).put (some 99) v99).put (some 100) v100).put (some 101) v101).put (some 102) v102).put (some 103) v103).put (some 104) v104).put (some 12) (.pointer (some ⟨b, 0, none⟩))) w) :
    (Code.region 18 #[{ dst := some 90, op := Op.buildSlice 22 0 #[], type := 22, pos := "law.go:182", after := #[], guard := none }, { dst := some 91, op := Op.fieldAddr 25 (Operand.tmp 4) 3, type := 0, pos := "law.go:182", after := #[], guard := none }, { dst := some 92, op := Op.load 22 (Operand.tmp 91), type := 22, pos := "law.go:182", after := #[{ on := 1, ground := Ground.data }], guard := none }, { dst := some 93, op := Op.call { callee := Callee.builtin Builtin.append, args := #[Operand.tmp 90, Operand.tmp 92], argTypes := #[22, 22] }, type := 22, pos := "law.go:182", after := #[{ on := 0, ground := Ground.data }, { on := 2, ground := Ground.data }], guard := none }, { dst := some 94, op := Op.move (Operand.tmp 5), type := 9, pos := "law.go:182", after := #[], guard := none }, { dst := some 95, op := Op.buildSlice 22 1 #[(0, Operand.tmp 94)], type := 22, pos := "law.go:182", after := #[{ on := 4, ground := Ground.data }], guard := none }, { dst := some 96, op := Op.call { callee := Callee.builtin Builtin.append, args := #[Operand.tmp 93, Operand.tmp 95], argTypes := #[22, 22] }, type := 22, pos := "law.go:182", after := #[{ on := 3, ground := Ground.data }, { on := 5, ground := Ground.data }, { on := 3, ground := Ground.chain }], guard := none }, { dst := some 97, op := Op.buildSlice 23 0 #[], type := 23, pos := "law.go:182", after := #[], guard := none }, { dst := some 98, op := Op.fieldAddr 25 (Operand.tmp 4) 4, type := 0, pos := "law.go:182", after := #[], guard := none }, { dst := some 99, op := Op.load 23 (Operand.tmp 98), type := 23, pos := "law.go:182", after := #[{ on := 8, ground := Ground.data }], guard := none }, { dst := some 100, op := Op.call { callee := Callee.builtin Builtin.append, args := #[Operand.tmp 97, Operand.tmp 99], argTypes := #[23, 23] }, type := 23, pos := "law.go:182", after := #[{ on := 7, ground := Ground.data }, { on := 9, ground := Ground.data }, { on := 6, ground := Ground.chain }], guard := none }, { dst := some 101, op := Op.load 25 (Operand.tmp 6), type := 25, pos := "law.go:182", after := #[], guard := none }, { dst := some 102, op := Op.buildSlice 23 1 #[(0, Operand.tmp 101)], type := 23, pos := "law.go:182", after := #[{ on := 11, ground := Ground.data }], guard := none }, { dst := some 103, op := Op.call { callee := Callee.builtin Builtin.append, args := #[Operand.tmp 100, Operand.tmp 102], argTypes := #[23, 23] }, type := 23, pos := "law.go:182", after := #[{ on := 10, ground := Ground.data }, { on := 12, ground := Ground.data }, { on := 10, ground := Ground.chain }], guard := none }, { dst := some 104, op := Op.build 25 #[(0, Operand.const (Value.int IntKind.i64 6)), (3, Operand.tmp 96), (4, Operand.tmp 103)], type := 25, pos := "law.go:182", after := #[{ on := 6, ground := Ground.data }, { on := 13, ground := Ground.data }], guard := none }, { dst := some 12, op := Op.alloc 25, type := 0, pos := "law.go:182", after := #[], guard := none }, { dst := none, op := Op.store 25 (Operand.tmp 12) (Operand.tmp 104), type := 0, pos := "law.go:182", after := #[{ on := 15, ground := Ground.data }, { on := 14, ground := Ground.data }, { on := 13, ground := Ground.chain }, { on := 0, ground := Ground.phase }, { on := 1, ground := Ground.phase }, { on := 2, ground := Ground.phase }, { on := 3, ground := Ground.phase }, { on := 4, ground := Ground.phase }, { on := 5, ground := Ground.phase }, { on := 6, ground := Ground.phase }, { on := 7, ground := Ground.phase }, { on := 8, ground := Ground.phase }, { on := 9, ground := Ground.phase }, { on := 10, ground := Ground.phase }, { on := 11, ground := Ground.phase }, { on := 12, ground := Ground.phase }, { on := 13, ground := Ground.phase }, { on := 14, ground := Ground.phase }, { on := 15, ground := Ground.phase }], guard := none }] true).wp Tryz.prog Q C.a0 w0 := by
  refine wp_region_inv (by kernel_rfl) ?_ (RestI C) ⟨fun _ => 0, Sl.refl _ _, by rw [hW]; exact Below.refl _ _, fun h => (by cases h), fun h => (by cases h), fun _ h => (by cases h)⟩ ?_ ?_
  · intro i o ho e he _
    rcases i with _ | _ | _ | _ | _ | _ | _ | _ | _ | _ | _ | _ | _ | _ | _ | _ | _ | i
    all_goals first | (obtain rfl := Option.some.inj ho; simp at he; done) | (obtain rfl := Option.some.inj ho; simp at he; (repeat' rcases he with rfl | he) <;> first | decide | (subst he; decide)) | (simp at ho)
  · intro i o ho d a w hd hdeps hI
    rcases i with _ | _ | _ | _ | _ | _ | _ | _ | _ | _ | _ | _ | _ | _ | _ | _ | _ | i
    · obtain rfl := Option.some.inj ho
      exact rest_step0 hC rfl hd  hI
    · obtain rfl := Option.some.inj ho
      exact rest_step1 hC rfl hd  hI
    · obtain rfl := Option.some.inj ho
      exact rest_step2 hC rfl hd (hdeps ⟨1, .data⟩ (by simp) rfl) hI
    · obtain rfl := Option.some.inj ho
      exact rest_step3 hC rfl hd (hdeps ⟨0, .data⟩ (by simp) rfl) (hdeps ⟨2, .data⟩ (by simp) rfl) hI
    · obtain rfl := Option.some.inj ho
      exact rest_step4 hC rfl hd  hI
    · obtain rfl := Option.some.inj ho
      exact rest_step5 hC rfl hd (hdeps ⟨4, .data⟩ (by simp) rfl) hI
    · obtain rfl := Option.some.inj ho
      exact rest_step6 hC rfl hd (hdeps ⟨3, .data⟩ (by simp) rfl) (hdeps ⟨5, .data⟩ (by simp) rfl) hI
    · obtain rfl := Option.some.inj ho
      exact rest_step7 hC rfl hd  hI
    · obtain rfl := Option.some.inj ho
      exact rest_step8 hC rfl hd  hI
    · obtain rfl := Option.some.inj ho
      exact rest_step9 hC rfl hd (hdeps ⟨8, .data⟩ (by simp) rfl) hI
    · obtain rfl := Option.some.inj ho
      exact rest_step10 hC rfl hd (hdeps ⟨7, .data⟩ (by simp) rfl) (hdeps ⟨9, .data⟩ (by simp) rfl) hI
    · obtain rfl := Option.some.inj ho
      exact rest_step11 hC rfl hd  hI
    · obtain rfl := Option.some.inj ho
      exact rest_step12 hC rfl hd (hdeps ⟨11, .data⟩ (by simp) rfl) hI
    · obtain rfl := Option.some.inj ho
      exact rest_step13 hC rfl hd (hdeps ⟨10, .data⟩ (by simp) rfl) (hdeps ⟨12, .data⟩ (by simp) rfl) hI
    · obtain rfl := Option.some.inj ho
      exact rest_step14 hC rfl hd (hdeps ⟨6, .data⟩ (by simp) rfl) (hdeps ⟨13, .data⟩ (by simp) rfl) hI
    · obtain rfl := Option.some.inj ho
      exact rest_step15 hC rfl hd  hI
    · obtain rfl := Option.some.inj ho
      exact rest_step16 hC rfl hd (hdeps ⟨14, .data⟩ (by simp) rfl) (hdeps ⟨15, .data⟩ (by simp) rfl) hI
    · simp at ho
  · intro d a w hall hI
    obtain ⟨v90, v91, v92, v93, v94, v95, v96, v97, v98, v99, v100, v101, v102, v103, v104, b, na, nc, ia, ic, rfl, hp⟩ := rest_end hC (fun i hi => hall i (by simpa using hi)) hI
    exact fin _ _ _ _ _ _ _ _ _ _ _ _ _ _ _ _ _ _ _ _ _ hp
end Go.Proofs.YtbcfkajcmbckbaaGreatDoor
