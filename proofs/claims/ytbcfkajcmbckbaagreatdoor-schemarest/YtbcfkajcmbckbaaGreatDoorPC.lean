import Derived.Test.YtbcfkajcmbckbaaGreatDoorPA
import Derived.Test.YtbcfkajcmbckbaaGreatDoorPD
/-! SchemaRest's region that takes its argument apart. -/
namespace Go.Proofs.YtbcfkajcmbckbaaGreatDoor
open Go Go.RowKit

structure AC where
  a0 : Act
  W : World
  rb : Nat
  p : V5
  v : V5
  s : ByteArray
  x : V5
structure ACok (C : AC) : Prop where
  sz : 30 ≤ C.a0.tmps.size
  t1 : C.a0.tmps[1]? = some (.pointer (some ⟨C.rb, 0, none⟩))
  c0 : C.W.cell? ⟨C.rb, 0, none⟩ = some (.int .i64 C.p.k)
  c1 : C.W.cell? ⟨C.rb, 1, none⟩ = some (.int .i64 C.p.x)
  c2 : C.W.cell? ⟨C.rb, 2, none⟩ = some (.string C.p.s)
  c3 : C.W.cell? ⟨C.rb, 3, none⟩ = some (.slice C.p.an C.p.ln C.p.cn)
  c4 : C.W.cell? ⟨C.rb, 4, none⟩ = some (.slice C.p.ai C.p.li C.p.ci)
  c5 : C.W.cell? ⟨C.rb, 5, none⟩ = some (.int .i64 C.v.k)
  c6 : C.W.cell? ⟨C.rb, 6, none⟩ = some (.int .i64 C.v.x)
  c7 : C.W.cell? ⟨C.rb, 7, none⟩ = some (.string C.v.s)
  c8 : C.W.cell? ⟨C.rb, 8, none⟩ = some (.slice C.v.an C.v.ln C.v.cn)
  c9 : C.W.cell? ⟨C.rb, 9, none⟩ = some (.slice C.v.ai C.v.li C.v.ci)
  c10 : C.W.cell? ⟨C.rb, 10, none⟩ = some (.string C.s)
  c11 : C.W.cell? ⟨C.rb, 11, none⟩ = some (.int .i64 C.x.k)
  c12 : C.W.cell? ⟨C.rb, 12, none⟩ = some (.int .i64 C.x.x)
  c13 : C.W.cell? ⟨C.rb, 13, none⟩ = some (.string C.x.s)
  c14 : C.W.cell? ⟨C.rb, 14, none⟩ = some (.slice C.x.an C.x.ln C.x.cn)
  c15 : C.W.cell? ⟨C.rb, 15, none⟩ = some (.slice C.x.ai C.x.li C.x.ci)
def slotA (j : Nat) : Nat := [22, 23, 24, 25, 26, 27, 28, 29, 3, 4, 6, 3, 4, 5, 6].getD j 0
def sortA (j : Nat) : Nat := [0, 0, 0, 0, 0, 0, 0, 0, 1, 2, 3, 1, 2, 0, 3].getD j 0
def deadA (j : Nat) : List Nat := if j = 8 then [11] else if j = 9 then [12] else if j = 10 then [14] else []
def preA (j : Nat) : List Nat := if j = 11 then [8] else if j = 12 then [9] else if j = 14 then [10] else []
abbrev tsA : List Nat := [22, 23, 24, 25, 26, 27, 28, 29, 3, 4, 6, 5]
def FldA (C : AC) (tag : Nat → Nat) (j : Nat) (T : Nat → Option Value) (w : World) : Prop :=
  match j with
  | 0 => T 22 = some (.pointer (some ⟨C.rb, 0, none⟩))
  | 1 => T 23 = some C.p.v
  | 2 => T 24 = some (.pointer (some ⟨C.rb, 5, none⟩))
  | 3 => T 25 = some C.v.v
  | 4 => T 26 = some (.pointer (some ⟨C.rb, 10, none⟩))
  | 5 => T 27 = some (.string C.s)
  | 6 => T 28 = some (.pointer (some ⟨C.rb, 11, none⟩))
  | 7 => T 29 = some C.x.v
  | 8 => ∃ b, T 3 = some (.pointer (some ⟨b, 0, none⟩)) ∧ w.heap[b]? = some (.cells #[.int .i64 0, .int .i64 0, .string ⟨#[]⟩, .slice none 0 0, .slice none 0 0] 25 (0, 0)) ∧ OwnB C.W.heap.size tag w 1 b
  | 9 => ∃ b, T 4 = some (.pointer (some ⟨b, 0, none⟩)) ∧ w.heap[b]? = some (.cells #[.int .i64 0, .int .i64 0, .string ⟨#[]⟩, .slice none 0 0, .slice none 0 0] 25 (0, 0)) ∧ OwnB C.W.heap.size tag w 2 b
  | 10 => ∃ b, T 6 = some (.pointer (some ⟨b, 0, none⟩)) ∧ w.heap[b]? = some (.cells #[.int .i64 0, .int .i64 0, .string ⟨#[]⟩, .slice none 0 0, .slice none 0 0] 25 (0, 0)) ∧ OwnB C.W.heap.size tag w 3 b
  | 11 => ∃ b, T 3 = some (.pointer (some ⟨b, 0, none⟩)) ∧ w.heap[b]? = some (C.p.obj 25) ∧ OwnB C.W.heap.size tag w 1 b
  | 12 => ∃ b, T 4 = some (.pointer (some ⟨b, 0, none⟩)) ∧ w.heap[b]? = some (C.v.obj 25) ∧ OwnB C.W.heap.size tag w 2 b
  | 13 => T 5 = some (.string C.s)
  | 14 => ∃ b, T 6 = some (.pointer (some ⟨b, 0, none⟩)) ∧ w.heap[b]? = some (C.x.obj 25) ∧ OwnB C.W.heap.size tag w 3 b
  | _ => True
theorem FldA.keep {C : AC} {tag tag' : Nat → Nat} {w w' : World} {k : Nat} (hF : Fr (fun b => tag b = k ∧ C.W.heap.size ≤ b) w w') (ht : ∀ b, b < w.heap.size → tag' b = tag b) {T T' : Nat → Option Value} (j : Nat) (hk : k = 0 ∨ k ≠ sortA j) (hT : T' (slotA j) = T (slotA j)) (h : FldA C tag j T w) : FldA C tag' j T' w' := by
  have hs := hF.size
  rcases j with _ | _ | _ | _ | _ | _ | _ | _ | _ | _ | _ | _ | _ | _ | _ | j
  · have e : T' 22 = T 22 := hT
    exact e.trans h
  · have e : T' 23 = T 23 := hT
    exact e.trans h
  · have e : T' 24 = T 24 := hT
    exact e.trans h
  · have e : T' 25 = T 25 := hT
    exact e.trans h
  · have e : T' 26 = T 26 := hT
    exact e.trans h
  · have e : T' 27 = T 27 := hT
    exact e.trans h
  · have e : T' 28 = T 28 := hT
    exact e.trans h
  · have e : T' 29 = T 29 := hT
    exact e.trans h
  · have e : T' 3 = T 3 := hT
    have hk' : k ≠ 1 := by have h' : k = 0 ∨ k ≠ 1 := hk; omega
    obtain ⟨b, h1, h2, h3⟩ := h
    exact ⟨b, e.trans h1, (h3.kept hF hk').trans h2, h3.next hs ht⟩
  · have e : T' 4 = T 4 := hT
    have hk' : k ≠ 2 := by have h' : k = 0 ∨ k ≠ 2 := hk; omega
    obtain ⟨b, h1, h2, h3⟩ := h
    exact ⟨b, e.trans h1, (h3.kept hF hk').trans h2, h3.next hs ht⟩
  · have e : T' 6 = T 6 := hT
    have hk' : k ≠ 3 := by have h' : k = 0 ∨ k ≠ 3 := hk; omega
    obtain ⟨b, h1, h2, h3⟩ := h
    exact ⟨b, e.trans h1, (h3.kept hF hk').trans h2, h3.next hs ht⟩
  · have e : T' 3 = T 3 := hT
    have hk' : k ≠ 1 := by have h' : k = 0 ∨ k ≠ 1 := hk; omega
    obtain ⟨b, h1, h2, h3⟩ := h
    exact ⟨b, e.trans h1, (h3.kept hF hk').trans h2, h3.next hs ht⟩
  · have e : T' 4 = T 4 := hT
    have hk' : k ≠ 2 := by have h' : k = 0 ∨ k ≠ 2 := hk; omega
    obtain ⟨b, h1, h2, h3⟩ := h
    exact ⟨b, e.trans h1, (h3.kept hF hk').trans h2, h3.next hs ht⟩
  · have e : T' 5 = T 5 := hT
    exact e.trans h
  · have e : T' 6 = T 6 := hT
    have hk' : k ≠ 3 := by have h' : k = 0 ∨ k ≠ 3 := hk; omega
    obtain ⟨b, h1, h2, h3⟩ := h
    exact ⟨b, e.trans h1, (h3.kept hF hk').trans h2, h3.next hs ht⟩
  · trivial
def RestA (C : AC) : (Nat → Bool) → Act → World → Prop := GIx C.W C.a0 tsA (FldA C) deadA preA
theorem slotA_eq : ∀ i, i < 15 → ∀ j, j < 15 → (i ≠ 11 ∧ i ≠ 12 ∧ i ≠ 14 ∧ j ≠ i ∧ slotA j = slotA i) → i ∈ preA j := by
  intro i hi
  rcases i with _ | _ | _ | _ | _ | _ | _ | _ | _ | _ | _ | _ | _ | _ | _ | i
  all_goals first | omega | decide
theorem slotA_mem : ∀ i, i < 15 → slotA i ∈ tsA := by decide
theorem slotA_lt : ∀ i, i < 15 → slotA i < 30 := by decide
theorem sortA_eq : ∀ i, (i = 11 ∨ i = 12 ∨ i = 14) → ∀ j, j < 15 → j ≠ i → sortA j = sortA i → i ∈ deadA j := by
  intro i hi
  rcases hi with rfl | rfl | rfl <;> decide
theorem GA.put {C : AC} (hC : ACok C) {tag tag' : Nat → Nat} {d : Nat → Bool} {a : Act} {w w' : World} (h : GI C.W C.a0 tsA (FldA C) deadA preA tag d a w) (i : Nat) (v : Value) (hd : d i = false) (hi : i < 15 ∧ i ≠ 11 ∧ i ≠ 12 ∧ i ≠ 14) (hF : Fr (fun b => tag b = 0 ∧ C.W.heap.size ≤ b) w w') (ht : ∀ b, b < w.heap.size → tag' b = tag b)
    (hpre : ∀ m ∈ preA i, d m = true) (hnew : ∀ T : Nat → Option Value, T (slotA i) = some v → FldA C tag' i T w') : RestA C (fun j => d j || j == i) (a.put (some (slotA i)) v) w' := by
  have hsz : slotA i < a.tmps.size := by
    rw [h.sl.sz]
    have := hC.sz
    have := slotA_lt i hi.1
    omega
  refine GI.next h i 0 hF (h.sl.put (slotA_mem i hi.1) v) (fun j hj hdj hp _ hf => ?_) hpre (hnew _ (put_same hsz v))
  by_cases hj15 : j < 15
  · refine FldA.keep hF ht j (.inl rfl) (put_other (fun e => ?_) v) hf
    have := hp i (slotA_eq i hi.1 j hj15 ⟨hi.2.1, hi.2.2.1, hi.2.2.2, hj, e.symm⟩)
    rw [hd] at this
    cases this
  · obtain ⟨m, rfl⟩ : ∃ m, j = m + 15 := ⟨j - 15, by omega⟩
    trivial
theorem GA.set {C : AC} {tag : Nat → Nat} {d : Nat → Bool} {a : Act} {w w' : World} (h : GI C.W C.a0 tsA (FldA C) deadA preA tag d a w) (i : Nat) (hi : i = 11 ∨ i = 12 ∨ i = 14) (hF : Fr (fun b => tag b = sortA i ∧ C.W.heap.size ≤ b) w w') (hpre : ∀ m ∈ preA i, d m = true) (hnew : FldA C tag i (fun t => a.tmps[t]?) w') : RestA C (fun j => d j || j == i) a w' := by
  refine GI.next h i (sortA i) hF h.sl (fun j hj hdj hp hm hf => ?_) hpre hnew
  by_cases hj15 : j < 15
  · refine FldA.keep hF (fun _ _ => rfl) j ?_ rfl hf
    by_cases e : sortA i = sortA j
    · exact absurd rfl (hm i (sortA_eq i hi j hj15 hj e.symm))
    · exact .inr e
  · obtain ⟨m, rfl⟩ : ∃ m, j = m + 15 := ⟨j - 15, by omega⟩
    trivial
set_option maxHeartbeats 1000000 in
set_option maxRecDepth 100000 in
theorem first_step0 {C : AC} (hC : ACok C) {ops : Array Oper} {Q : Exit → Act → World → Prop} (ho : ops[0]? = some { dst := some 22, op := Op.fieldAddr 27 (Operand.tmp 1) 0, type := 0, pos := "law.go:163", after := #[], guard := none }) {d : Nat → Bool} {a : Act} {w : World} (hd : d 0 = false)  (hI : RestA C d a w) : wpOp Tryz.prog ops Q 0 (RestA C (fun j => d j || j == 0)) a w := by
  have _ := hC
  obtain ⟨tag, hI⟩ := hI
  unfold wpOp
  rw [ho]
  simp only [Region.wanted, if_true]
  left
  have e1 : a.tmps[1]? = some (.pointer (some ⟨C.rb, 0, none⟩)) := (hI.sl.eq 1 (by decide)).trans hC.t1
  unfold Oper.wp
  go_simp
  exact GA.put hC hI (tag' := tag) 0 (.pointer (some ⟨C.rb, 0, none⟩)) hd (by decide) (Fr.refl _ w) (fun _ _ => rfl) (fun m hm => by simp [preA] at hm) (fun T q1 => q1)
set_option maxHeartbeats 1000000 in
set_option maxRecDepth 100000 in
theorem first_step2 {C : AC} (hC : ACok C) {ops : Array Oper} {Q : Exit → Act → World → Prop} (ho : ops[2]? = some { dst := some 24, op := Op.fieldAddr 27 (Operand.tmp 1) 1, type := 0, pos := "law.go:163", after := #[{ on := 11, ground := Ground.gcOnly Departure.lateStores }], guard := none }) {d : Nat → Bool} {a : Act} {w : World} (hd : d 2 = false)  (hI : RestA C d a w) : wpOp Tryz.prog ops Q 2 (RestA C (fun j => d j || j == 2)) a w := by
  have _ := hC
  obtain ⟨tag, hI⟩ := hI
  unfold wpOp
  rw [ho]
  simp only [Region.wanted, if_true]
  left
  have e1 : a.tmps[1]? = some (.pointer (some ⟨C.rb, 0, none⟩)) := (hI.sl.eq 1 (by decide)).trans hC.t1
  unfold Oper.wp
  go_simp
  exact GA.put hC hI (tag' := tag) 2 (.pointer (some ⟨C.rb, 5, none⟩)) hd (by decide) (Fr.refl _ w) (fun _ _ => rfl) (fun m hm => by simp [preA] at hm) (fun T q1 => q1)
set_option maxHeartbeats 1000000 in
set_option maxRecDepth 100000 in
theorem first_step4 {C : AC} (hC : ACok C) {ops : Array Oper} {Q : Exit → Act → World → Prop} (ho : ops[4]? = some { dst := some 26, op := Op.fieldAddr 27 (Operand.tmp 1) 2, type := 0, pos := "law.go:163", after := #[{ on := 12, ground := Ground.gcOnly Departure.lateStores }], guard := none }) {d : Nat → Bool} {a : Act} {w : World} (hd : d 4 = false)  (hI : RestA C d a w) : wpOp Tryz.prog ops Q 4 (RestA C (fun j => d j || j == 4)) a w := by
  have _ := hC
  obtain ⟨tag, hI⟩ := hI
  unfold wpOp
  rw [ho]
  simp only [Region.wanted, if_true]
  left
  have e1 : a.tmps[1]? = some (.pointer (some ⟨C.rb, 0, none⟩)) := (hI.sl.eq 1 (by decide)).trans hC.t1
  unfold Oper.wp
  go_simp
  exact GA.put hC hI (tag' := tag) 4 (.pointer (some ⟨C.rb, 10, none⟩)) hd (by decide) (Fr.refl _ w) (fun _ _ => rfl) (fun m hm => by simp [preA] at hm) (fun T q1 => q1)
set_option maxHeartbeats 1000000 in
set_option maxRecDepth 100000 in
theorem first_step6 {C : AC} (hC : ACok C) {ops : Array Oper} {Q : Exit → Act → World → Prop} (ho : ops[6]? = some { dst := some 28, op := Op.fieldAddr 27 (Operand.tmp 1) 3, type := 0, pos := "law.go:163", after := #[{ on := 13, ground := Ground.gcOnly Departure.lateStores }], guard := none }) {d : Nat → Bool} {a : Act} {w : World} (hd : d 6 = false)  (hI : RestA C d a w) : wpOp Tryz.prog ops Q 6 (RestA C (fun j => d j || j == 6)) a w := by
  have _ := hC
  obtain ⟨tag, hI⟩ := hI
  unfold wpOp
  rw [ho]
  simp only [Region.wanted, if_true]
  left
  have e1 : a.tmps[1]? = some (.pointer (some ⟨C.rb, 0, none⟩)) := (hI.sl.eq 1 (by decide)).trans hC.t1
  unfold Oper.wp
  go_simp
  exact GA.put hC hI (tag' := tag) 6 (.pointer (some ⟨C.rb, 11, none⟩)) hd (by decide) (Fr.refl _ w) (fun _ _ => rfl) (fun m hm => by simp [preA] at hm) (fun T q1 => q1)
set_option maxHeartbeats 1000000 in
set_option maxRecDepth 100000 in
theorem first_step1 {C : AC} (hC : ACok C) {ops : Array Oper} {Q : Exit → Act → World → Prop} (ho : ops[1]? = some { dst := some 23, op := Op.load 25 (Operand.tmp 22), type := 25, pos := "law.go:163", after := #[{ on := 0, ground := Ground.data }], guard := none }) {d : Nat → Bool} {a : Act} {w : World} (hd : d 1 = false) (h0 : d 0 = true) (hI : RestA C d a w) : wpOp Tryz.prog ops Q 1 (RestA C (fun j => d j || j == 1)) a w := by
  have _ := hC
  obtain ⟨tag, hI⟩ := hI
  unfold wpOp
  rw [ho]
  simp only [Region.wanted, if_true]
  left
  have e1 : a.tmps[22]? = _ := hI.f 0 h0 (fun m hm => by simp [deadA] at hm)
  have c0 := stay hI.bel hC.c0
  have c1 := stay hI.bel hC.c1
  have c2 := stay hI.bel hC.c2
  have c3 := stay hI.bel hC.c3
  have c4 := stay hI.bel hC.c4
  unfold Oper.wp
  go_simp
  exact GA.put hC hI (tag' := tag) 1 (C.p.v) hd (by decide) (Fr.refl _ w) (fun _ _ => rfl) (fun m hm => by simp [preA] at hm) (fun T q1 => q1)
set_option maxHeartbeats 1000000 in
set_option maxRecDepth 100000 in
theorem first_step3 {C : AC} (hC : ACok C) {ops : Array Oper} {Q : Exit → Act → World → Prop} (ho : ops[3]? = some { dst := some 25, op := Op.load 25 (Operand.tmp 24), type := 25, pos := "law.go:163", after := #[{ on := 2, ground := Ground.data }, { on := 11, ground := Ground.gcOnly Departure.lateStores }], guard := none }) {d : Nat → Bool} {a : Act} {w : World} (hd : d 3 = false) (h2 : d 2 = true) (hI : RestA C d a w) : wpOp Tryz.prog ops Q 3 (RestA C (fun j => d j || j == 3)) a w := by
  have _ := hC
  obtain ⟨tag, hI⟩ := hI
  unfold wpOp
  rw [ho]
  simp only [Region.wanted, if_true]
  left
  have e1 : a.tmps[24]? = _ := hI.f 2 h2 (fun m hm => by simp [deadA] at hm)
  have c5 := stay hI.bel hC.c5
  have c6 := stay hI.bel hC.c6
  have c7 := stay hI.bel hC.c7
  have c8 := stay hI.bel hC.c8
  have c9 := stay hI.bel hC.c9
  unfold Oper.wp
  go_simp
  exact GA.put hC hI (tag' := tag) 3 (C.v.v) hd (by decide) (Fr.refl _ w) (fun _ _ => rfl) (fun m hm => by simp [preA] at hm) (fun T q1 => q1)
set_option maxHeartbeats 1000000 in
set_option maxRecDepth 100000 in
theorem first_step5 {C : AC} (hC : ACok C) {ops : Array Oper} {Q : Exit → Act → World → Prop} (ho : ops[5]? = some { dst := some 27, op := Op.load 9 (Operand.tmp 26), type := 9, pos := "law.go:163", after := #[{ on := 4, ground := Ground.data }, { on := 12, ground := Ground.gcOnly Departure.lateStores }], guard := none }) {d : Nat → Bool} {a : Act} {w : World} (hd : d 5 = false) (h4 : d 4 = true) (hI : RestA C d a w) : wpOp Tryz.prog ops Q 5 (RestA C (fun j => d j || j == 5)) a w := by
  have _ := hC
  obtain ⟨tag, hI⟩ := hI
  unfold wpOp
  rw [ho]
  simp only [Region.wanted, if_true]
  left
  have e1 : a.tmps[26]? = _ := hI.f 4 h4 (fun m hm => by simp [deadA] at hm)
  have c10 := stay hI.bel hC.c10
  unfold Oper.wp
  go_simp
  exact GA.put hC hI (tag' := tag) 5 (.string C.s) hd (by decide) (Fr.refl _ w) (fun _ _ => rfl) (fun m hm => by simp [preA] at hm) (fun T q1 => q1)
set_option maxHeartbeats 1000000 in
set_option maxRecDepth 100000 in
theorem first_step7 {C : AC} (hC : ACok C) {ops : Array Oper} {Q : Exit → Act → World → Prop} (ho : ops[7]? = some { dst := some 29, op := Op.load 25 (Operand.tmp 28), type := 25, pos := "law.go:163", after := #[{ on := 6, ground := Ground.data }, { on := 13, ground := Ground.gcOnly Departure.lateStores }], guard := none }) {d : Nat → Bool} {a : Act} {w : World} (hd : d 7 = false) (h6 : d 6 = true) (hI : RestA C d a w) : wpOp Tryz.prog ops Q 7 (RestA C (fun j => d j || j == 7)) a w := by
  have _ := hC
  obtain ⟨tag, hI⟩ := hI
  unfold wpOp
  rw [ho]
  simp only [Region.wanted, if_true]
  left
  have e1 : a.tmps[28]? = _ := hI.f 6 h6 (fun m hm => by simp [deadA] at hm)
  have c11 := stay hI.bel hC.c11
  have c12 := stay hI.bel hC.c12
  have c13 := stay hI.bel hC.c13
  have c14 := stay hI.bel hC.c14
  have c15 := stay hI.bel hC.c15
  unfold Oper.wp
  go_simp
  exact GA.put hC hI (tag' := tag) 7 (C.x.v) hd (by decide) (Fr.refl _ w) (fun _ _ => rfl) (fun m hm => by simp [preA] at hm) (fun T q1 => q1)
set_option maxHeartbeats 1000000 in
set_option maxRecDepth 100000 in
theorem first_step8 {C : AC} (hC : ACok C) {ops : Array Oper} {Q : Exit → Act → World → Prop} (ho : ops[8]? = some { dst := some 3, op := Op.alloc 25, type := 0, pos := "law.go:163", after := #[], guard := none }) {d : Nat → Bool} {a : Act} {w : World} (hd : d 8 = false)  (hI : RestA C d a w) : wpOp Tryz.prog ops Q 8 (RestA C (fun j => d j || j == 8)) a w := by
  have _ := hC
  obtain ⟨tag, hI⟩ := hI
  unfold wpOp
  rw [ho]
  simp only [Region.wanted, if_true]
  left
  unfold Oper.wp
  go_simp
  exact GA.put hC hI (tag' := updT tag w.heap.size 1) 8 (.pointer (some ⟨w.heap.size, 0, none⟩)) hd (by decide) ((Fr.refl _ w).alloc _) updT_lt (fun m hm => by simp [preA] at hm) (fun T q1 => ⟨_, q1, heap_alloc_new w _, ⟨hI.bel.size, by rw [World.size_alloc]; omega, updT_new _ _ _⟩⟩)
set_option maxHeartbeats 1000000 in
set_option maxRecDepth 100000 in
theorem first_step9 {C : AC} (hC : ACok C) {ops : Array Oper} {Q : Exit → Act → World → Prop} (ho : ops[9]? = some { dst := some 4, op := Op.alloc 25, type := 0, pos := "law.go:163", after := #[], guard := none }) {d : Nat → Bool} {a : Act} {w : World} (hd : d 9 = false)  (hI : RestA C d a w) : wpOp Tryz.prog ops Q 9 (RestA C (fun j => d j || j == 9)) a w := by
  have _ := hC
  obtain ⟨tag, hI⟩ := hI
  unfold wpOp
  rw [ho]
  simp only [Region.wanted, if_true]
  left
  unfold Oper.wp
  go_simp
  exact GA.put hC hI (tag' := updT tag w.heap.size 2) 9 (.pointer (some ⟨w.heap.size, 0, none⟩)) hd (by decide) ((Fr.refl _ w).alloc _) updT_lt (fun m hm => by simp [preA] at hm) (fun T q1 => ⟨_, q1, heap_alloc_new w _, ⟨hI.bel.size, by rw [World.size_alloc]; omega, updT_new _ _ _⟩⟩)
set_option maxHeartbeats 1000000 in
set_option maxRecDepth 100000 in
theorem first_step10 {C : AC} (hC : ACok C) {ops : Array Oper} {Q : Exit → Act → World → Prop} (ho : ops[10]? = some { dst := some 6, op := Op.alloc 25, type := 0, pos := "law.go:163", after := #[], guard := none }) {d : Nat → Bool} {a : Act} {w : World} (hd : d 10 = false)  (hI : RestA C d a w) : wpOp Tryz.prog ops Q 10 (RestA C (fun j => d j || j == 10)) a w := by
  have _ := hC
  obtain ⟨tag, hI⟩ := hI
  unfold wpOp
  rw [ho]
  simp only [Region.wanted, if_true]
  left
  unfold Oper.wp
  go_simp
  exact GA.put hC hI (tag' := updT tag w.heap.size 3) 10 (.pointer (some ⟨w.heap.size, 0, none⟩)) hd (by decide) ((Fr.refl _ w).alloc _) updT_lt (fun m hm => by simp [preA] at hm) (fun T q1 => ⟨_, q1, heap_alloc_new w _, ⟨hI.bel.size, by rw [World.size_alloc]; omega, updT_new _ _ _⟩⟩)
set_option maxHeartbeats 1000000 in
set_option maxRecDepth 100000 in
theorem first_step11 {C : AC} (hC : ACok C) {ops : Array Oper} {Q : Exit → Act → World → Prop} (ho : ops[11]? = some { dst := none, op := Op.store 25 (Operand.tmp 3) (Operand.tmp 23), type := 0, pos := "law.go:163", after := #[{ on := 8, ground := Ground.data }, { on := 1, ground := Ground.data }, { on := 0, ground := Ground.phase }, { on := 1, ground := Ground.phase }, { on := 2, ground := Ground.textOnly Departure.lateStores }, { on := 3, ground := Ground.textOnly Departure.lateStores }, { on := 4, ground := Ground.textOnly Departure.lateStores }, { on := 5, ground := Ground.textOnly Departure.lateStores }, { on := 6, ground := Ground.textOnly Departure.lateStores }, { on := 7, ground := Ground.textOnly Departure.lateStores }, { on := 8, ground := Ground.phase }, { on := 9, ground := Ground.phase }, { on := 10, ground := Ground.phase }], guard := none }) {d : Nat → Bool} {a : Act} {w : World} (hd : d 11 = false) (h8 : d 8 = true) (h1 : d 1 = true) (hI : RestA C d a w) : wpOp Tryz.prog ops Q 11 (RestA C (fun j => d j || j == 11)) a w := by
  have _ := hC
  obtain ⟨tag, hI⟩ := hI
  unfold wpOp
  rw [ho]
  simp only [Region.wanted, if_true]
  left
  have e1 : a.tmps[23]? = _ := hI.f 1 h1 (fun m hm => by simp [deadA] at hm)
  unfold V5.v at e1
  obtain ⟨b, q4, hb, hO⟩ := hI.f 8 h8 (fun m hm => by simp [deadA] at hm; subst hm; exact hd)
  obtain ⟨y0, y1, y2, y3, y4, -⟩ := row_cells hb
  have yf : ∀ j, w.frozen? ⟨b, j, none⟩ = false := fun j => by simp [World.frozen?, hb]
  unfold Oper.wp
  go_simp
  have hp : Fr (fun b => tag b = sortA 11 ∧ C.W.heap.size ≤ b) w (((((w.setCell ⟨b, 0, none⟩ (.int .i64 C.p.k)).setCell ⟨b, 1, none⟩ (.int .i64 C.p.x)).setCell ⟨b, 2, none⟩ (.string C.p.s)).setCell ⟨b, 3, none⟩ (.slice C.p.an C.p.ln C.p.cn)).setCell ⟨b, 4, none⟩ (.slice C.p.ai C.p.li C.p.ci)) := (((((Fr.refl _ w).set _ _ (.inl ⟨hO.2.2, hO.1⟩)).set _ _ (.inl ⟨hO.2.2, hO.1⟩)).set _ _ (.inl ⟨hO.2.2, hO.1⟩)).set _ _ (.inl ⟨hO.2.2, hO.1⟩)).set _ _ (.inl ⟨hO.2.2, hO.1⟩)
  refine GA.set hI 11 (by decide) hp (fun m hm => by simp [preA] at hm; subst hm; exact h8) ⟨b, q4, ?_, hO.next hp.size (fun _ _ => rfl)⟩
  unfold V5.obj
  simp [World.setCell, Array.getElem?_modify, hb]
set_option maxHeartbeats 1000000 in
set_option maxRecDepth 100000 in
theorem first_step12 {C : AC} (hC : ACok C) {ops : Array Oper} {Q : Exit → Act → World → Prop} (ho : ops[12]? = some { dst := none, op := Op.store 25 (Operand.tmp 4) (Operand.tmp 25), type := 0, pos := "law.go:163", after := #[{ on := 9, ground := Ground.data }, { on := 3, ground := Ground.data }, { on := 11, ground := Ground.chain }, { on := 0, ground := Ground.phase }, { on := 1, ground := Ground.phase }, { on := 2, ground := Ground.phase }, { on := 3, ground := Ground.phase }, { on := 4, ground := Ground.textOnly Departure.lateStores }, { on := 5, ground := Ground.textOnly Departure.lateStores }, { on := 6, ground := Ground.textOnly Departure.lateStores }, { on := 7, ground := Ground.textOnly Departure.lateStores }, { on := 8, ground := Ground.phase }, { on := 9, ground := Ground.phase }, { on := 10, ground := Ground.phase }, { on := 11, ground := Ground.phase }], guard := none }) {d : Nat → Bool} {a : Act} {w : World} (hd : d 12 = false) (h9 : d 9 = true) (h3 : d 3 = true) (hI : RestA C d a w) : wpOp Tryz.prog ops Q 12 (RestA C (fun j => d j || j == 12)) a w := by
  have _ := hC
  obtain ⟨tag, hI⟩ := hI
  unfold wpOp
  rw [ho]
  simp only [Region.wanted, if_true]
  left
  have e1 : a.tmps[25]? = _ := hI.f 3 h3 (fun m hm => by simp [deadA] at hm)
  unfold V5.v at e1
  obtain ⟨b, q4, hb, hO⟩ := hI.f 9 h9 (fun m hm => by simp [deadA] at hm; subst hm; exact hd)
  obtain ⟨y0, y1, y2, y3, y4, -⟩ := row_cells hb
  have yf : ∀ j, w.frozen? ⟨b, j, none⟩ = false := fun j => by simp [World.frozen?, hb]
  unfold Oper.wp
  go_simp
  have hp : Fr (fun b => tag b = sortA 12 ∧ C.W.heap.size ≤ b) w (((((w.setCell ⟨b, 0, none⟩ (.int .i64 C.v.k)).setCell ⟨b, 1, none⟩ (.int .i64 C.v.x)).setCell ⟨b, 2, none⟩ (.string C.v.s)).setCell ⟨b, 3, none⟩ (.slice C.v.an C.v.ln C.v.cn)).setCell ⟨b, 4, none⟩ (.slice C.v.ai C.v.li C.v.ci)) := (((((Fr.refl _ w).set _ _ (.inl ⟨hO.2.2, hO.1⟩)).set _ _ (.inl ⟨hO.2.2, hO.1⟩)).set _ _ (.inl ⟨hO.2.2, hO.1⟩)).set _ _ (.inl ⟨hO.2.2, hO.1⟩)).set _ _ (.inl ⟨hO.2.2, hO.1⟩)
  refine GA.set hI 12 (by decide) hp (fun m hm => by simp [preA] at hm; subst hm; exact h9) ⟨b, q4, ?_, hO.next hp.size (fun _ _ => rfl)⟩
  unfold V5.obj
  simp [World.setCell, Array.getElem?_modify, hb]
set_option maxHeartbeats 1000000 in
set_option maxRecDepth 100000 in
theorem first_step14 {C : AC} (hC : ACok C) {ops : Array Oper} {Q : Exit → Act → World → Prop} (ho : ops[14]? = some { dst := none, op := Op.store 25 (Operand.tmp 6) (Operand.tmp 29), type := 0, pos := "law.go:163", after := #[{ on := 10, ground := Ground.data }, { on := 7, ground := Ground.data }, { on := 13, ground := Ground.chain }, { on := 0, ground := Ground.phase }, { on := 1, ground := Ground.phase }, { on := 2, ground := Ground.phase }, { on := 3, ground := Ground.phase }, { on := 4, ground := Ground.phase }, { on := 5, ground := Ground.phase }, { on := 6, ground := Ground.phase }, { on := 7, ground := Ground.phase }, { on := 8, ground := Ground.phase }, { on := 9, ground := Ground.phase }, { on := 10, ground := Ground.phase }, { on := 11, ground := Ground.phase }, { on := 12, ground := Ground.phase }, { on := 13, ground := Ground.phase }], guard := none }) {d : Nat → Bool} {a : Act} {w : World} (hd : d 14 = false) (h10 : d 10 = true) (h7 : d 7 = true) (hI : RestA C d a w) : wpOp Tryz.prog ops Q 14 (RestA C (fun j => d j || j == 14)) a w := by
  have _ := hC
  obtain ⟨tag, hI⟩ := hI
  unfold wpOp
  rw [ho]
  simp only [Region.wanted, if_true]
  left
  have e1 : a.tmps[29]? = _ := hI.f 7 h7 (fun m hm => by simp [deadA] at hm)
  unfold V5.v at e1
  obtain ⟨b, q4, hb, hO⟩ := hI.f 10 h10 (fun m hm => by simp [deadA] at hm; subst hm; exact hd)
  obtain ⟨y0, y1, y2, y3, y4, -⟩ := row_cells hb
  have yf : ∀ j, w.frozen? ⟨b, j, none⟩ = false := fun j => by simp [World.frozen?, hb]
  unfold Oper.wp
  go_simp
  have hp : Fr (fun b => tag b = sortA 14 ∧ C.W.heap.size ≤ b) w (((((w.setCell ⟨b, 0, none⟩ (.int .i64 C.x.k)).setCell ⟨b, 1, none⟩ (.int .i64 C.x.x)).setCell ⟨b, 2, none⟩ (.string C.x.s)).setCell ⟨b, 3, none⟩ (.slice C.x.an C.x.ln C.x.cn)).setCell ⟨b, 4, none⟩ (.slice C.x.ai C.x.li C.x.ci)) := (((((Fr.refl _ w).set _ _ (.inl ⟨hO.2.2, hO.1⟩)).set _ _ (.inl ⟨hO.2.2, hO.1⟩)).set _ _ (.inl ⟨hO.2.2, hO.1⟩)).set _ _ (.inl ⟨hO.2.2, hO.1⟩)).set _ _ (.inl ⟨hO.2.2, hO.1⟩)
  refine GA.set hI 14 (by decide) hp (fun m hm => by simp [preA] at hm; subst hm; exact h10) ⟨b, q4, ?_, hO.next hp.size (fun _ _ => rfl)⟩
  unfold V5.obj
  simp [World.setCell, Array.getElem?_modify, hb]
set_option maxHeartbeats 1000000 in
set_option maxRecDepth 100000 in
theorem first_step13 {C : AC} (hC : ACok C) {ops : Array Oper} {Q : Exit → Act → World → Prop} (ho : ops[13]? = some { dst := some 5, op := Op.assign (Operand.tmp 27), type := 9, pos := "law.go:163", after := #[{ on := 5, ground := Ground.data }, { on := 12, ground := Ground.chain }, { on := 0, ground := Ground.phase }, { on := 1, ground := Ground.phase }, { on := 2, ground := Ground.phase }, { on := 3, ground := Ground.phase }, { on := 4, ground := Ground.phase }, { on := 5, ground := Ground.phase }, { on := 6, ground := Ground.textOnly Departure.lateStores }, { on := 7, ground := Ground.textOnly Departure.lateStores }, { on := 8, ground := Ground.phase }, { on := 9, ground := Ground.phase }, { on := 10, ground := Ground.phase }, { on := 11, ground := Ground.phase }, { on := 12, ground := Ground.phase }], guard := none }) {d : Nat → Bool} {a : Act} {w : World} (hd : d 13 = false) (h5 : d 5 = true) (hI : RestA C d a w) : wpOp Tryz.prog ops Q 13 (RestA C (fun j => d j || j == 13)) a w := by
  have _ := hC
  obtain ⟨tag, hI⟩ := hI
  unfold wpOp
  rw [ho]
  simp only [Region.wanted, if_true]
  left
  have e1 : a.tmps[27]? = _ := hI.f 5 h5 (fun m hm => by simp [deadA] at hm)
  unfold Oper.wp
  go_simp
  exact GA.put hC hI (tag' := tag) 13 (.string C.s) hd (by decide) (Fr.refl _ w) (fun _ _ => rfl) (fun m hm => by simp [preA] at hm) (fun T q1 => q1)
/-- What the region leaves. -/
structure PostA (C : AC) (b3 b4 b6 : Nat) (w : World) : Prop where
  bel : Below C.W.heap.size C.W w
  p : w.heap[b3]? = some (C.p.obj 25)
  v : w.heap[b4]? = some (C.v.obj 25)
  x : w.heap[b6]? = some (C.x.obj 25)
theorem first_end {C : AC} (hC : ACok C) {d : Nat → Bool} {a : Act} {w : World} (hall : ∀ i, i < 15 → d i = true) (h : RestA C d a w) : ∃ v22 v23 v24 v25 v26 v27 v28 v29 b3 b4 b6, a = ((((((((((((C.a0.put (some 22) v22).put (some 23) v23).put (some 24) v24).put (some 25) v25).put (some 26) v26).put (some 27) v27).put (some 28) v28).put (some 29) v29).put (some 3) (.pointer (some ⟨b3, 0, none⟩))).put (some 4) (.pointer (some ⟨b4, 0, none⟩))).put (some 6) (.pointer (some ⟨b6, 0, none⟩))).put (some 5) (.string C.s)) ∧ PostA C b3 b4 b6 w := by
  obtain ⟨tag, h⟩ := h
  have hz := hC.sz
  have szp : ∀ (a : Act) t v, (a.put (some t) v).tmps.size = a.tmps.size := fun a t v => by simp [Act.put]
  have H := h.sl
  unfold tsA at H
  obtain ⟨v22, e22, H⟩ := sl_put H (by (try simp only [szp]); omega)
  obtain ⟨v23, e23, H⟩ := sl_put H (by (try simp only [szp]); omega)
  obtain ⟨v24, e24, H⟩ := sl_put H (by (try simp only [szp]); omega)
  obtain ⟨v25, e25, H⟩ := sl_put H (by (try simp only [szp]); omega)
  obtain ⟨v26, e26, H⟩ := sl_put H (by (try simp only [szp]); omega)
  obtain ⟨v27, e27, H⟩ := sl_put H (by (try simp only [szp]); omega)
  obtain ⟨v28, e28, H⟩ := sl_put H (by (try simp only [szp]); omega)
  obtain ⟨v29, e29, H⟩ := sl_put H (by (try simp only [szp]); omega)
  obtain ⟨v3, e3, H⟩ := sl_put H (by (try simp only [szp]); omega)
  obtain ⟨v4, e4, H⟩ := sl_put H (by (try simp only [szp]); omega)
  obtain ⟨v6, e6, H⟩ := sl_put H (by (try simp only [szp]); omega)
  obtain ⟨v5, e5, H⟩ := sl_put H (by (try simp only [szp]); omega)
  have ha := sl_nil H
  obtain ⟨b3, q3, r3, -⟩ := h.f 11 (hall 11 (by decide)) (fun m hm => by simp [deadA] at hm)
  obtain rfl : v3 = .pointer (some ⟨b3, 0, none⟩) := Option.some.inj (e3.symm.trans q3)
  obtain ⟨b4, q4, r4, -⟩ := h.f 12 (hall 12 (by decide)) (fun m hm => by simp [deadA] at hm)
  obtain rfl : v4 = .pointer (some ⟨b4, 0, none⟩) := Option.some.inj (e4.symm.trans q4)
  obtain ⟨b6, q6, r6, -⟩ := h.f 14 (hall 14 (by decide)) (fun m hm => by simp [deadA] at hm)
  obtain rfl : v6 = .pointer (some ⟨b6, 0, none⟩) := Option.some.inj (e6.symm.trans q6)
  have q5 : a.tmps[5]? = _ := h.f 13 (hall 13 (by decide)) (fun m hm => by simp [deadA] at hm)
  obtain rfl : v5 = .string C.s := Option.some.inj (e5.symm.trans q5)
  exact ⟨v22, v23, v24, v25, v26, v27, v28, v29, b3, b4, b6, ha, h.bel, r3, r4, r6⟩
set_option maxHeartbeats 2000000 in
set_option maxRecDepth 100000 in
theorem first_region {C : AC} (hC : ACok C) {Q : Exit → Act → World → Prop} {w0 : World} (hW : C.W = w0.drew)
    (fin : ∀ v22 v23 v24 v25 v26 v27 v28 v29 b3 b4 b6 w, PostA C b3 b4 b6 w → Q .normal ((((((((((((C.a0.put (some 22) v22).put (some 23) v23).put (some 24) v24).put (some 25) v25).put (some 26) v26).put (some 27) v27).put (some 28) v28).put (some 29) v29).put (some 3) (.pointer (some ⟨b3, 0, none⟩))).put (some 4) (.pointer (some ⟨b4, 0, none⟩))).put (some 6) (.pointer (some ⟨b6, 0, none⟩))).put (some 5) (.string C.s)) w) :
    (Code.region 1 #[{ dst := some 22, op := Op.fieldAddr 27 (Operand.tmp 1) 0, type := 0, pos := "law.go:163", after := #[], guard := none }, { dst := some 23, op := Op.load 25 (Operand.tmp 22), type := 25, pos := "law.go:163", after := #[{ on := 0, ground := Ground.data }], guard := none }, { dst := some 24, op := Op.fieldAddr 27 (Operand.tmp 1) 1, type := 0, pos := "law.go:163", after := #[{ on := 11, ground := Ground.gcOnly Departure.lateStores }], guard := none }, { dst := some 25, op := Op.load 25 (Operand.tmp 24), type := 25, pos := "law.go:163", after := #[{ on := 2, ground := Ground.data }, { on := 11, ground := Ground.gcOnly Departure.lateStores }], guard := none }, { dst := some 26, op := Op.fieldAddr 27 (Operand.tmp 1) 2, type := 0, pos := "law.go:163", after := #[{ on := 12, ground := Ground.gcOnly Departure.lateStores }], guard := none }, { dst := some 27, op := Op.load 9 (Operand.tmp 26), type := 9, pos := "law.go:163", after := #[{ on := 4, ground := Ground.data }, { on := 12, ground := Ground.gcOnly Departure.lateStores }], guard := none }, { dst := some 28, op := Op.fieldAddr 27 (Operand.tmp 1) 3, type := 0, pos := "law.go:163", after := #[{ on := 13, ground := Ground.gcOnly Departure.lateStores }], guard := none }, { dst := some 29, op := Op.load 25 (Operand.tmp 28), type := 25, pos := "law.go:163", after := #[{ on := 6, ground := Ground.data }, { on := 13, ground := Ground.gcOnly Departure.lateStores }], guard := none }, { dst := some 3, op := Op.alloc 25, type := 0, pos := "law.go:163", after := #[], guard := none }, { dst := some 4, op := Op.alloc 25, type := 0, pos := "law.go:163", after := #[], guard := none }, { dst := some 6, op := Op.alloc 25, type := 0, pos := "law.go:163", after := #[], guard := none }, { dst := none, op := Op.store 25 (Operand.tmp 3) (Operand.tmp 23), type := 0, pos := "law.go:163", after := #[{ on := 8, ground := Ground.data }, { on := 1, ground := Ground.data }, { on := 0, ground := Ground.phase }, { on := 1, ground := Ground.phase }, { on := 2, ground := Ground.textOnly Departure.lateStores }, { on := 3, ground := Ground.textOnly Departure.lateStores }, { on := 4, ground := Ground.textOnly Departure.lateStores }, { on := 5, ground := Ground.textOnly Departure.lateStores }, { on := 6, ground := Ground.textOnly Departure.lateStores }, { on := 7, ground := Ground.textOnly Departure.lateStores }, { on := 8, ground := Ground.phase }, { on := 9, ground := Ground.phase }, { on := 10, ground := Ground.phase }], guard := none }, { dst := none, op := Op.store 25 (Operand.tmp 4) (Operand.tmp 25), type := 0, pos := "law.go:163", after := #[{ on := 9, ground := Ground.data }, { on := 3, ground := Ground.data }, { on := 11, ground := Ground.chain }, { on := 0, ground := Ground.phase }, { on := 1, ground := Ground.phase }, { on := 2, ground := Ground.phase }, { on := 3, ground := Ground.phase }, { on := 4, ground := Ground.textOnly Departure.lateStores }, { on := 5, ground := Ground.textOnly Departure.lateStores }, { on := 6, ground := Ground.textOnly Departure.lateStores }, { on := 7, ground := Ground.textOnly Departure.lateStores }, { on := 8, ground := Ground.phase }, { on := 9, ground := Ground.phase }, { on := 10, ground := Ground.phase }, { on := 11, ground := Ground.phase }], guard := none }, { dst := some 5, op := Op.assign (Operand.tmp 27), type := 9, pos := "law.go:163", after := #[{ on := 5, ground := Ground.data }, { on := 12, ground := Ground.chain }, { on := 0, ground := Ground.phase }, { on := 1, ground := Ground.phase }, { on := 2, ground := Ground.phase }, { on := 3, ground := Ground.phase }, { on := 4, ground := Ground.phase }, { on := 5, ground := Ground.phase }, { on := 6, ground := Ground.textOnly Departure.lateStores }, { on := 7, ground := Ground.textOnly Departure.lateStores }, { on := 8, ground := Ground.phase }, { on := 9, ground := Ground.phase }, { on := 10, ground := Ground.phase }, { on := 11, ground := Ground.phase }, { on := 12, ground := Ground.phase }], guard := none }, { dst := none, op := Op.store 25 (Operand.tmp 6) (Operand.tmp 29), type := 0, pos := "law.go:163", after := #[{ on := 10, ground := Ground.data }, { on := 7, ground := Ground.data }, { on := 13, ground := Ground.chain }, { on := 0, ground := Ground.phase }, { on := 1, ground := Ground.phase }, { on := 2, ground := Ground.phase }, { on := 3, ground := Ground.phase }, { on := 4, ground := Ground.phase }, { on := 5, ground := Ground.phase }, { on := 6, ground := Ground.phase }, { on := 7, ground := Ground.phase }, { on := 8, ground := Ground.phase }, { on := 9, ground := Ground.phase }, { on := 10, ground := Ground.phase }, { on := 11, ground := Ground.phase }, { on := 12, ground := Ground.phase }, { on := 13, ground := Ground.phase }], guard := none }] true).wp Tryz.prog Q C.a0 w0 := by
  refine wp_region_inv (by kernel_rfl) ?_ (RestA C) ⟨fun _ => 0, Sl.refl _ _, by rw [hW]; exact Below.refl _ _, fun j h => (by cases h), fun j h => (by cases h)⟩ ?_ ?_
  · intro i o ho e he hb
    rcases i with _ | _ | _ | _ | _ | _ | _ | _ | _ | _ | _ | _ | _ | _ | _ | i
    all_goals first | (obtain rfl := Option.some.inj ho; simp at he; done) | (obtain rfl := Option.some.inj ho; simp at he; (repeat' rcases he with rfl | he) <;> first | decide | exact absurd hb (by decide) | (subst he; first | decide | exact absurd hb (by decide))) | (simp at ho)
  · intro i o ho d a w hd hdeps hI
    rcases i with _ | _ | _ | _ | _ | _ | _ | _ | _ | _ | _ | _ | _ | _ | _ | i
    · obtain rfl := Option.some.inj ho
      exact first_step0 hC rfl hd  hI
    · obtain rfl := Option.some.inj ho
      exact first_step1 hC rfl hd (hdeps ⟨0, .data⟩ (by simp) rfl) hI
    · obtain rfl := Option.some.inj ho
      exact first_step2 hC rfl hd  hI
    · obtain rfl := Option.some.inj ho
      exact first_step3 hC rfl hd (hdeps ⟨2, .data⟩ (by simp) rfl) hI
    · obtain rfl := Option.some.inj ho
      exact first_step4 hC rfl hd  hI
    · obtain rfl := Option.some.inj ho
      exact first_step5 hC rfl hd (hdeps ⟨4, .data⟩ (by simp) rfl) hI
    · obtain rfl := Option.some.inj ho
      exact first_step6 hC rfl hd  hI
    · obtain rfl := Option.some.inj ho
      exact first_step7 hC rfl hd (hdeps ⟨6, .data⟩ (by simp) rfl) hI
    · obtain rfl := Option.some.inj ho
      exact first_step8 hC rfl hd  hI
    · obtain rfl := Option.some.inj ho
      exact first_step9 hC rfl hd  hI
    · obtain rfl := Option.some.inj ho
      exact first_step10 hC rfl hd  hI
    · obtain rfl := Option.some.inj ho
      exact first_step11 hC rfl hd (hdeps ⟨8, .data⟩ (by simp) rfl) (hdeps ⟨1, .data⟩ (by simp) rfl) hI
    · obtain rfl := Option.some.inj ho
      exact first_step12 hC rfl hd (hdeps ⟨9, .data⟩ (by simp) rfl) (hdeps ⟨3, .data⟩ (by simp) rfl) hI
    · obtain rfl := Option.some.inj ho
      exact first_step13 hC rfl hd (hdeps ⟨5, .data⟩ (by simp) rfl) hI
    · obtain rfl := Option.some.inj ho
      exact first_step14 hC rfl hd (hdeps ⟨10, .data⟩ (by simp) rfl) (hdeps ⟨7, .data⟩ (by simp) rfl) hI
    · simp at ho
  · intro d a w hall hI
    obtain ⟨v22, v23, v24, v25, v26, v27, v28, v29, b3, b4, b6, rfl, hp⟩ := first_end hC (fun i hi => hall i (by simpa using hi)) hI
    exact fin _ _ _ _ _ _ _ _ _ _ _ _ hp
end Go.Proofs.YtbcfkajcmbckbaaGreatDoor
