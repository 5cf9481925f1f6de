import Derived.Test.YthgnkhpomhcdkaaGreatDoorV4
import Derived.BigRegion
import Derived.Deep.MidRow
import Derived.Deep.AppendSrc
import Derived.Deep.AppendLies
import Derived.Laws.OwnMore
import Derived.Deep.DeepMust
/-! Frames; a slice that is appended to. -/
namespace Go.Proofs.YthgnkhpomhcdkaaGreatDoor
open Go Go.RowKit
/-- All that was there is as it was, but for the blocks of S. -/
structure Fr (S : Nat → Prop) (w w' : World) : Prop where
  os : w'.os = w.os
  tape : w'.tape = w.tape
  output : w'.output = w.output
  size : w.heap.size ≤ w'.heap.size
  block : ∀ k, k < w.heap.size → ¬ S k → w'.heap[k]? = w.heap[k]?
theorem Fr.refl (S : Nat → Prop) (w : World) : Fr S w w := ⟨rfl, rfl, rfl, Nat.le_refl _, fun _ _ _ => rfl⟩
theorem Fr.trans {S : Nat → Prop} {x y z : World} (h : Fr S x y) (k : Fr S y z) : Fr S x z :=
  ⟨k.os.trans h.os, k.tape.trans h.tape, k.output.trans h.output, Nat.le_trans h.size k.size, fun i hi hb => (k.block i (Nat.lt_of_lt_of_le hi h.size) hb).trans (h.block i hi hb)⟩
/-- What came behind may also change what was not yet there. -/
theorem Fr.next {S T : Nat → Prop} {x y z : World} (h : Fr S x y) (k : Fr T y z) (hT : ∀ i, T i → S i ∨ x.heap.size ≤ i) : Fr S x z :=
  ⟨k.os.trans h.os, k.tape.trans h.tape, k.output.trans h.output, Nat.le_trans h.size k.size, fun i hi hb => (k.block i (Nat.lt_of_lt_of_le hi h.size) (fun e => (hT i e).elim hb (fun h' => by omega))).trans (h.block i hi hb)⟩
theorem Fr.mono {S T : Nat → Prop} {x y : World} (h : Fr S x y) (hT : ∀ i, S i → T i ∨ x.heap.size ≤ i) : Fr T x y :=
  ⟨h.os, h.tape, h.output, h.size, fun i hi hb => h.block i hi (fun e => (hT i e).elim hb (fun h' => by omega))⟩
theorem Fr.of_below {S : Nat → Prop} {w w' : World} (h : Below w.heap.size w w') : Fr S w w' := ⟨h.os, h.tape, h.output, h.size, fun k hk _ => h.block k hk⟩
theorem Fr.alloc {S : Nat → Prop} {x w : World} (h : Fr S x w) (o : Obj) : Fr S x (w.alloc o) := h.trans (Fr.of_below ((Below.refl _ w).alloc (Nat.le_refl _) o))
theorem Fr.drewN {S : Nat → Prop} {x w : World} (h : Fr S x w) (n : Nat) : Fr S x (w.drewN n) := ⟨h.os, h.tape, h.output, h.size, h.block⟩
theorem Fr.drew {S : Nat → Prop} {x w : World} (h : Fr S x w) : Fr S x w.drew := ⟨h.os, h.tape, h.output, h.size, h.block⟩
theorem Fr.set {S : Nat → Prop} {x w : World} (h : Fr S x w) (p : Addr) (u : Value) (hp : S p.block ∨ x.heap.size ≤ p.block) : Fr S x (w.setCell p u) :=
  ⟨h.os, h.tape, h.output, by simpa [World.setCell] using h.size, fun k hk hs => (Below.heap_setCell _ _ _ _ (fun e => hp.elim (fun h' => hs (by rw [e]; exact h')) (fun h' => by omega))).trans (h.block k hk hs)⟩
theorem Fr.grown {S : Nat → Prop} {x w w' : World} {b : Option Nat} (h : Fr S x w) (k : w.grownBy w' b) (hb : ∀ g, b = some g → S g ∨ x.heap.size ≤ g) : Fr S x w' :=
  ⟨k.os.trans h.os, k.tape.trans h.tape, k.output.trans h.output, Nat.le_trans h.size k.size, fun i hi hs => (k.block i (Nat.lt_of_lt_of_le hi h.size) (fun e => (hb i e.symm).elim hs (fun h' => by omega))).trans (h.block i hi hs)⟩
theorem Fr.below {S : Nat → Prop} {x w : World} {B : Nat} (h : Fr S x w) (hB : B ≤ x.heap.size) (hS : ∀ i, S i → B ≤ i) : Below B x w := ⟨h.os, h.tape, h.output, h.size, fun k hk => h.block k (by omega) (fun e => by have := hS k e; omega)⟩
theorem Fr.cell {S : Nat → Prop} {x w : World} (h : Fr S x w) {p : Addr} {v : Value} (hc : x.cell? p = some v) (hS : ¬ S p.block) : w.cell? p = some v := (World.cell?_of_block (w := x) (h.block _ (lt_of_cell hc) hS)).trans hc
theorem Fr.to_below {S : Nat → Prop} {w w' : World} (h : Fr S w w') (hS : ∀ i, S i → w.heap.size ≤ i) : Below w.heap.size w w' := h.below (Nat.le_refl _) hS
theorem add_plain (b o i : Nat) : (⟨b, o, none⟩ : Addr).add i = ⟨b, o + i, none⟩ := by
  unfold Addr.add; split <;> simp_all
theorem setCells_heap (b : Nat) : (vs : List Value) → (o : Nat) → (w : World) → (k : Nat) → k ≠ b → (w.setCells b o vs).heap[k]? = w.heap[k]?
  | [], _, _, _, _ => rfl
  | v :: vs, o, w, k, h => by
    rw [World.setCells, setCells_heap b vs (o + 1) _ k h]
    exact Below.heap_setCell _ _ _ _ h
theorem setCells_size (b : Nat) : (vs : List Value) → (o : Nat) → (w : World) → (w.setCells b o vs).heap.size = w.heap.size
  | [], _, _ => rfl
  | v :: vs, o, w => by
    rw [World.setCells, setCells_size b vs (o + 1)]
    simp [World.setCell]
theorem setCells_rest (b : Nat) : (vs : List Value) → (o : Nat) → (w : World) → (w.setCells b o vs).os = w.os ∧ (w.setCells b o vs).tape = w.tape ∧ (w.setCells b o vs).output = w.output
  | [], _, _ => ⟨rfl, rfl, rfl⟩
  | v :: vs, o, w => by
    rw [World.setCells]
    obtain ⟨h1, h2, h3⟩ := setCells_rest b vs (o + 1) (w.setCell ⟨b, o, none⟩ v)
    exact ⟨h1.trans rfl, h2.trans rfl, h3.trans rfl⟩
theorem Fr.sets {S : Nat → Prop} {x w : World} (h : Fr S x w) (b o : Nat) (vs : List Value) (hp : S b ∨ x.heap.size ≤ b) : Fr S x (w.setCells b o vs) := by
  obtain ⟨h1, h2, h3⟩ := setCells_rest b vs o w
  exact ⟨h1.trans h.os, h2.trans h.tape, h3.trans h.output, by rw [setCells_size]; exact h.size, fun k hk hs => (setCells_heap b vs o w k (fun e => hp.elim (fun h' => hs (by rw [e]; exact h')) (fun h' => by omega))).trans (h.block k hk hs)⟩

/-- A slice in memory: its cells, and room up to its capacity that may be written. -/
structure Rw (w : World) (lo size : Nat) (a : Option Addr) (n cap : Nat) (xs : List Value) : Prop where
  len : xs.length = n * size
  le : n ≤ cap
  mx : cap ≤ maxLen
  pt : cap = 0 ∨ ∃ b o, a = some ⟨b, o, none⟩ ∧ lo ≤ b ∧ b < w.heap.size ∧ w.there b o (cap * size) ∧ w.rangeAt b o xs
/-- The block of a slice. -/
def blkOf (a : Option Addr) (b : Nat) : Prop := ∃ o s, a = some ⟨b, o, s⟩
theorem rangeAt_app {w : World} {b o : Nat} {xs ys : List Value} (h : w.rangeAt b o xs) (k : w.rangeAt b (o + xs.length) ys) : w.rangeAt b o (xs ++ ys) := fun j v hv => by
  rcases Nat.lt_or_ge j xs.length with hj | hj
  · rw [List.getElem?_append_left hj] at hv
    exact h j v hv
  · rw [List.getElem?_append_right hj] at hv
    have := k _ v hv
    rw [show o + xs.length + (j - xs.length) = o + j from by omega] at this
    exact this
theorem Rw.keep {w w' : World} {lo size : Nat} {a : Option Addr} {n cap : Nat} {xs : List Value} (h : Rw w lo size a n cap xs) (hs : w.heap.size ≤ w'.heap.size) (hk : ∀ b, blkOf a b → b < w.heap.size → w'.heap[b]? = w.heap[b]?) : Rw w' lo size a n cap xs := by
  refine ⟨h.len, h.le, h.mx, ?_⟩
  rcases h.pt with h0 | ⟨b, o, rfl, h1, h2, h3, h4⟩
  · exact .inl h0
  · have k := hk b ⟨o, none, rfl⟩ h2
    refine .inr ⟨b, o, rfl, h1, by omega, fun j hj => ?_, fun j v hv => ?_⟩
    · rw [World.cell?_of_block (w := w) (a := ⟨b, o + j, none⟩) k, World.frozen?_of_block (w := w) (a := ⟨b, o + j, none⟩) k]
      exact h3 j hj
    · rw [World.cell?_of_block (w := w) (a := ⟨b, o + j, none⟩) k]
      exact h4 j v hv
theorem Rw.below {w w' : World} {lo size : Nat} {a : Option Addr} {n cap : Nat} {xs : List Value} (h : Rw w lo size a n cap xs) (hb : Below w.heap.size w w') : Rw w' lo size a n cap xs := h.keep hb.size (fun b _ hl => hb.block b hl)
theorem Rw.nil (w : World) (lo size : Nat) (a : Option Addr) : Rw w lo size a 0 0 [] := ⟨by simp, Nat.le_refl _, by unfold maxLen; omega, .inl rfl⟩
theorem Rw.cell {w : World} {lo size : Nat} {a : Option Addr} {n cap : Nat} {xs : List Value} (h : Rw w lo size a n cap xs) {j : Nat} {u : Value} (hj : xs[j]? = some u) : ∃ b o, a = some ⟨b, o, none⟩ ∧ lo ≤ b ∧ w.cell? ⟨b, o + j, none⟩ = some u := by
  rcases h.pt with h0 | ⟨b, o, rfl, h1, h2, h3, h4⟩
  · have hl := (List.getElem?_eq_some_iff.1 hj).1
    have h5 := h.len
    have h6 := h.le
    have : n = 0 := by omega
    rw [this, Nat.zero_mul] at h5
    omega
  · exact ⟨b, o, rfl, h1, h4 j u hj⟩
theorem block_there (w : World) (b : Nat) (cs : Array Value) (t : TypeId) (h : w.heap[b]? = some (.cells cs t (0, 0))) (n : Nat) (hn : n ≤ cs.size) : w.there b 0 n := fun j hj => by
  rw [Nat.zero_add]
  constructor
  · rw [cell_of_row w b j cs t (0, 0) h]
    simp
    omega
  · simp [World.frozen?, h]
theorem block_range (w : World) (b : Nat) (cs : Array Value) (t : TypeId) (h : w.heap[b]? = some (.cells cs t (0, 0))) (xs : List Value) (hx : ∀ (j : Nat) (u : Value), xs[j]? = some u → cs[j]? = some u) : w.rangeAt b 0 xs := fun j u hj => by
  rw [Nat.zero_add, cell_of_row w b j cs t (0, 0) h]
  exact hx j u hj
section
variable {P : Program} (w : World)
/-- What append leaves. -/
structure Appd (w : World) (lo size : Nat) (a : Option Addr) (n m cap : Nat) (ys : List Value) (g o c : Nat) (w' : World) : Prop where
  row : Rw w' lo size (some ⟨g, o, none⟩) (n + m) c ys
  fr : Fr (fun b => blkOf a b ∧ n + m ≤ cap) w w'
  at' : (a = some ⟨g, o, none⟩ ∧ c = cap ∧ n + m ≤ cap) ∨ (g = w.heap.size ∧ o = 0 ∧ cap < n + m)
  lt : g < w'.heap.size
theorem run_append_rw (t tx ty e : TypeId) (i : TypeInfo) (z : Value) (size bytes : Nat) (ht : P.underlying t = some (.slice e)) (hi : P.info? e = some i) (hz : i.zero = some z)
    (hsize : i.size = size) (hby : i.bytes = bytes) (hzs : z.cells.size = size) (lo : Nat) (a : Option Addr) (n cap : Nat) (xs : List Value) (hlen : xs.length = n * size) (hle : n ≤ cap)
    (hmx : cap ≤ maxLen) (hrd : ∀ j u, xs[j]? = some u → ∃ b o, a = some ⟨b, o, none⟩ ∧ w.cell? ⟨b, o + j, none⟩ = some u) (x : Value) (m : Nat) (news : List Value) (hs : Src P size tx x m news w)
    (hroom : n + m ≤ cap → Rw w lo size a n cap xs)
    (hm : 0 < m) (h63 : n + m ≤ maxLen) (hbytes : (n + m) * bytes ≤ 140737488355328) (hbase : lo ≤ w.heap.size) :
    ∃ g o c w', (Builtin.append_ #[t, tx] ty #[.slice a n cap, x]).run P w = .ok (.slice (some ⟨g, o, none⟩) (n + m) c) w' ∧ Appd w lo size a n m cap (xs ++ news) g o c w' := by
  subst hsize
  subst hby
  have hl2 : (xs ++ news).length = (n + m) * i.size := by rw [List.length_append, hlen, hs.newsLen, Nat.add_mul]
  by_cases hr : n + m ≤ cap
  · have hR := hroom hr
    rcases hR.pt with h0 | ⟨b, o, rfl, h1, h2, h3, h4⟩
    · omega
    · have hfit : n * i.size + m * i.size ≤ cap * i.size := by rw [← Nat.add_mul]; exact Nat.mul_le_mul_right _ hr
      have hth : w.there b (o + n * i.size) news.length := fun j hj => by
        rw [hs.newsLen] at hj
        have := h3 (n * i.size + j) (by omega)
        rw [← Nat.add_assoc] at this
        exact this
      refine ⟨b, o, cap, _, run_append_room_src w t tx ty e i ht hi b o n cap x m news hs hr (fun j hj => (hth j hj).1) (fun j hj => (hth j hj).2), ⟨⟨hl2, hr, hmx, .inr ⟨b, o, rfl, h1, by rw [setCells_size]; exact h2, World.there_setCells h3 _ _ _, ?_⟩⟩, ?_, .inl ⟨rfl, rfl, hr⟩, by rw [setCells_size]; exact h2⟩⟩
      · refine rangeAt_app (World.rangeAt_setCells_apart h4 _ _ _ (.inr (.inl (by rw [hlen]; exact Nat.le_refl _)))) ?_
        rw [hlen]
        exact World.rangeAt_setCells_same w b _ news hth
      · exact (Fr.refl _ w).sets b _ _ (.inl ⟨⟨o, none, rfl⟩, hr⟩)
  · have hold : (Builtin.firstCells i.size n (.slice a n cap)).run P w.drew = .ok xs.toArray w.drew := by
      by_cases hx : xs = []
      · subst hx
        cases a with
        | none => exact run_firstCells_none w.drew i.size n n cap
        | some ad => exact run_firstCells_some w.drew i.size n ad n cap [] hlen (fun j v h => by simp at h)
      · have hp : 0 < xs.length := List.length_pos_iff.2 hx
        obtain ⟨b, o, rfl, -⟩ := hrd 0 _ (List.getElem?_eq_getElem hp)
        refine run_firstCells_some w.drew i.size n ⟨b, o, none⟩ n cap xs hlen (fun j v hv => ?_)
        obtain ⟨b', o', e1, h2⟩ := hrd j v hv
        cases e1
        rw [add_plain]
        simpa using h2
    have hge := grownCap_ge w (n + m) cap e
    have hcm : grownCap w (n + m) cap e ≤ maxLen := grownCap_le_maxLen w (n + m) cap e h63
    have hb := heap_alloc_new w.drew (.cells ((xs ++ news).toArray ++ Builtin.zeroCells z.cells (grownCap w (n + m) cap e - (n + m))) e)
    refine ⟨w.heap.size, 0, _, _, run_append_grow_src w t tx ty e i z ht hi hz a n cap xs hold x m news hs (by omega) (by unfold maxLen at h63; omega) (growslice_fits (by omega) hbytes), ⟨⟨hl2, hge, hcm, .inr ⟨w.heap.size, 0, rfl, hbase, by simp, ?_, ?_⟩⟩, ?_, .inr ⟨rfl, rfl, by omega⟩, by simp⟩⟩
    · refine block_there _ _ _ _ hb _ ?_
      have : (n + m) * i.size + (grownCap w (n + m) cap e - (n + m)) * i.size = grownCap w (n + m) cap e * i.size := by rw [← Nat.add_mul]; congr 1; omega
      simp only [Array.size_append, List.size_toArray, size_zeroCells, hzs, hl2]
      omega
    · refine block_range _ _ _ _ hb _ (fun j u hj => ?_)
      have hl := (List.getElem?_eq_some_iff.1 hj).1
      rw [Array.getElem?_append_left (by simpa using hl)]
      simpa using hj
    · exact ((Fr.refl _ w).drew).alloc _
theorem wp_append_rw {o : Oper} {act : Act} {K : Act → World → Prop} {Q : Exit → Act → World → Prop} (s y : Operand) (t : TypeId)
    (ho : o.op = .call { callee := .builtin .append, args := #[s, y], argTypes := #[t, t] })
    (e : TypeId) (i : TypeInfo) (z : Value) (size bytes : Nat) (ht : P.underlying t = some (.slice e)) (hi : P.info? e = some i) (hz : i.zero = some z)
    (hsize : i.size = size) (hby : i.bytes = bytes) (hzs : z.cells.size = size) (lo : Nat) (a : Option Addr) (n cap : Nat) (xs : List Value) (hv : act.eval s = .slice a n cap) (hlen : xs.length = n * size) (hle : n ≤ cap)
    (hmx : cap ≤ maxLen) (hrd : ∀ j u, xs[j]? = some u → ∃ b o, a = some ⟨b, o, none⟩ ∧ w.cell? ⟨b, o + j, none⟩ = some u) (x : Value) (hx : act.eval y = x) (m : Nat) (news : List Value) (hs : Src P size t x m news w)
    (hroom : n + m ≤ cap → Rw w lo size a n cap xs)
    (hm : 0 < m) (h63 : n + m ≤ maxLen) (hbytes : (n + m) * bytes ≤ 140737488355328) (hbase : lo ≤ w.heap.size)
    (h : ∀ g of c w', Appd w lo size a n m cap (xs ++ news) g of c w' → K (act.put o.dst (.slice (some ⟨g, of, none⟩) (n + m) c)) w') : o.wp P act w K Q := by
  obtain ⟨g, of, c, w', hr, h2⟩ := run_append_rw (P := P) w t t o.type e i z size bytes ht hi hz hsize hby hzs lo a n cap xs hlen hle hmx hrd x m news hs hroom hm h63 hbytes hbase
  unfold Oper.wp execOp
  simp only [ho, resolve, invoke, builtin, Sem.run_bind, Sem.run_pure, Result.andThen_ok, List.map_toArray, List.map_cons, List.map_nil, hv, hx, hr]
  exact h g of c w' h2
theorem wpList_append_rw {ops : Array Oper} {rest : List Oper} {o : Oper} {act : Act} {Q : Exit → Act → World → Prop} (hgd : o.guard = none) (s y : Operand) (t : TypeId)
    (ho : o.op = .call { callee := .builtin .append, args := #[s, y], argTypes := #[t, t] })
    (e : TypeId) (i : TypeInfo) (z : Value) (size bytes : Nat) (ht : P.underlying t = some (.slice e)) (hi : P.info? e = some i) (hz : i.zero = some z)
    (hsize : i.size = size) (hby : i.bytes = bytes) (hzs : z.cells.size = size) (lo : Nat) (a : Option Addr) (n cap : Nat) (xs : List Value) (hv : act.eval s = .slice a n cap) (hlen : xs.length = n * size) (hle : n ≤ cap)
    (hmx : cap ≤ maxLen) (hrd : ∀ j u, xs[j]? = some u → ∃ b o, a = some ⟨b, o, none⟩ ∧ w.cell? ⟨b, o + j, none⟩ = some u) (x : Value) (hx : act.eval y = x) (m : Nat) (news : List Value) (hs : Src P size t x m news w)
    (hroom : n + m ≤ cap → Rw w lo size a n cap xs)
    (hm : 0 < m) (h63 : n + m ≤ maxLen) (hbytes : (n + m) * bytes ≤ 140737488355328) (hbase : lo ≤ w.heap.size)
    (h : ∀ g of c w', Appd w lo size a n m cap (xs ++ news) g of c w' → wpList P ops Q rest (act.put o.dst (.slice (some ⟨g, of, none⟩) (n + m) c)) w') : wpList P ops Q (o :: rest) act w :=
  wpList_plain hgd fun _ hK => wp_append_rw w s y t ho e i z size bytes ht hi hz hsize hby hzs lo a n cap xs hv hlen hle hmx hrd x hx m news hs hroom hm h63 hbytes hbase fun g of c w' h2 => hK _ _ (h g of c w' h2)
end
theorem Rw.rd {w : World} {lo size : Nat} {a : Option Addr} {n cap : Nat} {xs : List Value} (h : Rw w lo size a n cap xs) : ∀ j u, xs[j]? = some u → ∃ b o, a = some ⟨b, o, none⟩ ∧ w.cell? ⟨b, o + j, none⟩ = some u := fun j u hj => by
  obtain ⟨b, o, h1, -, h2⟩ := h.cell hj
  exact ⟨b, o, h1, h2⟩
theorem Src.of_block {P : Program} {w : World} {size : Nat} {t e : TypeId} (ht : P.underlying t = some (.slice e)) {B : Nat} {cs : Array Value} {te : TypeId} {fr : Nat × Nat} (hb : w.heap[B]? = some (.cells cs te fr)) (n c : Nat) (hl : cs.size = n * size) (h1 : ∀ u ∈ cs.toList, u.oneCell' = true) : Src P size t (.slice (some ⟨B, 0, none⟩) n c) n cs.toList w :=
  Src.ofSlice w ht ⟨B, 0, none⟩ n c cs.toList (by simpa using hl) (World.news_of_block hb) h1
section
variable {P : Program} (w : World)
theorem step_append_rw {ops : Array Oper} {o : Oper} {act : Act} {K : Act → World → Prop} {Q : Exit → Act → World → Prop} {E : Prop} (hgd : o.guard = none) (s y : Operand) (t : TypeId)
    (ho : o.op = .call { callee := .builtin .append, args := #[s, y], argTypes := #[t, t] })
    (e : TypeId) (i : TypeInfo) (z : Value) (size bytes : Nat) (ht : P.underlying t = some (.slice e)) (hi : P.info? e = some i) (hz : i.zero = some z)
    (hsize : i.size = size) (hby : i.bytes = bytes) (hzs : z.cells.size = size) (lo : Nat) (a : Option Addr) (n cap : Nat) (xs : List Value) (hv : act.eval s = .slice a n cap) (hlen : xs.length = n * size) (hle : n ≤ cap)
    (hmx : cap ≤ maxLen) (hrd : ∀ j u, xs[j]? = some u → ∃ b o, a = some ⟨b, o, none⟩ ∧ w.cell? ⟨b, o + j, none⟩ = some u) (x : Value) (hx : act.eval y = x) (m : Nat) (news : List Value) (hs : Src P size t x m news w)
    (hroom : n + m ≤ cap → Rw w lo size a n cap xs)
    (hm : 0 < m) (h63 : n + m ≤ maxLen) (hbytes : (n + m) * bytes ≤ 140737488355328) (hbase : lo ≤ w.heap.size)
    (h : ∀ g of c w', Appd w lo size a n m cap (xs ++ news) g of c w' → K (act.put o.dst (.slice (some ⟨g, of, none⟩) (n + m) c)) w') :
    if Region.wanted o (yielded ops act.tmps) = true then Oper.wp P o act w K Q else E := by
  have hw : Region.wanted o (yielded ops act.tmps) = true := by simp [Region.wanted, hgd]
  rw [if_pos hw]
  exact wp_append_rw w s y t ho e i z size bytes ht hi hz hsize hby hzs lo a n cap xs hv hlen hle hmx hrd x hx m news hs hroom hm h63 hbytes hbase h
end
end Go.Proofs.YthgnkhpomhcdkaaGreatDoor
