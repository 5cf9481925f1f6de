import Derived.Test.YtdghkmgkmfnjjaaGreatDoorJQ
import Derived.Test.YtdghkmgkmfnjjaaGreatDoorJR
import Derived.Test.YtdghkmgkmfnjjaaGreatDoorJS
import Derived.Test.YtdghkmgkmfnjjaaGreatDoorJT
/-! Ids of a need. -/
namespace Go.Proofs.YtdghkmgkmfnjjaaGreatDoor
open Go Go.RowKit Go.Shelf
attribute [local go_sem] Oper.semAt_some

set_option maxHeartbeats 1000000 in
theorem within_any (yb : Nat) (f t : Int) (w : World) : Calls Tryz.prog 45 #[.pointer (some ⟨yb, 0, none⟩), .agg #[.int .i64 f, .int .i64 t]] w fun e w' => e = .returned (.func (.func 71) #[] #[.pointer (some ⟨w.heap.size + 1, 0, none⟩), .pointer (some ⟨w.heap.size, 0, none⟩)]) ∧ w' = (w.alloc (.cells #[.pointer (some ⟨yb, 0, none⟩)] 68)).alloc (.cells #[.int .i64 f, .int .i64 t] 98) := by
  go_enter Tryz.func45, Tryz.ntmps45
  go_wp2_with fail
  go_ret
  exact ⟨rfl, rfl⟩
theorem heap_alloc3 (w : World) (o0 o1 o2 : Obj) : (((w.alloc o0).alloc o1).alloc o2).heap.size = w.heap.size + 1 + 1 + 1 ∧ (((w.alloc o0).alloc o1).alloc o2).heap[w.heap.size + 1]? = some o1 ∧ (((w.alloc o0).alloc o1).alloc o2).heap[w.heap.size + 1 + 1]? = some o2 ∧ Below w.heap.size w (((w.alloc o0).alloc o1).alloc o2) := by
  refine ⟨by simp, ?_, ?_, (((Below.refl _ w).alloc (Nat.le_refl _) o0).alloc (by simp) o1).alloc (by simp; omega) o2⟩
  · rw [Below.heap_alloc _ _ _ (by simp)]
    have := heap_alloc_new (w.alloc o0) o1
    rwa [World.size_alloc] at this
  · have := heap_alloc_new ((w.alloc o0).alloc o1) o2
    rwa [World.size_alloc, World.size_alloc] at this
def num5 (x : Int) : V5 := ⟨3, x, ⟨#[]⟩, none, 0, 0, none, 0, 0⟩
/-- Two entries, by their numbers. -/
def sel {α : Type} (a b : α) (i : Nat) : α := if i = 0 then a else b
theorem str_info : ∃ ri, Tryz.prog.info? 9 = some ri ∧ ri.zero = some (.string ⟨#[]⟩) ∧ ri.size = 1 ∧ ri.bytes = 16 := by
  have : (Tryz.prog.info? 9).map (fun i => (i.zero, i.size, i.bytes)) = some (some (.string ⟨#[]⟩), 1, 16) := by kernel_rfl
  cases hq : Tryz.prog.info? 9 with
  | none => rw [hq] at this; cases this
  | some ri => rw [hq] at this; simp at this; exact ⟨ri, rfl, this.1, this.2.1, this.2.2⟩
/-- The keys that were told so far: their box, their row. -/
def KI (n kb B : Nat) (kf : Fin n → ByteArray) (pre : List (Fin n)) (W : World) : Prop := ∃ a c, Box1 W kb (.slice a pre.length c) ∧ Ap.Rw W B 1 a pre.length c (pre.map fun i => .string (kf i)) ∧ (pre = [] ∧ a = none ∨ ∃ g, a = some ⟨g, 0, none⟩) ∧ B ≤ W.heap.size
theorem Rw.own {A B : World} {row : Option Nat} {lo n c : Nat} {a : Option Addr} {xs : List Value} (h : Ap.Rw A lo 1 a n c xs) (hg : A.grownBy B row) (hr : ∀ r, row = some r → ∃ o, A.heap[r]? = some o ∧ o.isCells = false) : Ap.Rw B lo 1 a n c xs := by
  rcases h.pt with h0 | ⟨b, o, rfl, h1, h2, h3, h4⟩
  · exact ⟨h.len, h.le, h.mx, .inl h0⟩
  · by_cases hc : c = 0
    · exact ⟨h.len, h.le, h.mx, .inl hc⟩
    · refine h.keep hg.size (fun b' hb' hl => hg.block b' hl (fun e => ?_))
      obtain ⟨o', s', e'⟩ := hb'
      cases e'
      obtain ⟨ob, hob, hcl⟩ := hr b e.symm
      have := (h3 0 (by omega)).1
      rw [Nat.add_zero] at this
      cases ob with
      | cells cs t f => cases hcl
      | _ => simp [World.cell?, hob] at this
theorem KI.own (n kb B : Nat) (kf : Fin n → ByteArray) : Own (KI n kb B kf) := fun pre A B' row hs hg hr => by
  obtain ⟨a, c, h1, h2, h3, h4⟩ := hs
  exact ⟨a, c, h1.own hg hr, Rw.own h2 hg hr, h3, Nat.le_trans h4 hg.size⟩
theorem ent_cell {w : World} {eb : Nat} {x : Int} {key : ByteArray} (h : EntAt w eb x key) {e : Nat} {u : Value} (he : ([Value.int .i64 3, .int .i64 x, .string ⟨#[]⟩, .slice none 0 0, .slice none 0 0] ++ [.string key])[e]? = some u) : w.cell? ⟨eb, e, none⟩ = some u := by
  unfold EntAt at h
  simp only [World.cell?, h]
  simpa using he
theorem app_post {n kb B : Nat} {kf : Fin n → ByteArray} {pre : List (Fin n)} {i : Fin n} {w W W3 : World} {a : Option Addr} {c g o c2 : Nat} (h1 : Box1 W kb (.slice a pre.length c)) (h2 : Ap.Rw W B 1 a pre.length c (pre.map fun i => .string (kf i))) (h3 : pre = [] ∧ a = none ∨ ∃ g, a = some ⟨g, 0, none⟩) (h4 : B ≤ W.heap.size) (hkb : kb < B) (hwk : w.heap.size ≤ kb) (hB : Below w.heap.size w W) {ob : Obj}
    (hA : Ap.Appd (W.alloc ob) B 1 a pre.length 1 c ((pre.map fun i => .string (kf i)) ++ [.string (kf i)]) g o c2 W3) :
    KeepsOthers W (W3.setCell ⟨kb, 0, none⟩ (.slice (some ⟨g, o, none⟩) (pre.length + 1) c2)) ∧ KpU (fun b => b ≠ kb ∧ b < B) W (W3.setCell ⟨kb, 0, none⟩ (.slice (some ⟨g, o, none⟩) (pre.length + 1) c2)) ∧ KI n kb B kf (pre ++ [i]) (W3.setCell ⟨kb, 0, none⟩ (.slice (some ⟨g, o, none⟩) (pre.length + 1) c2)) ∧ Below w.heap.size w (W3.setCell ⟨kb, 0, none⟩ (.slice (some ⟨g, o, none⟩) (pre.length + 1) c2)) := by
  have hbl : ∀ b, Ap.blkOf a b ∧ pre.length + 1 ≤ c → B ≤ b ∧ ∃ v, W.cell? ⟨b, 0, none⟩ = some v := fun b hb => by
    rcases h3 with ⟨-, e⟩ | ⟨g', e⟩
    · obtain ⟨⟨o', s', e'⟩, -⟩ := hb
      rw [e] at e'
      cases e'
    · rcases h2.pt with h0 | ⟨b', o', e2, h5, h6, h7, -⟩
      · omega
      · obtain ⟨⟨o'', s', e'⟩, hle⟩ := hb
        rw [e] at e' e2
        cases e'
        cases e2
        have h8 := (h7 0 (by omega)).1
        rw [Nat.zero_add] at h8
        exact ⟨h5, Option.isSome_iff_exists.1 h8⟩
  have hB0 : Below W.heap.size W (W.alloc ob) := (Below.refl _ W).alloc (Nat.le_refl _) ob
  have hblk : ∀ b, b < W.heap.size → ¬ (Ap.blkOf a b ∧ pre.length + 1 ≤ c) → W3.heap[b]? = W.heap[b]? := fun b hb hn => (hA.fr.block b (Nat.lt_of_lt_of_le hb hB0.size) hn).trans (hB0.block b hb)
  have hlow : ∀ b, b < B → W3.heap[b]? = W.heap[b]? := fun b hb => hblk b (by omega) (fun e => by have := (hbl b e).1; omega)
  have hsz : W.heap.size ≤ W3.heap.size := Nat.le_trans hB0.size hA.fr.size
  have hset : ∀ k, k ≠ kb → (W3.setCell ⟨kb, 0, none⟩ (.slice (some ⟨g, o, none⟩) (pre.length + 1) c2)).heap[k]? = W3.heap[k]? := fun k hk => Below.heap_setCell _ _ _ _ hk
  refine ⟨⟨by simpa [World.setCell] using hsz, fun k ob' hk hnc => ?_⟩, fun p u hp hc => ?_, ?_, ?_⟩
  · have hkk : k ≠ kb := fun e => by
      have := h1.1
      rw [e] at hk
      cases ob' with
      | cells cs t f => cases hnc
      | _ => simp [World.cell?, hk] at this
    rw [hset k hkk]
    refine (hblk k (Array.getElem?_eq_some_iff.1 hk).1 (fun e => ?_)).trans hk
    obtain ⟨-, v, hv⟩ := hbl k e
    cases ob' with
    | cells cs t f => cases hnc
    | _ => simp [World.cell?, hk] at hv
  · exact (World.cell?_of_block (w := W) (a := p) ((hset _ hp.1).trans (hlow _ hp.2))).trans hc
  · have hb3 : Box1 W3 kb (.slice a pre.length c) := h1.far (hlow kb hkb)
    refine ⟨some ⟨g, o, none⟩, c2, ?_, ?_, .inr ?_, by simpa [World.setCell] using Nat.le_trans h4 hsz⟩
    · rw [List.length_append]
      exact hb3.set _
    · have hr := hA.row
      rw [List.length_append, List.map_append]
      refine hr.keep (by simp [World.setCell]) (fun b hb hl => hset b (fun e => ?_))
      obtain ⟨o', s', e'⟩ := hb
      cases e'
      rcases hr.pt with h0 | ⟨b', o', e2, h5, -⟩
      · have := hr.le
        omega
      · cases e2
        omega
    · rcases hA.at' with ⟨e, -, -⟩ | ⟨rfl, rfl, -⟩
      · rcases h3 with ⟨-, e2⟩ | ⟨g', e2⟩
        · rw [e2] at e; cases e
        · rw [e2] at e; cases e; exact ⟨_, rfl⟩
      · exact ⟨_, rfl⟩
  · refine ⟨hA.fr.os.trans (hB0.os.trans hB.os), hA.fr.tape.trans (hB0.tape.trans hB.tape), hA.fr.output.trans (hB0.output.trans hB.output), by simpa [World.setCell] using Nat.le_trans hB.size hsz, fun k hk => ?_⟩
    rw [hset k (by omega), hlow k (by omega)]
    exact hB.block k hk
theorem app_box {n kb B : Nat} {kf : Fin n → ByteArray} {pre : List (Fin n)} {W W3 : World} {a : Option Addr} {c g o c2 : Nat} {ys : List Value} (h1 : Box1 W kb (.slice a pre.length c)) (h2 : Ap.Rw W B 1 a pre.length c (pre.map fun i => .string (kf i))) (h3 : pre = [] ∧ a = none ∨ ∃ g, a = some ⟨g, 0, none⟩) (h4 : B ≤ W.heap.size) (hkb : kb < B) {ob : Obj}
    (hA : Ap.Appd (W.alloc ob) B 1 a pre.length 1 c ys g o c2 W3) : W3.cell? ⟨kb, 0, none⟩ = some (.slice a pre.length c) ∧ W3.frozen? ⟨kb, 0, none⟩ = false := by
  have hB0 : Below W.heap.size W (W.alloc ob) := (Below.refl _ W).alloc (Nat.le_refl _) ob
  have : W3.heap[kb]? = W.heap[kb]? := (hA.fr.block kb (by rw [World.size_alloc]; omega) (fun e => by
    rcases h3 with ⟨-, e2⟩ | ⟨g', e2⟩
    · obtain ⟨⟨o', s', e'⟩, -⟩ := e
      rw [e2] at e'
      cases e'
    · rcases h2.pt with h0 | ⟨b', o', e3, h5, -⟩
      · omega
      · obtain ⟨⟨o'', s', e'⟩, -⟩ := e
        rw [e2] at e' e3
        cases e'
        cases e3
        omega)).trans (hB0.block kb (by omega))
  exact h1.far this
set_option maxHeartbeats 4000000 in
set_option maxRecDepth 100000 in
theorem ids_any (op : Int) (f n : Nat) (hfn : f + n = 2) (P1 : World → Nat → Prop) (lo yb e1 e2 : Nat) (x1 x2 v : Int) (k1 k2 nm pt : ByteArray) (pv : Value) (w : World) (hn0 : 0 < n) (hX : Ix2 w lo yb nm pt pv e1 e2 x1 x2 k1 k2) (hx : v = 7 ∨ v = 7)
    (hre : ∀ W, Below w.heap.size w W → Calls Tryz.prog 44 #[.pointer (some ⟨yb, 0, none⟩), .int .i64 op, .agg #[.int .i64 3, .int .i64 v, .string ⟨#[]⟩, .slice none 0 0, .slice none 0 0]] W fun e w' => ∃ g, e = .returned (.slice (some ⟨g, 0, none⟩) 1 1) ∧ Below W.heap.size W w' ∧ w'.heap[g]? = some (.cells #[.int .i64 f, .int .i64 2] 98 (0, 0)))
    (hso : ∀ W g c, (∀ i : Fin n, W.cell? ⟨g, i.1, none⟩ = some (.string (sel k1 k2 (f + i.1))) ∧ W.frozen? ⟨g, i.1, none⟩ = false) → Calls Tryz.prog 23 #[.slice (some ⟨g, 0, none⟩) n c] W fun e W' => e = .returned (.tuple #[]) ∧ W.grownBy W' (some g) ∧ P1 W' g)
    (hco : ∀ W g c, P1 W g → Calls Tryz.prog 46 #[.slice (some ⟨g, 0, none⟩) n c] W fun e W' => e = .returned (.slice (some ⟨g, 0, none⟩) n c) ∧ Below W.heap.size W W')
    (hP : ∀ W W' g, P1 W g → (g < W.heap.size → W'.heap[g]? = W.heap[g]?) → P1 W' g) :
    Calls Tryz.prog 21 #[.pointer (some ⟨yb, 0, none⟩), .int .i64 op, .agg #[.int .i64 3, .int .i64 v, .string ⟨#[]⟩, .slice none 0 0, .slice none 0 0]] w fun e w' => ∃ g c, e = .returned (.slice (some ⟨g, 0, none⟩) n c) ∧ Below w.heap.size w w' ∧ P1 w' g := by
  obtain ⟨ge, ce, kv, i1, i2, i3, i4⟩ := hX
  have l1 : yb < w.heap.size := (Array.getElem?_eq_some_iff.1 i1).1
  have l2 : ge < w.heap.size := lt_of_cell (i2.cellAt 0 (by omega))
  have l3 : e1 < w.heap.size := (Array.getElem?_eq_some_iff.1 i3).1
  have l4 : e2 < w.heap.size := (Array.getElem?_eq_some_iff.1 i4).1
  have hck := fun W => hid_of (check1 v hx W)
  have HB0 := (Below.refl _ w).alloc (Nat.le_refl _) (.cells #[.int .i64 3, .int .i64 v, .string ⟨#[]⟩, .slice none 0 0, .slice none 0 0] 25)
  have v0 := heap_alloc_new w (.cells #[.int .i64 3, .int .i64 v, .string ⟨#[]⟩, .slice none 0 0, .slice none 0 0] 25)
  obtain ⟨W0, hW0⟩ : ∃ W0, Hid (w.alloc (.cells #[.int .i64 3, .int .i64 v, .string ⟨#[]⟩, .slice none 0 0, .slice none 0 0] 25) = W0) := ⟨_, rfl⟩
  rw [hW0.out] at HB0 v0
  obtain ⟨q0, q1, q2, q3, q4⟩ := five_at v0
  refine (callsIn_wide (n := 5)).1 ?_
  have hro : Fence.wide.round = none := rfl
  refine callsIn_of_wp_marks Tryz.func21 rfl trivial ?_ hro
  simp only [Tryz.ntmps21, List.size_toArray, List.length_cons, List.length_nil, Nat.reduceAdd, Nat.reduceSub, Array.replicate_succ, Array.replicate_zero, List.push_toArray, List.append_toArray, List.nil_append, List.cons_append]
  refine wpIn_wide.2 ?_
  go_wp2_with (rw [hW0.out])
  refine (hck _).out.mono ?_
  rintro e X1 ⟨rfl, hB1⟩
  replace q0 := stay hB1 q0
  replace q1 := stay hB1 q1
  replace q2 := stay hB1 q2
  replace q3 := stay hB1 q3
  replace q4 := stay hB1 q4
  have HB1 := HB0.trans (hB1.mono HB0.size)
  have hwX1 := hid_of HB1.size
  have HB2 := HB1.alloc HB1.size (.cells #[.slice none 0 0] 22)
  have kb0 := heap_alloc_new X1 (.cells #[.slice none 0 0] 22)
  obtain ⟨X2, hX2⟩ : ∃ X2, Hid (X1.alloc (.cells #[.slice none 0 0] 22) = X2) := ⟨_, rfl⟩
  have r0 := cell_alloc' q0 (.cells #[.slice none 0 0] 22)
  have r1 := cell_alloc' q1 (.cells #[.slice none 0 0] 22)
  have r2 := cell_alloc' q2 (.cells #[.slice none 0 0] 22)
  have r3 := cell_alloc' q3 (.cells #[.slice none 0 0] 22)
  have r4 := cell_alloc' q4 (.cells #[.slice none 0 0] 22)
  rw [hX2.out] at r0 r1 r2 r3 r4 HB2 kb0
  obtain ⟨kb, hkb⟩ : ∃ n, Hid (X1.heap.size = n) := ⟨_, rfl⟩
  have hre' := hid_of (hre X2 HB2)
  replace HB2 := hid_of HB2
  replace kb0 := hid_of kb0
  clear hre hck hW0 v0 HB0 hB1 HB1 q0 q1 q2 q3 q4
  go_wp2_with (rw [hX2.out])
  refine hre'.out.mono ?_
  rintro e X3 ⟨rg, rfl, hB3, hrg⟩
  replace HB2 := hid_of (HB2.out.trans (hB3.mono HB2.out.size))
  replace kb0 := hid_of ((hB3.block _ (Array.getElem?_eq_some_iff.1 kb0.out).1).trans kb0.out)
  have z0 : X3.cell? ⟨rg, 0, none⟩ = some (.int .i64 f) := by simp [World.cell?, hrg]
  have z1 : X3.cell? ⟨rg, 1, none⟩ = some (.int .i64 2) := by simp [World.cell?, hrg]
  clear r0 r1 r2 r3 r4 hre' hB3 hX2
  go_wp2_with fail
  refine wp_loop_rounds 2 ?_
  rw [rounds_succ]
  go_wp2_with fail
  refine (within_any _ _ _ _).mono ?_
  rintro e X5 ⟨rfl, hX5⟩
  obtain ⟨s3, hs3⟩ : ∃ n, Hid (X3.heap.size = n) := ⟨_, rfl⟩
  obtain ⟨b0, b1, b2, b3⟩ := heap_alloc3 X3 (.cells #[.int .i64 f, .int .i64 2] 98) (.cells #[.pointer (some ⟨yb, 0, none⟩)] 68) (.cells #[.int .i64 f, .int .i64 2] 98)
  rw [← hX5, hs3.out] at b0
  rw [← hX5, hs3.out] at b1 b2
  rw [← hX5] at b3
  rw [World.size_alloc, hs3.out]
  have HB5 := HB2.out.trans (b3.mono HB2.out.size)
  have kb5 := (b3.block _ (Array.getElem?_eq_some_iff.1 kb0.out).1).trans kb0.out
  have lkb : X1.heap.size < s3 := by rw [← hs3.out]; exact (Array.getElem?_eq_some_iff.1 kb0.out).1
  have lw := hid_of HB2.out.size
  rw [hkb.out] at kb5 lkb ⊢
  have lwk : w.heap.size ≤ kb := by rw [← hkb.out]; exact hwX1.out
  clear z0 z1 kb0 hkb hX5
  go_wp2_with fail
  refine (wpIn_wide (n := 5)).1 ?_
  have hra : RangeAt (fun b => b ≠ kb ∧ b < s3 + 1 + 1 + 1) X5 (s3 + 1 + 1) (s3 + 1) yb f 2 n 2 ce (some ⟨ge, 0, none⟩) (fun i => sel e1 e2 (f + i.1)) (fun i => num5 (sel x1 x2 (f + i.1))) (fun i => sel k1 k2 (f + i.1)) := by
    have hw3 : w.heap.size ≤ s3 := by rw [← hs3.out]; exact lw.out
    refine ⟨by simp [World.cell?, b2], by simp [World.cell?, b2], hfn.symm, by simp [World.cell?, b1], (i1.keep HB5).cells.2.2.2.2.1, Nat.le_refl _, by omega, fun i => ?_, fun i e u he => ?_, ⟨by omega, by omega⟩, ⟨by omega, by omega⟩, ⟨by omega, by omega⟩, fun i => ?_⟩
    · refine ⟨ge, 0, rfl, ⟨by omega, by omega⟩, ?_⟩
      have hi := i.2
      rw [Nat.zero_add]
      rcases Nat.lt_or_ge (f + i.1) 1 with h | h
      · have e : f + i.1 = 0 := by omega
        rw [e]
        exact stay HB5 (i2.cellAt 0 (by omega))
      · have e : f + i.1 = 1 := by omega
        rw [e]
        exact stay HB5 (i2.cellAt 1 (by omega))
    · have hi := i.2
      rcases Nat.lt_or_ge (f + i.1) 1 with h | h
      · have e0 : f + i.1 = 0 := by omega
        simp only [e0, sel, if_true, num5, V5.cells] at he ⊢
        exact ent_cell (i3.keep HB5) he
      · have e0 : f + i.1 = 1 := by omega
        simp only [e0, sel, num5, V5.cells] at he ⊢
        exact ent_cell (i4.keep HB5) he
    · unfold sel
      split
      · exact ⟨by omega, by omega⟩
      · exact ⟨by omega, by omega⟩
  have hi0 : KI n kb (s3 + 1 + 1 + 1) (fun i => sel k1 k2 (f + i.1)) [] X5 := ⟨none, 0, box1_of kb5, Ap.Rw.nil _ _ _ _, .inl ⟨rfl, rfl⟩, by rw [b0]; exact Nat.le_refl _⟩
  obtain ⟨ri, hri, hri1, hri2, hri3⟩ := str_info
  replace b0 := hid_of b0
  clear b1 b2 b3 i1 i2 i3 i4 HB2 hrg kb5
  refine wpIn_rangeFunc_ownH hro (by decide) (gf := 71) (lb := #[.pointer (some ⟨s3 + 1 + 1, 0, none⟩), .pointer (some ⟨s3 + 1, 0, none⟩)]) rfl trivial (enters_of Tryz.func71 (by kernel_rfl) rfl)
    (within_n Fence.wide _ trivial hro (by decide) _ _ _ _ _ _ _ _ _ _ _ _ _ X5 hra) KpU.trans (fun W l o o' hl ho hc _ p u _ hu => cell_kept hu (grownBy_putObj' W l o') (fun r e => by cases e; exact ⟨o, ho, hc⟩)) (Below.refl _ _) (fun _ => rfl)
    (fun pre W => KI n kb (s3 + 1 + 1 + 1) (fun i => sel k1 k2 (f + i.1)) pre W ∧ Below w.heap.size w W)
    (fun _ _ _ => False) ?own (fun _ _ _ _ _ hs _ _ => hs) ?start
    (fun i a' _ => a' = { tmps := #[.pointer (some ⟨yb, 0, none⟩), .int .i64 op, .agg #[.int .i64 3, .int .i64 v, .string ⟨#[]⟩, .slice none 0 0, .slice none 0 0], undef, undef, .pointer (some ⟨w.heap.size, 0, none⟩), .slice none 0 0, .pointer (some ⟨kb, 0, none⟩), undef, .pointer (some ⟨s3, 0, none⟩), undef, .string (sel k1 k2 (f + i.1)), .pointer (some ⟨yb, 0, none⟩), .bool false, .bool false, .agg #[.int .i64 3, .int .i64 v, .string ⟨#[]⟩, .slice none 0 0, .slice none 0 0], .int .i64 0, .bool false, .bool false, .pointer (some ⟨yb, 0, none⟩), .int .i64 op, .agg #[.int .i64 3, .int .i64 v, .string ⟨#[]⟩, .slice none 0 0, .slice none 0 0], .slice (some ⟨rg, 0, none⟩) 1 1, .int .i64 1, .int .i64 0, .bool true, .pointer (some ⟨rg, 0, none⟩), .agg #[.int .i64 f, .int .i64 2], .pointer (some ⟨yb, 0, none⟩), .agg #[.int .i64 f, .int .i64 2], .func (.func 71) #[] #[.pointer (some ⟨s3 + 1 + 1, 0, none⟩), .pointer (some ⟨s3 + 1, 0, none⟩)], .agg (num5 (sel x1 x2 (f + i.1))).cells.toArray, .string (sel k1 k2 (f + i.1)), undef, undef, undef, undef, undef, undef, undef, undef, undef], defers := [] })
    ?ownA ?assign ?body ?done ?stop
  case own => exact OwnFrom.and (Own.from (KI.own _ _ _ _) _) (ownFrom_below (Nat.le_refl _) HB5.size)
  case start => exact ⟨hi0, HB5⟩
  case ownA => exact fun _ _ _ _ _ _ hs _ _ => hs
  case assign =>
    rintro l pre i W K hI hK
    gi_wp2
    exact hK _ _ ((KeepsOthers.refl _).from _) (fun _ _ _ h => h) hI rfl
  case body =>
    rintro l pre i a' W hl ⟨r, hr⟩ ⟨⟨a, c, h1, h2, h3, h4⟩, hB⟩ rfl hlt
    have hlp : pre.length < n := hlt
    obtain ⟨k0, kf0⟩ := id h1
    have k1' := cell_alloc' k0 (.cells #[.string (sel k1 k2 (f + i.1))] 9)
    have h2' := hid_of (h2.below ((Below.refl _ W).alloc (Nat.le_refl _) (.cells #[.string (sel k1 k2 (f + i.1))] 9)))
    have hsrc : Hid (Src Tryz.prog 1 22 (.slice (some ⟨W.heap.size, 0, none⟩) 1 1) 1 [.string (sel k1 k2 (f + i.1))] (W.alloc (.cells #[.string (sel k1 k2 (f + i.1))] 9))) := Ap.Src.of_block Tryz.underlying22 (heap_alloc_new W (.cells #[.string (sel k1 k2 (f + i.1))] 9)) 1 1 rfl (by simp [Value.oneCell'])
    have hnum : Hid (pre.length + 1 ≤ maxLen ∧ (pre.length + 1) * 16 ≤ 140737488355328 ∧ s3 + 1 + 1 + 1 ≤ (W.alloc (.cells #[.string (sel k1 k2 (f + i.1))] 9)).heap.size) := ⟨by unfold maxLen; omega, by omega, by rw [World.size_alloc]; omega⟩
    have hpost := hid_of (fun (g o c2 : Nat) (W3 : World) (hA : Ap.Appd (W.alloc (.cells #[.string (sel k1 k2 (f + i.1))] 9)) (s3 + 1 + 1 + 1) 1 a pre.length 1 c ((pre.map fun i => Value.string (sel k1 k2 (f + i.1))) ++ [.string (sel k1 k2 (f + i.1))]) g o c2 W3) => app_post (kf := fun i => sel k1 k2 (f + i.1)) (w := w) h1 h2 h3 h4 (by omega) lwk hB hA)
    have hbox := hid_of (fun (g o c2 : Nat) (W3 : World) (hA : Ap.Appd (W.alloc (.cells #[.string (sel k1 k2 (f + i.1))] 9)) (s3 + 1 + 1 + 1) 1 a pre.length 1 c ((pre.map fun i => Value.string (sel k1 k2 (f + i.1))) ++ [.string (sel k1 k2 (f + i.1))]) g o c2 W3) => app_box h1 h2 h3 h4 (show kb < s3 + 1 + 1 + 1 by omega) hA)
    replace h2 := hid_of h2
    clear kf0
    gi_wp2_with (refine Ap.wpListIn_append_rw _ rfl _ _ 22 rfl 9 ri _ 1 16 Tryz.underlying22 hri hri1 hri2 hri3 rfl (s3 + 1 + 1 + 1) a pre.length c (pre.map fun i => Value.string (sel k1 k2 (f + i.1))) rfl h2'.out.len h2'.out.le h2'.out.mx h2'.out.rd _ rfl 1 [.string (sel k1 k2 (f + i.1))] hsrc.out (fun _ => h2'.out) (by decide) hnum.out.1 hnum.out.2.1 hnum.out.2.2 ?_; intro g2 o2 c2 W3 hA; obtain ⟨kz, kzf⟩ := hbox.out g2 o2 c2 W3 hA; replace hA := hid_of hA)
    obtain ⟨p1, p2, p3, p4⟩ := hpost.out g2 o2 c2 W3 hA.out
    exact ⟨p1.from _, p2, p3, p4⟩
  case done =>
    rintro D ys W hD rfl ⟨⟨a, c, h1, h2, h3, h4⟩, hB⟩ hK
    rw [List.length_finRange] at h1 h2
    obtain ⟨k0, kf0⟩ := id h1
    obtain ⟨g, rfl⟩ : ∃ g, a = some ⟨g, 0, none⟩ := by
      rcases h3 with ⟨e, -⟩ | h3
      · have := congrArg List.length e
        rw [List.length_finRange] at this
        simp at this
        omega
      · exact h3
    have hgB : Hid (s3 + 1 + 1 + 1 ≤ g ∧ g < W.heap.size) := by
      rcases h2.pt with h0 | ⟨b', o', e, h5, h6, -⟩
      · have := h2.le
        omega
      · cases e; exact ⟨h5, h6⟩
    have hcells : ∀ i : Fin n, W.cell? ⟨g, i.1, none⟩ = some (.string (sel k1 k2 (f + i.1))) ∧ W.frozen? ⟨g, i.1, none⟩ = false := fun i => by
      have hi := i.2
      obtain ⟨b', o', e, hc⟩ := h2.rd i.1 (.string (sel k1 k2 (f + i.1))) (by rw [List.getElem?_map, List.getElem?_eq_getElem (by rw [List.length_finRange]; exact hi)]; simp)
      cases e
      rw [Nat.zero_add] at hc
      refine ⟨hc, ?_⟩
      rcases h2.pt with h0 | ⟨b', o', e, h5, h6, h7, -⟩
      · have := h2.le
        omega
      · cases e
        have := (h7 i.1 (by have := h2.le; omega)).2
        rwa [Nat.zero_add] at this
    have hgc := hid_of (hcells ⟨0, hn0⟩).1
    have hso' := hid_of (hso W g c hcells)
    replace hco := hid_of hco
    replace hP := hid_of hP
    replace hB := hid_of hB
    replace hK := hid_of hK
    clear hcells h2 h3 hso
    have lgk : g ≠ kb := by have := hgB.out; omega
    go_wp2_with fail
    rw [rounds_succ]
    go_wp2_with fail
    refine hso'.out.mono ?_
    rintro e Z1 ⟨rfl, hg1, hp1⟩
    have hz1 : Z1.cell? ⟨kb, 0, none⟩ = some (.slice (some ⟨g, 0, none⟩) n c) := grown_cell hg1 k0 (by intro r h; cases h; exact Ne.symm lgk)
    have hco' := hid_of (hco.out Z1 g c hp1)
    have hDg : D ≠ g := fun e => by
      have h9 := hgc.out
      rw [← e] at h9
      simp [World.cell?, hK.out] at h9
    have hDk : D ≠ kb := fun e => by have := hD; have := b0.out; omega
    have hK1 : Z1.heap[D]? = some (.deferred (some [])) := (hg1.block D (Array.getElem?_eq_some_iff.1 hK.out).1 (fun e => hDg (by cases e; rfl))).trans hK.out
    have hB1 : Below w.heap.size w Z1 := ⟨hg1.os.trans hB.out.os, hg1.tape.trans hB.out.tape, hg1.output.trans hB.out.output, Nat.le_trans hB.out.size hg1.size, fun k hk => (hg1.block k (Nat.lt_of_lt_of_le hk hB.out.size) (fun e => by cases e; have := hgB.out; omega)).trans (hB.out.block k hk)⟩
    replace hK1 := hid_of hK1
    replace hB1 := hid_of hB1
    replace hp1 := hid_of hp1
    clear hso' hg1 k0 kf0 h1
    go_wp2_with fail
    refine hco'.out.mono ?_
    rintro e Z2 ⟨rfl, hB2⟩
    have hK2 := (hB2.block D (Array.getElem?_eq_some_iff.1 hK1.out).1).trans hK1.out
    have hp2 := hP.out Z1 Z2 g hp1.out (fun h => hB2.block g h)
    have hB3 : Below w.heap.size w Z2 := hB1.out.trans (hB2.mono hB1.out.size)
    have hw5 := HB5.size
    have hp3 := hid_of (hP.out Z2 (Z2.putObj D (.deferred none)) g hp2 (fun _ => World.putObj_heap_other (Ne.symm hDg)))
    have hB4 : Hid (Below w.heap.size w (Z2.putObj D (.deferred none))) := ⟨hB3.os, hB3.tape, hB3.output, by simpa using hB3.size, fun k hk => (World.putObj_heap_other (by omega)).trans (hB3.block k hk)⟩
    clear hco' hB2 hp2 hB3 hz1
    go_wp2_with fail
    refine ⟨by simp, .inl ⟨_, _, rfl, run_takeDeferred hK2, ?_⟩⟩
    exact ⟨.slice (some ⟨g, 0, none⟩) n c, by simp [results, Tryz.results21, go_sem], g, c, rfl, hB4.out, hp3.out⟩
  case stop =>
    rintro D c pre W _ _ h _
    exact h.elim
end Go.Proofs.YtdghkmgkmfnjjaaGreatDoor
