import Derived.Test.YtmlbofbnklmedaaT1
import Derived.Test.YtmlbofbnklmedaaS11
/-! The document's nested. -/
namespace Go.Proofs.Ytmlbofbnklmedaa
open Go Go.RowKit

/-- An object of one member, in two new rows. -/
theorem nest_seen {W Y : World} {B gs gv : Nat} {t : Tr} {s : ByteArray} {cs : List Value} {S : Nat → Prop} (hS : Seen W S t cs) (hb : Below W.heap.size W Y) (hs : Y.heap[gs]? = some (.cells #[.string s] 9 (0, 0))) (hv : Y.heap[gv]? = some (.cells cs.toArray 25 (0, 0))) (hSs : S gs) (hSv : S gv) (hB : ¬ S B) (a0 a1 a2 a3 a4 : Value) :
    Seen (put5 Y B a0 a1 a2 a3 a4) S (.node 6 0 ⟨#[]⟩ [s] [t]) (five 6 0 ⟨#[]⟩ (.slice (some ⟨gs, 0, none⟩) 1 1) (.slice (some ⟨gv, 0, none⟩) 1 1)) := by
  intro W' ha
  have ne : ∀ j, S j → j ≠ B := fun j hj e => hB (e ▸ hj)
  have cc : ∀ p u, S p.block → Y.cell? p = some u → W'.cell? p = some u := fun p u hp hc => ha.2 p u hp ((World.cell?_of_block (w := Y) (put5_far _ _ _ _ _ (ne _ hp))).trans hc)
  have hsz : Y.heap.size ≤ W'.heap.size := by have := ha.1; rw [put5_size] at this; exact this
  have hgs := (Array.getElem?_eq_some_iff.1 hs).1
  have hgv := (Array.getElem?_eq_some_iff.1 hv).1
  unfold VRep
  refine ⟨_, _, 1, rfl, ⟨_, 1, rfl, ⟨Nat.le_refl _, by decide⟩, .inr ⟨gs, 0, rfl, by omega, fun j u hj => ?_⟩⟩, ⟨Nat.le_refl _, by decide⟩, .inr ⟨gv, 0, rfl, by omega, ?_⟩⟩
  · rcases j with _ | j
    · simp only [List.getElem?_cons_zero, Option.some.injEq] at hj
      subst hj
      exact cc _ _ hSs (by simp [World.cell?, hs])
    · simp at hj
  · unfold VRepL
    refine ⟨cs, fun j u hj => cc _ _ hSv (by simp [World.cell?, hv, hj]), hS W' ⟨Nat.le_trans hb.size hsz, fun p u hp hc => cc p u hp ((hb.cell (cell_lt hc)).trans hc)⟩, by unfold VRepL; trivial⟩
theorem nest_drop {l : List ByteArray} {i : Nat} {s : ByteArray} (h : l[i]? = some s) (X : Tr) : nestS (l.drop i) X = .node 6 0 ⟨#[]⟩ [s] [nestS (l.drop (i + 1)) X] := by
  have hlt := (List.getElem?_eq_some_iff.1 h).1
  have : l.drop i = s :: l.drop (i + 1) := by rw [List.drop_eq_getElem_cons hlt]; rw [List.getElem?_eq_getElem hlt] at h; simp at h; rw [h]
  rw [this]
  rfl
/-- nested on its way. -/
def NestAt (w0 w : World) (t : Tr) (wr : World) : Prop := ∃ (k x : Int) (s : ByteArray) (an : Option Addr) (ln cn : Nat) (ai : Option Addr) (li ci : Nat), An w #[.int .i64 k, .int .i64 x, .string s, .slice an ln cn, .slice ai li ci] wr ∧ Seen wr (fun j => j < w0.heap.size ∨ w.heap.size + 2 ≤ j) t (five k x s (.slice an ln cn) (.slice ai li ci))
theorem NestAt.step {w0 w wr Y : World} {t : Tr} {b : Array Value} {cs : List Value} {s : ByteArray} {gs gv : Nat} (hA : An w b wr) (hS : Seen wr (fun j => j < w0.heap.size ∨ w.heap.size + 2 ≤ j) t cs) (hb : Below wr.heap.size wr Y) (hs : Y.heap[gs]? = some (.cells #[.string s] 9 (0, 0))) (hv : Y.heap[gv]? = some (.cells cs.toArray 25 (0, 0))) (h1 : wr.heap.size ≤ gs) (h2 : wr.heap.size ≤ gv)
    (h0 : w0.heap.size ≤ w.heap.size) (hone : ∃ c0 c1 c2 c3 c4, b = #[c0, c1, c2, c3, c4]) : NestAt w0 w (.node 6 0 ⟨#[]⟩ [s] [t]) (put5 Y w.heap.size (.int .i64 6) (.int .i64 0) (.string ⟨#[]⟩) (.slice (some ⟨gs, 0, none⟩) 1 1) (.slice (some ⟨gv, 0, none⟩) 1 1)) := by
  have hY := hA.keep hb
  have hl := hA.lt
  obtain ⟨c0, c1, c2, c3, c4, rfl⟩ := hone
  refine ⟨6, 0, ⟨#[]⟩, _, 1, 1, _, 1, 1, ⟨hY.below.trans (put5_below (Nat.le_refl _) _ _ _ _ _), put5_at hY.one _ _ _ _ _, (put5_far _ _ _ _ _ (by omega)).trans hY.two⟩, nest_seen hS hb hs hv (.inr (by omega)) (.inr (by omega)) (fun h => by omega) _ _ _ _ _⟩
theorem nest_end {w0 w wr : World} {b : Array Value} {t : Tr} {cs : List Value} (hA : An w b wr) (h0 : w0.heap.size ≤ w.heap.size) (hS : Seen wr (fun j => j < w0.heap.size ∨ w.heap.size + 2 ≤ j) t cs) (a0 a1 a2 a3 a4 : Value) :
    Seen (put5 wr (w.heap.size + 1) a0 a1 a2 a3 a4) (fun j => j < w0.heap.size ∨ w.heap.size ≤ j) t cs ∧ Below w.heap.size w (put5 wr (w.heap.size + 1) a0 a1 a2 a3 a4) :=
  ⟨fun W' ha => hS W' ⟨by have := ha.1; rw [put5_size] at this; exact this, fun p u hp hc => ha.2 p u (hp.elim .inl (fun h => .inr (by omega))) ((World.cell?_of_block (w := wr) (put5_far _ _ _ _ _ (by omega))).trans hc)⟩, hA.below.trans (put5_below (by omega) _ _ _ _ _)⟩
set_option maxHeartbeats 8000000 in
set_option maxRecDepth 100000 in
theorem nested_code (k x : Int) (s : ByteArray) (an : Option Addr) (ln cn : Nat) (ai : Option Addr) (li ci : Nat) (a : Option Addr) (c : Nat) (l : List ByteArray) (X : Tr) (w0 w : World) (h0 : Below w0.heap.size w0 w) (hX : Hid (VRep w0 X (five k x s (.slice an ln cn) (.slice ai li ci)))) (hP : Hid (Reads w0 (.slice a l.length c) l)) (hl : l.length ≤ 1000000) :
    Calls Try.prog 38 #[.slice a l.length c, .agg #[.int .i64 k, .int .i64 x, .string s, .slice an ln cn, .slice ai li ci]] w fun e w' => ∃ k x s an ln cn ai li ci, e = .returned (.agg #[.int .i64 k, .int .i64 x, .string s, .slice an ln cn, .slice ai li ci]) ∧ Seen w' (fun j => j < w0.heap.size ∨ w.heap.size ≤ j) (nestS l X) (five k x s (.slice an ln cn) (.slice ai li ci)) ∧ Below w.heap.size w w' := by
  have hA := an_new w #[.int .i64 k, .int .i64 x, .string s, .slice an ln cn, .slice ai li ci]
  have hS0 : Hid (Seen ((w.alloc (.cells #[.int .i64 k, .int .i64 x, .string s, .slice an ln cn, .slice ai li ci] 25)).alloc (.cells #[.int .i64 0, .int .i64 0, .string ⟨#[]⟩, .slice none 0 0, .slice none 0 0] 25)) (fun j => j < w0.heap.size ∨ w.heap.size + 2 ≤ j) X (five k x s (.slice an ln cn) (.slice ai li ci))) := fun W' ha => seen_rep hX.out W' ⟨by have h1 := ha.1; have h2 := hA.lt; have h3 := h0.size; omega, fun p u hp hc => ha.2 p u (.inl hp) (((h0.trans (hA.below.mono h0.size)).cell (cell_lt hc)).trans hc)⟩
  go_enter Try.func38, Try.ntmps38
  go_upto_region 1 with fail
  generalize (w.alloc (.cells #[.int .i64 k, .int .i64 x, .string s, .slice an ln cn, .slice ai li ci] 25)).alloc (.cells #[.int .i64 0, .int .i64 0, .string ⟨#[]⟩, .slice none 0 0, .slice none 0 0] 25) = X0 at hA hS0 ⊢
  have hN0 : Hid (NestAt w0 w (nestS (l.drop l.length) X) X0) := by rw [List.drop_length]; exact ⟨_, _, _, _, _, _, _, _, _, hA, hS0.out⟩
  clear hA hS0 hX
  go_wp2_with fail
  go_loopw [5] (fun iv wr => ∃ q : Nat, q ≤ l.length ∧ iv = .int .i64 ((q : Int) - 1) ∧ Hid (NestAt w0 w (nestS (l.drop q) X) wr)) (fun iv _ => (intOf iv + 1).toNat)
  case atStart => exact ⟨l.length, Nat.le_refl _, by go_num, hN0⟩
  case round =>
    clear hN0
    obtain ⟨q, hq, rfl, hN⟩ := hrel
    obtain ⟨k, x, s, an, ln, cn, ai, li, ci, hA, hS⟩ := hN.out
    clear hN
    by_cases hq0 : q = 0
    rotate_left
    · obtain ⟨i, rfl⟩ : ∃ i, q = i + 1 := ⟨q - 1, by omega⟩
      have hlt : i < l.length := by omega
      obtain ⟨sg, hsg⟩ : ∃ z, Hid (l[i]? = some z) := ⟨_, hid_e (List.getElem?_eq_getElem hlt)⟩
      obtain ⟨b, o, rfl, hc⟩ : ∃ b o, a = some ⟨b, o, none⟩ ∧ w0.cell? ⟨b, o + i, none⟩ = some (.string sg) := by
        obtain ⟨a0, c0, e, -, h⟩ := hP.out
        obtain ⟨g, o, rfl, -, h⟩ := h.resolve_left (by intro e; subst e; simp at hlt)
        simp only [Value.slice.injEq] at e
        exact ⟨g, o, e.1, h i sg hsg.out⟩
      rw [show (((i + 1 : Nat) : Int) - 1) = (i : Int) by omega]
      have i1 : (i : Int) < (l.length : Int) := by omega
      have i0 : (0 : Int) ≤ (i : Int) := by omega
      have hcw : wr.cell? ⟨b, o + i, none⟩ = some (.string sg) := ((h0.trans (hA.below.mono h0.size)).cell (cell_lt hc)).trans hc
      go_upto_region 4 with fail
      replace hA := hA.drew
      replace hcw : wr.drew.cell? ⟨b, o + i, none⟩ = some (.string sg) := hcw
      replace hS : Seen wr.drew (fun j => j < w0.heap.size ∨ w.heap.size + 2 ≤ j) _ (five k x s (.slice an ln cn) (.slice ai li ci)) := hS.keep ⟨rfl, rfl, rfl, Nat.le_refl _, fun _ _ => rfl⟩
      replace hS := hid_e hS
      generalize hX : wr.drew = X9 at hA hcw hS
      refine wp_region_noPanic ?_
      refine Until.wp_region_U (fun w' => w'.cell? ⟨b, o + i, none⟩ = some (.string sg)) (fun w' => w'.heap[w.heap.size]? = some (.cells #[.int .i64 k, .int .i64 x, .string s, .slice an ln cn, .slice ai li ci] 25 (0, 0))) 8 (by kernel_rfl) ?_
      rw [hX]
      clear hX
      refine Until.wpU_pure (i := 0) (oi := { dst := some 13, op := Op.move (Operand.tmp 0), type := 22, pos := "ref.go:151", after := #[], guard := none }) (v := .slice (some ⟨b, o, none⟩) l.length c) rfl (by kernel_rfl) (by kernel_rfl) (by kernel_rfl) (by kernel_rfl) (by kernel_rfl) (fun _ _ _ h => h) hcw (fun _ => hA.one) (by rfl) (by intro w'; go_simp) ?_
      try simp only [Act.put, List.setIfInBounds_toArray, List.set_cons_zero, List.set_cons_succ]
      refine Until.wpU_pure (i := 1) (oi := { dst := some 14, op := Op.move (Operand.tmp 5), type := 3, pos := "ref.go:151", after := #[], guard := none }) (v := .int .i64 (i : Int)) rfl (by kernel_rfl) (by kernel_rfl) (by kernel_rfl) (by kernel_rfl) (by kernel_rfl) (fun _ _ _ h => h) hcw (fun _ => hA.one) (by rfl) (by intro w'; go_simp) ?_
      try simp only [Act.put, List.setIfInBounds_toArray, List.set_cons_zero, List.set_cons_succ]
      refine Until.wpU_pure (i := 2) (oi := { dst := some 15, op := Op.indexAddr 22 (Operand.tmp 13) (Operand.tmp 14), type := 0, pos := "ref.go:151", after := #[{ on := 0, ground := Ground.data }, { on := 1, ground := Ground.data }], guard := none }) (v := .pointer (some ⟨b, o + i, none⟩)) rfl (by kernel_rfl) (by kernel_rfl) (by kernel_rfl) (by kernel_rfl) (by kernel_rfl) (fun _ _ _ h => h) hcw (fun _ => hA.one) (by rfl) (by intro w'; go_simp) ?_
      try simp only [Act.put, List.setIfInBounds_toArray, List.set_cons_zero, List.set_cons_succ]
      refine Until.wpU_load0 (i := 3) (oi := { dst := some 16, op := Op.load 9 (Operand.tmp 15), type := 9, pos := "ref.go:151", after := #[{ on := 2, ground := Ground.data }], guard := none }) (v := .string sg) rfl (by kernel_rfl) (by kernel_rfl) (by kernel_rfl) (by kernel_rfl) (by kernel_rfl) (fun _ _ _ h => h) hcw (fun _ => hA.one) (by rfl) (by intro w' hw'; go_simp) ?_
      try simp only [Act.put, List.setIfInBounds_toArray, List.set_cons_zero, List.set_cons_succ]
      refine Until.wpU_load1 (i := 5) (oi := { dst := some 18, op := Op.load 25 (Operand.tmp 3), type := 25, pos := "ref.go:151", after := #[], guard := none }) (v := .agg #[.int .i64 k, .int .i64 x, .string s, .slice an ln cn, .slice ai li ci]) rfl (by kernel_rfl) (by kernel_rfl) (by kernel_rfl) (by kernel_rfl) (by kernel_rfl) (by kernel_rfl) (fun _ _ _ h => h) hcw hA.one (by rfl) (by intro w' hw'; obtain ⟨t0, t1, t2, t3, t4, -⟩ := row_cells hw'; clear hw'; go_simp) ?_
      try simp only [Act.put, List.setIfInBounds_toArray, List.set_cons_zero, List.set_cons_succ]
      have hbl := Below.refl X9.heap.size X9
      have hA2 := hA
      refine Until.wpU_ready (rs := [4, 6]) (by kernel_rfl) (by simp) ?_
      refine (Until.AllU.cons (o := { dst := some 17, op := Op.buildSlice 22 1 #[(0, Operand.tmp 16)], type := 22, pos := "ref.go:151", after := #[{ on := 3, ground := Ground.data }], guard := none }) rfl (fun K hK => ?_) (Until.AllU.cons (o := { dst := some 19, op := Op.buildSlice 23 1 #[(0, Operand.tmp 18)], type := 23, pos := "ref.go:151", after := #[{ on := 5, ground := Ground.data }], guard := none }) rfl (fun K hK => ?_) Until.AllU.nil))
      · skip
        go_simp
        have hs9 := heap_alloc_new X9 (.cells #[.string sg] 9)
        replace hcw := cell_alloc' hcw (.cells #[.string sg] 9)
        have hle0 : X9.heap.size ≤ X9.heap.size := hbl.size
        replace hbl := hbl.alloc hbl.size (.cells #[.string sg] 9)
        replace hA2 := hA2.alloc (.cells #[.string sg] 9)
        refine hK.out _ _ hcw (fun _ => hA2.one) ?_
        clear hK K
        try simp only [Act.put, List.setIfInBounds_toArray, List.set_cons_zero, List.set_cons_succ]
        generalize X9.alloc (.cells #[.string sg] 9) = W1 at hs9 hcw hbl hA2 ⊢
        obtain ⟨gs, hq9⟩ : ∃ g, X9.heap.size = g := ⟨_, rfl⟩
        have hlegs : X9.heap.size ≤ gs := Nat.le_trans hle0 (Nat.le_of_eq hq9)
        clear hle0
        rw [hq9] at hs9
        rw [hq9]
        clear hq9
        refine Until.wpU_ready (rs := [6]) (by kernel_rfl) (by simp) ?_
        refine (Until.AllU.cons (o := { dst := some 19, op := Op.buildSlice 23 1 #[(0, Operand.tmp 18)], type := 23, pos := "ref.go:151", after := #[{ on := 5, ground := Ground.data }], guard := none }) rfl (fun K hK => ?_) Until.AllU.nil)
        go_simp
        have hv9 := heap_alloc_new W1 (.cells #[.int .i64 k, .int .i64 x, .string s, .slice an ln cn, .slice ai li ci] 25)
        replace hcw := cell_alloc' hcw (.cells #[.int .i64 k, .int .i64 x, .string s, .slice an ln cn, .slice ai li ci] 25)
        have hle0 : X9.heap.size ≤ W1.heap.size := hbl.size
        replace hbl := hbl.alloc hbl.size (.cells #[.int .i64 k, .int .i64 x, .string s, .slice an ln cn, .slice ai li ci] 25)
        replace hA2 := hA2.alloc (.cells #[.int .i64 k, .int .i64 x, .string s, .slice an ln cn, .slice ai li ci] 25)
        replace hs9 := (Below.heap_alloc W1 (.cells #[.int .i64 k, .int .i64 x, .string s, .slice an ln cn, .slice ai li ci] 25) _ (Array.getElem?_eq_some_iff.1 hs9).1).trans hs9
        refine hK.out _ _ hcw (fun _ => hA2.one) ?_
        clear hK K
        try simp only [Act.put, List.setIfInBounds_toArray, List.set_cons_zero, List.set_cons_succ]
        generalize W1.alloc (.cells #[.int .i64 k, .int .i64 x, .string s, .slice an ln cn, .slice ai li ci] 25) = W2 at hv9 hcw hbl hA2 hs9 ⊢
        obtain ⟨gv, hq9⟩ : ∃ g, W1.heap.size = g := ⟨_, rfl⟩
        have hlegv : X9.heap.size ≤ gv := Nat.le_trans hle0 (Nat.le_of_eq hq9)
        clear hle0
        rw [hq9] at hv9
        rw [hq9]
        clear hq9
        have hst := hid_e (NestAt.step (Y := W2) (gs := gs) (gv := gv) (s := sg) hA hS.out hbl hs9 hv9 hlegs hlegv h0.size ⟨_, _, _, _, _, rfl⟩)
        rw [← nest_drop hsg.out] at hst
        refine Until.wpU_pure (i := 7) (oi := { dst := some 20, op := Op.build 25 #[(0, Operand.const (Value.int IntKind.i64 6)), (3, Operand.tmp 17), (4, Operand.tmp 19)], type := 25, pos := "ref.go:151", after := #[{ on := 4, ground := Ground.data }, { on := 6, ground := Ground.data }], guard := none }) (v := .agg #[.int .i64 6, .int .i64 0, .string ⟨#[]⟩, .slice (some ⟨gs, 0, none⟩) 1 1, .slice (some ⟨gv, 0, none⟩) 1 1]) rfl (by kernel_rfl) (by kernel_rfl) (by kernel_rfl) (by kernel_rfl) (by kernel_rfl) (fun _ _ _ h => h) hcw (fun _ => hA2.one) (by rfl) (by intro w'; go_simp) ?_
        try simp only [Act.put, List.setIfInBounds_toArray, List.set_cons_zero, List.set_cons_succ]
        obtain ⟨z0, z1, z2, z3, z4, zf⟩ := row_cells hA2.one
        have zf0 := zf 0; have zf1 := zf 1; have zf2 := zf 2; have zf3 := zf 3; have zf4 := zf 4
        clear zf
        refine Until.wpU_ready (rs := [8]) (by kernel_rfl) (by simp) ?_
        refine (Until.AllU.cons (o := { dst := none, op := Op.store 25 (Operand.tmp 3) (Operand.tmp 20), type := 0, pos := "ref.go:151", after := #[{ on := 7, ground := Ground.data }, { on := 0, ground := Ground.phase }, { on := 1, ground := Ground.phase }, { on := 2, ground := Ground.phase }, { on := 3, ground := Ground.phase }, { on := 4, ground := Ground.phase }, { on := 5, ground := Ground.phase }, { on := 6, ground := Ground.phase }, { on := 7, ground := Ground.phase }], guard := none }) rfl (fun K hK => ?_) Until.AllU.nil)
        go_simp
        have hcz : (put5 W2 w.heap.size (.int .i64 6) (.int .i64 0) (.string ⟨#[]⟩) (.slice (some ⟨gs, 0, none⟩) 1 1) (.slice (some ⟨gv, 0, none⟩) 1 1)).cell? ⟨b, o + i, none⟩ = some (.string sg) := (World.cell?_of_block (w := W2) (a := ⟨b, o + i, none⟩) (put5_far _ _ _ _ _ (Nat.ne_of_lt (Nat.lt_of_lt_of_le (cell_lt hc) h0.size)))).trans hcw
        refine hK.out _ _ hcz (fun h => absurd h (by decide)) ?_
        clear hK K
        try simp only [Act.put, List.setIfInBounds_toArray, List.set_cons_zero, List.set_cons_succ]
        clear z0 z1 z2 z3 z4 zf0 zf1 zf2 zf3 zf4
        refine Until.wpU_done (by kernel_rfl) ?_ _
        refine NoPanic.normal ?_
        go_wp2_with fail
        go_roundw
        case rel => exact ⟨i, by omega, by go_num, hst⟩
        case measure => simp [intOf]
      · skip
        go_simp
        have hv9 := heap_alloc_new X9 (.cells #[.int .i64 k, .int .i64 x, .string s, .slice an ln cn, .slice ai li ci] 25)
        replace hcw := cell_alloc' hcw (.cells #[.int .i64 k, .int .i64 x, .string s, .slice an ln cn, .slice ai li ci] 25)
        have hle0 : X9.heap.size ≤ X9.heap.size := hbl.size
        replace hbl := hbl.alloc hbl.size (.cells #[.int .i64 k, .int .i64 x, .string s, .slice an ln cn, .slice ai li ci] 25)
        replace hA2 := hA2.alloc (.cells #[.int .i64 k, .int .i64 x, .string s, .slice an ln cn, .slice ai li ci] 25)
        refine hK.out _ _ hcw (fun _ => hA2.one) ?_
        clear hK K
        try simp only [Act.put, List.setIfInBounds_toArray, List.set_cons_zero, List.set_cons_succ]
        generalize X9.alloc (.cells #[.int .i64 k, .int .i64 x, .string s, .slice an ln cn, .slice ai li ci] 25) = W1 at hv9 hcw hbl hA2 ⊢
        obtain ⟨gv, hq9⟩ : ∃ g, X9.heap.size = g := ⟨_, rfl⟩
        have hlegv : X9.heap.size ≤ gv := Nat.le_trans hle0 (Nat.le_of_eq hq9)
        clear hle0
        rw [hq9] at hv9
        rw [hq9]
        clear hq9
        refine Until.wpU_ready (rs := [4]) (by kernel_rfl) (by simp) ?_
        refine (Until.AllU.cons (o := { dst := some 17, op := Op.buildSlice 22 1 #[(0, Operand.tmp 16)], type := 22, pos := "ref.go:151", after := #[{ on := 3, ground := Ground.data }], guard := none }) rfl (fun K hK => ?_) Until.AllU.nil)
        go_simp
        have hs9 := heap_alloc_new W1 (.cells #[.string sg] 9)
        replace hcw := cell_alloc' hcw (.cells #[.string sg] 9)
        have hle0 : X9.heap.size ≤ W1.heap.size := hbl.size
        replace hbl := hbl.alloc hbl.size (.cells #[.string sg] 9)
        replace hA2 := hA2.alloc (.cells #[.string sg] 9)
        replace hv9 := (Below.heap_alloc W1 (.cells #[.string sg] 9) _ (Array.getElem?_eq_some_iff.1 hv9).1).trans hv9
        refine hK.out _ _ hcw (fun _ => hA2.one) ?_
        clear hK K
        try simp only [Act.put, List.setIfInBounds_toArray, List.set_cons_zero, List.set_cons_succ]
        generalize W1.alloc (.cells #[.string sg] 9) = W2 at hs9 hcw hbl hA2 hv9 ⊢
        obtain ⟨gs, hq9⟩ : ∃ g, W1.heap.size = g := ⟨_, rfl⟩
        have hlegs : X9.heap.size ≤ gs := Nat.le_trans hle0 (Nat.le_of_eq hq9)
        clear hle0
        rw [hq9] at hs9
        rw [hq9]
        clear hq9
        have hst := hid_e (NestAt.step (Y := W2) (gs := gs) (gv := gv) (s := sg) hA hS.out hbl hs9 hv9 hlegs hlegv h0.size ⟨_, _, _, _, _, rfl⟩)
        rw [← nest_drop hsg.out] at hst
        refine Until.wpU_pure (i := 7) (oi := { dst := some 20, op := Op.build 25 #[(0, Operand.const (Value.int IntKind.i64 6)), (3, Operand.tmp 17), (4, Operand.tmp 19)], type := 25, pos := "ref.go:151", after := #[{ on := 4, ground := Ground.data }, { on := 6, ground := Ground.data }], guard := none }) (v := .agg #[.int .i64 6, .int .i64 0, .string ⟨#[]⟩, .slice (some ⟨gs, 0, none⟩) 1 1, .slice (some ⟨gv, 0, none⟩) 1 1]) rfl (by kernel_rfl) (by kernel_rfl) (by kernel_rfl) (by kernel_rfl) (by kernel_rfl) (fun _ _ _ h => h) hcw (fun _ => hA2.one) (by rfl) (by intro w'; go_simp) ?_
        try simp only [Act.put, List.setIfInBounds_toArray, List.set_cons_zero, List.set_cons_succ]
        obtain ⟨z0, z1, z2, z3, z4, zf⟩ := row_cells hA2.one
        have zf0 := zf 0; have zf1 := zf 1; have zf2 := zf 2; have zf3 := zf 3; have zf4 := zf 4
        clear zf
        refine Until.wpU_ready (rs := [8]) (by kernel_rfl) (by simp) ?_
        refine (Until.AllU.cons (o := { dst := none, op := Op.store 25 (Operand.tmp 3) (Operand.tmp 20), type := 0, pos := "ref.go:151", after := #[{ on := 7, ground := Ground.data }, { on := 0, ground := Ground.phase }, { on := 1, ground := Ground.phase }, { on := 2, ground := Ground.phase }, { on := 3, ground := Ground.phase }, { on := 4, ground := Ground.phase }, { on := 5, ground := Ground.phase }, { on := 6, ground := Ground.phase }, { on := 7, ground := Ground.phase }], guard := none }) rfl (fun K hK => ?_) Until.AllU.nil)
        go_simp
        have hcz : (put5 W2 w.heap.size (.int .i64 6) (.int .i64 0) (.string ⟨#[]⟩) (.slice (some ⟨gs, 0, none⟩) 1 1) (.slice (some ⟨gv, 0, none⟩) 1 1)).cell? ⟨b, o + i, none⟩ = some (.string sg) := (World.cell?_of_block (w := W2) (a := ⟨b, o + i, none⟩) (put5_far _ _ _ _ _ (Nat.ne_of_lt (Nat.lt_of_lt_of_le (cell_lt hc) h0.size)))).trans hcw
        refine hK.out _ _ hcz (fun h => absurd h (by decide)) ?_
        clear hK K
        try simp only [Act.put, List.setIfInBounds_toArray, List.set_cons_zero, List.set_cons_succ]
        clear z0 z1 z2 z3 z4 zf0 zf1 zf2 zf3 zf4
        refine Until.wpU_done (by kernel_rfl) ?_ _
        refine NoPanic.normal ?_
        go_wp2_with fail
        go_roundw
        case rel => exact ⟨i, by omega, by go_num, hst⟩
        case measure => simp [intOf]
    · subst hq0
      rw [List.drop_zero] at hS
      obtain ⟨y0, y1, y2, y3, y4, -⟩ := row_cells hA.one
      obtain ⟨z0, z1, z2, z3, z4, zf⟩ := row_cells hA.two
      have zf0 := zf 0; have zf1 := zf 1; have zf2 := zf 2; have zf3 := zf 3; have zf4 := zf 4
      clear zf
      replace hS := hid_e hS
      rw [show (((0 : Nat) : Int) - 1) = -1 from rfl]
      go_wp2_with fail
      have hr5 := put5_cells hA.two (.int .i64 k) (.int .i64 x) (.string s) (.slice an ln cn) (.slice ai li ci)
      have r0 := hr5 0; have r1 := hr5 1; have r2 := hr5 2; have r3 := hr5 3; have r4 := hr5 4
      clear hr5
      refine bodyPost_ret (v := .agg #[.int .i64 k, .int .i64 x, .string s, .slice an ln cn, .slice ai li ci]) (by simp [results, Try.results38, go_sem, r0, r1, r2, r3, r4]) rfl ?_
      obtain ⟨hse, hbe⟩ := nest_end hA h0.size hS.out (.int .i64 k) (.int .i64 x) (.string s) (.slice an ln cn) (.slice ai li ci)
      exact ⟨k, x, s, an, ln, cn, ai, li, ci, rfl, hse, hbe⟩
end Go.Proofs.Ytmlbofbnklmedaa
