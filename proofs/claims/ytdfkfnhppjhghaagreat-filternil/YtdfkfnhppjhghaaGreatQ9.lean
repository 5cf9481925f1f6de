import Derived.Test.YtdfkfnhppjhghaaGreatQ8
import Derived.Test.YtdfkfnhppjhghaaGreatU1
import Derived.Deep.RegionHeld3
import Derived.Deep.DeepCutAuto
import Derived.Deep.Upon
/-! A test {"$gt": 4} read. -/
namespace Go.Proofs.YtdfkfnhppjhghaaGreat
open Go Go.RowKit

theorem gstay {X W : World} {br : Nat} (h : X.grownBy W (some br)) {p : Addr} {v : Value} (hc : X.cell? p = some v) (hne : p.block ≠ br) : W.cell? p = some v :=
  (World.cell?_of_block (w := X) (h.block _ (lt_of_cell hc) (fun e => hne (Option.some.inj e)))).trans hc
def TestMid (w W : World) (br m b4 : Nat) : Prop := w.grownBy W (some br) ∧ ReaderAt W br m 1 ∧ Gt W b4
theorem grown_of_below {w W : World} (h : Below w.heap.size w W) (r : Option Nat) : w.grownBy W r := ⟨h.os, h.tape, h.output, h.size, fun k hk _ => h.block k hk⟩
theorem test_mid {w X w5 W : World} {br m b4 : Nat} (hX : w.grownBy X (some br)) (hg : X.grownBy w5 (some br)) (hR : ReaderAt w5 br m 1) (hG : Gt w5 b4) (hW : Below w5.heap.size w5 W) : TestMid w W br m b4 :=
  ⟨grown_tr (grown_tr hX hg) (grown_of_below hW _), block_keep hR hW, hG.keep hW⟩
theorem grown_but {X w5 W : World} {br g : Nat} (h : X.grownBy w5 (some br)) (hb : But g w5 W) (hg : X.heap.size ≤ g) : X.grownBy W (some br) :=
  ⟨hb.os.trans h.os, hb.tape.trans h.tape, hb.output.trans h.output, by rw [hb.size]; exact h.size, fun k hk hne => (hb.block k (by omega)).trans (h.block k hk hne)⟩
theorem test_mid2 {w X Z w5 W : World} {br m b4 : Nat} (hX : w.grownBy X (some br)) (hXZ : Below X.heap.size X Z) (hg : Z.grownBy w5 (some br)) (hR : ReaderAt w5 br m 1) (hG : Gt w5 b4) (hz : w5.cell? ⟨X.heap.size, 0, none⟩ = some (.int .i64 0)) (hb : But X.heap.size w5 W) (hbr : br ≠ X.heap.size) : TestMid w W br m b4 := by
  obtain ⟨b3, b2, g1, g2, g3⟩ := hG.is
  have n4 : b4 ≠ X.heap.size := fun e => by rw [e, hz] at g1; cases g1
  have n3 : b3 ≠ X.heap.size := fun e => by have := g2.1; rw [e, hz] at this; cases this
  have n2 : b2 ≠ X.heap.size := fun e => by rw [e, hz] at g3; cases g3
  have f : ∀ p : Addr, p.block ≠ X.heap.size → ∀ v, w5.cell? p = some v → W.cell? p = some v := fun p hp v h => (World.cell?_of_block (w := w5) (hb.block _ hp)).trans h
  refine ⟨?_, (hb.block br hbr).trans hR, ⟨b3, b2, f _ n4 _ g1, ⟨f _ n3 _ g2.1, f _ n3 _ g2.2.1, f _ n3 _ g2.2.2.1, f _ n3 _ g2.2.2.2.1, f _ n3 _ g2.2.2.2.2⟩, f _ n2 _ g3⟩⟩
  have h := grown_tr hX (grown_tr (grown_of_below hXZ (some br)) hg)
  exact ⟨hb.os.trans h.os, hb.tape.trans h.tape, hb.output.trans h.output, by rw [hb.size]; exact h.size, fun k hk hne => (hb.block k (by have := hX.size; omega)).trans (h.block k hk hne)⟩
/-- What test answers. -/
def TestPost (w : World) (br m : Nat) (e : Ending) (w' : World) : Prop :=
  w.grownBy w' (some br) ∧ ReaderAt w' br m 1 ∧ ∃ bt ct b4, e = .returned (.tuple #[.slice (some ⟨bt, 0, none⟩) 1 ct, .int .i64 0]) ∧ TermAt w' bt b4 ∧ Gt w' b4
theorem test_fin {w W w9 : World} {br m b4 g cap lo : Nat} {o : Obj} (h : TestMid w W br m b4) (hown : w9.ownsRow lo 96 7 (.slice (some ⟨g, 0, none⟩) 1 cap) 1 ([] ++ [.int .i64 2, .int .i64 3, .int .i64 4, .string ⟨#[]⟩, .slice none 0 0, .slice none 0 0, .func (.func 86) #[] #[.pointer (some ⟨b4, 0, none⟩)]])) (hgrow : (W.alloc o).grownBy w9 none) :
    TestPost w br m (.returned (.tuple #[.slice (some ⟨g, 0, none⟩) 1 cap, .int .i64 0])) w9 := by
  have hb : Below W.heap.size W w9 := ((Below.refl _ W).alloc (Nat.le_refl _) o).trans ⟨hgrow.os, hgrow.tape, hgrow.output, hgrow.size, fun k hk => hgrow.block k (by simp; omega) (by simp)⟩
  exact ⟨grown_tr h.1 (grown_of_below hb _), block_keep h.2.1 hb, g, cap, b4, rfl, ⟨hown.cellAt 0 (by omega), hown.cellAt 1 (by omega), hown.cellAt 2 (by omega), hown.cellAt 3 (by omega), hown.cellAt 4 (by omega), hown.cellAt 5 (by omega), hown.cellAt 6 (by omega)⟩, h.2.2.keep hb⟩
theorem members_one (bn cn bi ci : Nat) (w : World) : Calls Tryz.prog 69 #[objV bn cn bi ci] w fun e w' => e = .returned (.int .i64 1) ∧ Below w.heap.size w w' := by
  unfold objV
  go_enter Tryz.func69, Tryz.ntmps69
  go_wp2
  go_ret
  exact ⟨rfl, (Below.refl _ w).alloc (Nat.le_refl _) _⟩
theorem AT : (Tryz.prog.info? 96).map (fun i => (i.zero, i.size, i.bytes)) = some (some (.agg #[.int .i64 0, .int .i64 0, .int .i64 0, .string ⟨#[]⟩, .slice none 0 0, .slice none 0 0, .nilFunc]), 7, 96) := by kernel_rfl
set_option maxHeartbeats 2000000 in
set_option maxRecDepth 100000 in
theorem test_gt (br m b1 b2 bn cn bi ci : Nat) (w : World) (hR : ReaderAt w br m 0) (hT : Table w m b1 b2) (hm : m ≠ br) (h1 : b1 ≠ br) (h2 : b2 ≠ br) (hn : w.cell? ⟨bn, 0, none⟩ = some (.string dollarGt)) (hI : NumAt w bi 0 4) (hnb : bn ≠ br) (hib : bi ≠ br) :
    Calls Tryz.prog 99 #[.pointer (some ⟨br, 0, none⟩), objV bn cn bi ci, .int .i64 0] w (TestPost w br m) := by
  obtain ⟨it, hit, hz0, hz1, hz2⟩ := info_parts AT
  have hbr0 := (Array.getElem?_eq_some_iff.1 hR).1
  have hlt := hT.lt
  have HB : Below w.heap.size w (w.alloc (objC bn cn bi ci)) := (Below.refl _ w).alloc (Nat.le_refl _) _
  have n0 := heap_alloc_new w (objC bn cn bi ci)
  have hmem := fun W => hid_of (members_one bn cn bi ci W)
  unfold objC at HB n0
  unfold objV at *
  go_enter Tryz.func99, Tryz.ntmps99
  go_wp2_with fail
  generalize w.alloc (.cells #[.int .i64 6, .int .i64 0, .string ⟨#[]⟩, .slice (some ⟨bn, 0, none⟩) 1 cn, .slice (some ⟨bi, 0, none⟩) 1 ci] 28) = X0 at HB n0
  refine (hmem _).out.mono ?_
  rintro e X1 ⟨rfl, hb1⟩
  replace HB := HB.trans (hb1.mono HB.size)
  replace n0 := block_keep n0 hb1
  clear hb1
  obtain ⟨y0, y1, y2, y3, y4, -⟩ := row_cells n0
  go_wp2_with fail
  refine (hmem _).out.mono ?_
  rintro e X2 ⟨rfl, hb2⟩
  replace HB := HB.trans (hb2.mono HB.size)
  replace n0 := block_keep n0 hb2
  clear hb2 hmem y0 y1 y2 y3 y4
  go_wp2_with fail
  refine wp_loop_rounds 2 ?_
  rw [rounds_succ]
  go_upto_region 9 with fail
  have hXw : Below w.heap.size w X2.drew := below_drew HB
  obtain ⟨-, -, -, x3, x4, -⟩ := row_cells (w := X2.drew) n0
  have hXg : Hid (w.grownBy X2.drew (some br)) := hid_of (grown_of_below hXw _)
  have hbr : Hid (br < w.heap.size ∧ w.heap.size ≤ X2.drew.heap.size) := hid_of ⟨hbr0, hXw.size⟩
  have bne : w.heap.size ≠ br ∧ bn ≠ br ∧ bi ≠ br := ⟨by omega, hnb, hib⟩
  have xn : X2.drew.cell? ⟨bn, 0, none⟩ = some (.string ⟨#[36, 103, 116]⟩) := stay hXw hn
  obtain ⟨i0, i1, i2, i3, i4⟩ := hI.keep hXw
  have hterm : Hid (∀ W, Below X2.drew.heap.size X2.drew W → Calls Tryz.prog 130 #[.pointer (some ⟨br, 0, none⟩), .string ⟨#[36, 103, 116]⟩, .agg #[.int .i64 3, .int .i64 4, .string ⟨#[]⟩, .slice none 0 0, .slice none 0 0], .int .i64 0] W fun e w' => W.grownBy w' (some br) ∧ ReaderAt w' br m 1 ∧ ∃ b4, W.heap.size ≤ b4 ∧ e = .returned (.tuple #[.agg #[.int .i64 2, .int .i64 3, .int .i64 4, .string ⟨#[]⟩, .slice none 0 0, .slice none 0 0, .func (.func 86) #[] #[.pointer (some ⟨b4, 0, none⟩)]], .int .i64 0]) ∧ Gt w' b4) := hid_of (fun W hW => by
    have hWw := hXw.trans (hW.mono hXw.size)
    exact term_gt br m b1 b2 0 W (block_keep hR hWw) (hT.mono (fun k hk => hWw.block k (by rcases hk with rfl | rfl | rfl <;> omega))) hm h1 h2)
  generalize hX : X2.drew = X at hXw hXg hbr xn i0 i1 i2 i3 i4 hterm x3 x4
  have hs0 : X.grownBy X (some br) := World.grownBy.refl _ _
  clear hXw HB n0 hR hT hm h1 h2 hn hI hnb hib hbr0 hlt
  refine wp_region_noPanic ?_
  refine Until.wp_region_U (fun W => X.grownBy W (some br)) (fun _ => True) 1000 (by kernel_rfl) ?_
  rw [hX]
  clear hX
  refine Until.wpU_pure (i := 0) (oi := { dst := some 28, op := Op.move (Operand.tmp 0), type := 110, pos := "read.go:88", after := #[], guard := none }) (v := .pointer (some ⟨br, 0, none⟩)) rfl (by kernel_rfl) (by kernel_rfl) (by kernel_rfl) (by kernel_rfl) (by kernel_rfl) (fun _ _ _ h => h) (hs0) (fun _ => trivial) (by rfl) (by intro w'; go_simp) ?_
  try simp only [Act.put, List.setIfInBounds_toArray, List.set_cons_zero, List.set_cons_succ]
  refine Until.wpU_pure (i := 1) (oi := { dst := some 29, op := Op.fieldAddr 28 (Operand.tmp 4) 3, type := 0, pos := "read.go:88", after := #[], guard := none }) (v := .pointer (some ⟨w.heap.size, 3, none⟩)) rfl (by kernel_rfl) (by kernel_rfl) (by kernel_rfl) (by kernel_rfl) (by kernel_rfl) (fun _ _ _ h => h) (hs0) (fun _ => trivial) (by rfl) (by intro w'; go_simp) ?_
  try simp only [Act.put, List.setIfInBounds_toArray, List.set_cons_zero, List.set_cons_succ]
  refine Until.wpU_load0 (i := 2) (oi := { dst := some 30, op := Op.load 25 (Operand.tmp 29), type := 25, pos := "read.go:88", after := #[{ on := 1, ground := Ground.data }], guard := none }) (v := .slice (some ⟨bn, 0, none⟩) 1 cn) rfl (by kernel_rfl) (by kernel_rfl) (by kernel_rfl) (by kernel_rfl) (by kernel_rfl) (fun _ _ _ h => h) (hs0) (fun _ => trivial) (by rfl) (by intro w' hw'; have t0 := gstay hw' x3 bne.1; go_simp) ?_
  try simp only [Act.put, List.setIfInBounds_toArray, List.set_cons_zero, List.set_cons_succ]
  refine Until.wpU_pure (i := 3) (oi := { dst := some 31, op := Op.move (Operand.tmp 9), type := 3, pos := "read.go:88", after := #[], guard := none }) (v := .int .i64 0) rfl (by kernel_rfl) (by kernel_rfl) (by kernel_rfl) (by kernel_rfl) (by kernel_rfl) (fun _ _ _ h => h) (hs0) (fun _ => trivial) (by rfl) (by intro w'; go_simp) ?_
  try simp only [Act.put, List.setIfInBounds_toArray, List.set_cons_zero, List.set_cons_succ]
  refine Until.wpU_pure (i := 4) (oi := { dst := some 32, op := Op.indexAddr 25 (Operand.tmp 30) (Operand.tmp 31), type := 0, pos := "read.go:88", after := #[{ on := 2, ground := Ground.data }, { on := 3, ground := Ground.data }], guard := none }) (v := .pointer (some ⟨bn, 0, none⟩)) rfl (by kernel_rfl) (by kernel_rfl) (by kernel_rfl) (by kernel_rfl) (by kernel_rfl) (fun _ _ _ h => h) (hs0) (fun _ => trivial) (by rfl) (by intro w'; go_simp) ?_
  try simp only [Act.put, List.setIfInBounds_toArray, List.set_cons_zero, List.set_cons_succ]
  refine Until.wpU_load0 (i := 5) (oi := { dst := some 33, op := Op.load 9 (Operand.tmp 32), type := 9, pos := "read.go:88", after := #[{ on := 4, ground := Ground.data }], guard := none }) (v := .string ⟨#[36, 103, 116]⟩) rfl (by kernel_rfl) (by kernel_rfl) (by kernel_rfl) (by kernel_rfl) (by kernel_rfl) (fun _ _ _ h => h) (hs0) (fun _ => trivial) (by rfl) (by intro w' hw'; have t0 := gstay hw' xn bne.2.1; go_simp) ?_
  try simp only [Act.put, List.setIfInBounds_toArray, List.set_cons_zero, List.set_cons_succ]
  refine Until.wpU_pure (i := 6) (oi := { dst := some 34, op := Op.fieldAddr 28 (Operand.tmp 4) 4, type := 0, pos := "read.go:88", after := #[], guard := none }) (v := .pointer (some ⟨w.heap.size, 4, none⟩)) rfl (by kernel_rfl) (by kernel_rfl) (by kernel_rfl) (by kernel_rfl) (by kernel_rfl) (fun _ _ _ h => h) (hs0) (fun _ => trivial) (by rfl) (by intro w'; go_simp) ?_
  try simp only [Act.put, List.setIfInBounds_toArray, List.set_cons_zero, List.set_cons_succ]
  refine Until.wpU_load0 (i := 7) (oi := { dst := some 35, op := Op.load 26 (Operand.tmp 34), type := 26, pos := "read.go:88", after := #[{ on := 6, ground := Ground.data }], guard := none }) (v := .slice (some ⟨bi, 0, none⟩) 1 ci) rfl (by kernel_rfl) (by kernel_rfl) (by kernel_rfl) (by kernel_rfl) (by kernel_rfl) (fun _ _ _ h => h) (hs0) (fun _ => trivial) (by rfl) (by intro w' hw'; have t0 := gstay hw' x4 bne.1; go_simp) ?_
  try simp only [Act.put, List.setIfInBounds_toArray, List.set_cons_zero, List.set_cons_succ]
  refine Until.wpU_pure (i := 8) (oi := { dst := some 36, op := Op.move (Operand.tmp 9), type := 3, pos := "read.go:88", after := #[], guard := none }) (v := .int .i64 0) rfl (by kernel_rfl) (by kernel_rfl) (by kernel_rfl) (by kernel_rfl) (by kernel_rfl) (fun _ _ _ h => h) (hs0) (fun _ => trivial) (by rfl) (by intro w'; go_simp) ?_
  try simp only [Act.put, List.setIfInBounds_toArray, List.set_cons_zero, List.set_cons_succ]
  refine Until.wpU_pure (i := 9) (oi := { dst := some 37, op := Op.indexAddr 26 (Operand.tmp 35) (Operand.tmp 36), type := 0, pos := "read.go:88", after := #[{ on := 7, ground := Ground.data }, { on := 8, ground := Ground.data }], guard := none }) (v := .pointer (some ⟨bi, 0, none⟩)) rfl (by kernel_rfl) (by kernel_rfl) (by kernel_rfl) (by kernel_rfl) (by kernel_rfl) (fun _ _ _ h => h) (hs0) (fun _ => trivial) (by rfl) (by intro w'; go_simp) ?_
  try simp only [Act.put, List.setIfInBounds_toArray, List.set_cons_zero, List.set_cons_succ]
  refine Until.wpU_load0 (i := 10) (oi := { dst := some 38, op := Op.load 28 (Operand.tmp 37), type := 28, pos := "read.go:88", after := #[{ on := 9, ground := Ground.data }], guard := none }) (v := .agg #[.int .i64 3, .int .i64 4, .string ⟨#[]⟩, .slice none 0 0, .slice none 0 0]) rfl (by kernel_rfl) (by kernel_rfl) (by kernel_rfl) (by kernel_rfl) (by kernel_rfl) (fun _ _ _ h => h) (hs0) (fun _ => trivial) (by rfl) (by intro w' hw'; have t0 := gstay hw' i0 bne.2.2; have t1 := gstay hw' i1 bne.2.2; have t2 := gstay hw' i2 bne.2.2; have t3 := gstay hw' i3 bne.2.2; have t4 := gstay hw' i4 bne.2.2; go_simp) ?_
  try simp only [Act.put, List.setIfInBounds_toArray, List.set_cons_zero, List.set_cons_succ]
  refine Until.wpU_pure (i := 11) (oi := { dst := some 39, op := Op.move (Operand.tmp 2), type := 3, pos := "read.go:88", after := #[], guard := none }) (v := .int .i64 0) rfl (by kernel_rfl) (by kernel_rfl) (by kernel_rfl) (by kernel_rfl) (by kernel_rfl) (fun _ _ _ h => h) (hs0) (fun _ => trivial) (by rfl) (by intro w'; go_simp) ?_
  try simp only [Act.put, List.setIfInBounds_toArray, List.set_cons_zero, List.set_cons_succ]
  refine Until.wpU_ready (rs := [12, 16]) (by kernel_rfl) (by simp) ?_
  refine (Until.AllU.cons (o := { dst := some 40, op := Op.call { callee := Callee.value (Operand.func 130), args := #[Operand.tmp 28, Operand.tmp 33, Operand.tmp 38, Operand.tmp 39], argTypes := #[110, 9, 28, 3] }, type := 139, pos := "read.go:88", after := #[{ on := 0, ground := Ground.data }, { on := 5, ground := Ground.data }, { on := 10, ground := Ground.data }, { on := 11, ground := Ground.data }], guard := none }) rfl (fun K hK => ?_) (Until.AllU.cons (o := { dst := some 10, op := Op.alloc 96, type := 0, pos := "read.go:88", after := #[], guard := none }) rfl (fun K hK => ?_) Until.AllU.nil))
  · go_simp
    refine (hterm.out X (Below.refl _ _)).mono ?_
    rintro e w5 ⟨hg5, hR5, b4, hle, rfl, hG5⟩
    have hs5 := grown_tr hs0 hg5
    refine hK.out _ _ hs5 (fun _ => trivial) ?_
    clear hK K
    try simp only [Act.put, List.setIfInBounds_toArray, List.set_cons_zero, List.set_cons_succ]
    refine Until.wpU_pure (i := 13) (oi := { dst := some 27, op := Op.move (Operand.tmp 40), type := 139, pos := "read.go:88", after := #[{ on := 12, ground := Ground.data }], guard := none }) (v := .tuple #[.agg #[.int .i64 2, .int .i64 3, .int .i64 4, .string ⟨#[]⟩, .slice none 0 0, .slice none 0 0, .func (.func 86) #[] #[.pointer (some ⟨b4, 0, none⟩)]], .int .i64 0]) rfl (by kernel_rfl) (by kernel_rfl) (by kernel_rfl) (by kernel_rfl) (by kernel_rfl) (fun _ _ _ h => h) (hs5) (fun _ => trivial) (by rfl) (by intro w'; go_simp) ?_
    try simp only [Act.put, List.setIfInBounds_toArray, List.set_cons_zero, List.set_cons_succ]
    refine Until.wpU_pure (i := 14) (oi := { dst := some 41, op := Op.extract (Operand.tmp 27) 0, type := 96, pos := "read.go:88", after := #[{ on := 13, ground := Ground.data }], guard := none }) (v := .agg #[.int .i64 2, .int .i64 3, .int .i64 4, .string ⟨#[]⟩, .slice none 0 0, .slice none 0 0, .func (.func 86) #[] #[.pointer (some ⟨b4, 0, none⟩)]]) rfl (by kernel_rfl) (by kernel_rfl) (by kernel_rfl) (by kernel_rfl) (by kernel_rfl) (fun _ _ _ h => h) (hs5) (fun _ => trivial) (by rfl) (by intro w'; go_simp) ?_
    try simp only [Act.put, List.setIfInBounds_toArray, List.set_cons_zero, List.set_cons_succ]
    refine Until.wpU_pure (i := 15) (oi := { dst := some 42, op := Op.extract (Operand.tmp 27) 1, type := 47, pos := "read.go:88", after := #[{ on := 13, ground := Ground.data }, { on := 17, ground := Ground.gcOnly Departure.lateStores }], guard := none }) (v := .int .i64 0) rfl (by kernel_rfl) (by kernel_rfl) (by kernel_rfl) (by kernel_rfl) (by kernel_rfl) (fun _ _ _ h => h) (hs5) (fun _ => trivial) (by rfl) (by intro w'; go_simp) ?_
    try simp only [Act.put, List.setIfInBounds_toArray, List.set_cons_zero, List.set_cons_succ]
    refine Until.wpU_ready (rs := [16]) (by kernel_rfl) (by simp) ?_
    refine (Until.AllU.cons (o := { dst := some 10, op := Op.alloc 96, type := 0, pos := "read.go:88", after := #[], guard := none }) rfl (fun K hK => ?_) Until.AllU.nil)
    go_simp
    have hs6 := grown_tr hs5 (World.grownBy_alloc w5 (.cells #[.int .i64 0, .int .i64 0, .int .i64 0, .string ⟨#[]⟩, .slice none 0 0, .slice none 0 0, .nilFunc] 96) (some br))
    refine hK.out _ _ hs6 (fun _ => trivial) ?_
    clear hK K
    try simp only [Act.put, List.setIfInBounds_toArray, List.set_cons_zero, List.set_cons_succ]
    refine Until.wpU_ready (rs := [17]) (by kernel_rfl) (by simp) ?_
    refine (Until.AllU.cons (o := { dst := none, op := Op.store 96 (Operand.tmp 10) (Operand.tmp 41), type := 0, pos := "read.go:88", after := #[{ on := 16, ground := Ground.data }, { on := 14, ground := Ground.data }, { on := 12, ground := Ground.chain }, { on := 0, ground := Ground.phase }, { on := 1, ground := Ground.phase }, { on := 2, ground := Ground.phase }, { on := 3, ground := Ground.phase }, { on := 4, ground := Ground.phase }, { on := 5, ground := Ground.phase }, { on := 6, ground := Ground.phase }, { on := 7, ground := Ground.phase }, { on := 8, ground := Ground.phase }, { on := 9, ground := Ground.phase }, { on := 10, ground := Ground.phase }, { on := 11, ground := Ground.phase }, { on := 12, ground := Ground.phase }, { on := 13, ground := Ground.phase }, { on := 14, ground := Ground.phase }, { on := 15, ground := Ground.textOnly Departure.lateStores }, { on := 16, ground := Ground.phase }], guard := none }) rfl (fun K hK => ?_) Until.AllU.nil)
    go_simp
    have hs7 := grown_tr hs5 (World.grownBy_alloc w5 (.cells #[.int .i64 2, .int .i64 3, .int .i64 4, .string ⟨#[]⟩, .slice none 0 0, .slice none 0 0, .func (.func 86) #[] #[.pointer (some ⟨b4, 0, none⟩)]] 96) (some br))
    have hb7 : Below w5.heap.size w5 (w5.alloc (.cells #[.int .i64 2, .int .i64 3, .int .i64 4, .string ⟨#[]⟩, .slice none 0 0, .slice none 0 0, .func (.func 86) #[] #[.pointer (some ⟨b4, 0, none⟩)]] 96)) := (Below.refl _ w5).alloc (Nat.le_refl _) _
    have hn7 := heap_alloc_new w5 (.cells #[.int .i64 2, .int .i64 3, .int .i64 4, .string ⟨#[]⟩, .slice none 0 0, .slice none 0 0, .func (.func 86) #[] #[.pointer (some ⟨b4, 0, none⟩)]] 96)
    have hfin := hid_of (test_mid hXg.out hg5 hR5 hG5 hb7)
    generalize w5.alloc (.cells #[.int .i64 2, .int .i64 3, .int .i64 4, .string ⟨#[]⟩, .slice none 0 0, .slice none 0 0, .func (.func 86) #[] #[.pointer (some ⟨b4, 0, none⟩)]] 96) = W7 at hs7 hn7 hfin ⊢
    refine hK.out _ _ hs7 (fun _ => trivial) ?_
    clear hK K hs5 hs6 hb7
    try simp only [Act.put, List.setIfInBounds_toArray, List.set_cons_zero, List.set_cons_succ]
    have q0 : W7.cell? ⟨w5.heap.size, 0, none⟩ = some (.int .i64 2) := by simp [World.cell?, hn7]
    have q1 : W7.cell? ⟨w5.heap.size, 1, none⟩ = some (.int .i64 3) := by simp [World.cell?, hn7]
    have q2 : W7.cell? ⟨w5.heap.size, 2, none⟩ = some (.int .i64 4) := by simp [World.cell?, hn7]
    have q3 : W7.cell? ⟨w5.heap.size, 3, none⟩ = some (.string ⟨#[]⟩) := by simp [World.cell?, hn7]
    have q4 : W7.cell? ⟨w5.heap.size, 4, none⟩ = some (.slice none 0 0) := by simp [World.cell?, hn7]
    have q5 : W7.cell? ⟨w5.heap.size, 5, none⟩ = some (.slice none 0 0) := by simp [World.cell?, hn7]
    have q6 : W7.cell? ⟨w5.heap.size, 6, none⟩ = some (.func (.func 86) #[] #[.pointer (some ⟨b4, 0, none⟩)]) := by simp [World.cell?, hn7]
    refine Until.wpU_pure (i := 18) (oi := { dst := some 11, op := Op.assign (Operand.tmp 42), type := 47, pos := "read.go:88", after := #[{ on := 15, ground := Ground.data }, { on := 17, ground := Ground.chain }, { on := 0, ground := Ground.phase }, { on := 1, ground := Ground.phase }, { on := 2, ground := Ground.phase }, { on := 3, ground := Ground.phase }, { on := 4, ground := Ground.phase }, { on := 5, ground := Ground.phase }, { on := 6, ground := Ground.phase }, { on := 7, ground := Ground.phase }, { on := 8, ground := Ground.phase }, { on := 9, ground := Ground.phase }, { on := 10, ground := Ground.phase }, { on := 11, ground := Ground.phase }, { on := 12, ground := Ground.phase }, { on := 13, ground := Ground.phase }, { on := 14, ground := Ground.phase }, { on := 15, ground := Ground.phase }, { on := 16, ground := Ground.phase }, { on := 17, ground := Ground.phase }], guard := none }) (v := .int .i64 0) rfl (by kernel_rfl) (by kernel_rfl) (by kernel_rfl) (by kernel_rfl) (by kernel_rfl) (fun _ _ _ h => h) (hs7) (fun _ => trivial) (by rfl) (by intro w'; go_simp) ?_
    try simp only [Act.put, List.setIfInBounds_toArray, List.set_cons_zero, List.set_cons_succ]
    refine Until.wpU_done (by kernel_rfl) ?_ _
    refine NoPanic.normal ?_
    go_wp2_with (at_builtin; refine wpList_append_lies _ rfl _ _ 90 rfl w.heap.size 96 it _ 7 96 Tryz.underlying90 hit hz0 hz1 hz2 rfl (by decide) _ 0 ([] : List Value) rfl (World.ownsRow_nil _ _ _ _) _ 1 1 [.int .i64 2, .int .i64 3, .int .i64 4, .string ⟨#[]⟩, .slice none 0 0, .slice none 0 0, .func (.func 86) #[] #[.pointer (some ⟨b4, 0, none⟩)]] rfl rfl (World.news_of_block (heap_new' rfl)) (by simp [Value.oneCell']) (by decide) (by unfold maxLen; omega) (by omega) (by have := hfin.out.1.size; simp; omega) _ rfl ?_; intro g cap w9 hown9 hgrow9 hat9 hlt9)
    rw [rounds_succ]
    go_wp2_with fail
    go_ret2
    exact test_fin hfin.out hown9 hgrow9
  · go_simp
    have hX1 : Below X.heap.size X (X.alloc (.cells #[.int .i64 0, .int .i64 0, .int .i64 0, .string ⟨#[]⟩, .slice none 0 0, .slice none 0 0, .nilFunc] 96)) := (Below.refl _ X).alloc (Nat.le_refl _) _
    have hn1 := heap_alloc_new X (.cells #[.int .i64 0, .int .i64 0, .int .i64 0, .string ⟨#[]⟩, .slice none 0 0, .slice none 0 0, .nilFunc] 96)
    have hs1 := grown_tr hs0 (World.grownBy_alloc X (.cells #[.int .i64 0, .int .i64 0, .int .i64 0, .string ⟨#[]⟩, .slice none 0 0, .slice none 0 0, .nilFunc] 96) (some br))
    generalize X.alloc (.cells #[.int .i64 0, .int .i64 0, .int .i64 0, .string ⟨#[]⟩, .slice none 0 0, .slice none 0 0, .nilFunc] 96) = Z at hX1 hn1 hs1 ⊢
    refine hK.out _ _ hs1 (fun _ => trivial) ?_
    clear hK K
    try simp only [Act.put, List.setIfInBounds_toArray, List.set_cons_zero, List.set_cons_succ]
    refine Until.wpU_ready (rs := [12]) (by kernel_rfl) (by simp) ?_
    refine (Until.AllU.cons (o := { dst := some 40, op := Op.call { callee := Callee.value (Operand.func 130), args := #[Operand.tmp 28, Operand.tmp 33, Operand.tmp 38, Operand.tmp 39], argTypes := #[110, 9, 28, 3] }, type := 139, pos := "read.go:88", after := #[{ on := 0, ground := Ground.data }, { on := 5, ground := Ground.data }, { on := 10, ground := Ground.data }, { on := 11, ground := Ground.data }], guard := none }) rfl (fun K hK => ?_) Until.AllU.nil)
    go_simp
    refine (hterm.out Z hX1).mono ?_
    rintro e w5 ⟨hg5, hR5, b4, hle, rfl, hG5⟩
    have hs5 := grown_tr hs1 hg5
    refine hK.out _ _ hs5 (fun _ => trivial) ?_
    clear hK K
    try simp only [Act.put, List.setIfInBounds_toArray, List.set_cons_zero, List.set_cons_succ]
    have hk2 := (hg5.block X.heap.size (Array.getElem?_eq_some_iff.1 hn1).1 (fun e => absurd (Option.some.inj e) (by have := hbr.out; omega))).trans hn1
    refine Until.wpU_pure (i := 13) (oi := { dst := some 27, op := Op.move (Operand.tmp 40), type := 139, pos := "read.go:88", after := #[{ on := 12, ground := Ground.data }], guard := none }) (v := .tuple #[.agg #[.int .i64 2, .int .i64 3, .int .i64 4, .string ⟨#[]⟩, .slice none 0 0, .slice none 0 0, .func (.func 86) #[] #[.pointer (some ⟨b4, 0, none⟩)]], .int .i64 0]) rfl (by kernel_rfl) (by kernel_rfl) (by kernel_rfl) (by kernel_rfl) (by kernel_rfl) (fun _ _ _ h => h) (hs5) (fun _ => trivial) (by rfl) (by intro w'; go_simp) ?_
    try simp only [Act.put, List.setIfInBounds_toArray, List.set_cons_zero, List.set_cons_succ]
    refine Until.wpU_pure (i := 14) (oi := { dst := some 41, op := Op.extract (Operand.tmp 27) 0, type := 96, pos := "read.go:88", after := #[{ on := 13, ground := Ground.data }], guard := none }) (v := .agg #[.int .i64 2, .int .i64 3, .int .i64 4, .string ⟨#[]⟩, .slice none 0 0, .slice none 0 0, .func (.func 86) #[] #[.pointer (some ⟨b4, 0, none⟩)]]) rfl (by kernel_rfl) (by kernel_rfl) (by kernel_rfl) (by kernel_rfl) (by kernel_rfl) (fun _ _ _ h => h) (hs5) (fun _ => trivial) (by rfl) (by intro w'; go_simp) ?_
    try simp only [Act.put, List.setIfInBounds_toArray, List.set_cons_zero, List.set_cons_succ]
    refine Until.wpU_pure (i := 15) (oi := { dst := some 42, op := Op.extract (Operand.tmp 27) 1, type := 47, pos := "read.go:88", after := #[{ on := 13, ground := Ground.data }, { on := 17, ground := Ground.gcOnly Departure.lateStores }], guard := none }) (v := .int .i64 0) rfl (by kernel_rfl) (by kernel_rfl) (by kernel_rfl) (by kernel_rfl) (by kernel_rfl) (fun _ _ _ h => h) (hs5) (fun _ => trivial) (by rfl) (by intro w'; go_simp) ?_
    try simp only [Act.put, List.setIfInBounds_toArray, List.set_cons_zero, List.set_cons_succ]
    have z0 : w5.cell? ⟨X.heap.size, 0, none⟩ = some (.int .i64 0) := by simp [World.cell?, hk2]
    have zf0 : w5.frozen? ⟨X.heap.size, 0, none⟩ = false := by simp [World.frozen?, hk2]
    have z1 : w5.cell? ⟨X.heap.size, 1, none⟩ = some (.int .i64 0) := by simp [World.cell?, hk2]
    have zf1 : w5.frozen? ⟨X.heap.size, 1, none⟩ = false := by simp [World.frozen?, hk2]
    have z2 : w5.cell? ⟨X.heap.size, 2, none⟩ = some (.int .i64 0) := by simp [World.cell?, hk2]
    have zf2 : w5.frozen? ⟨X.heap.size, 2, none⟩ = false := by simp [World.frozen?, hk2]
    have z3 : w5.cell? ⟨X.heap.size, 3, none⟩ = some (.string ⟨#[]⟩) := by simp [World.cell?, hk2]
    have zf3 : w5.frozen? ⟨X.heap.size, 3, none⟩ = false := by simp [World.frozen?, hk2]
    have z4 : w5.cell? ⟨X.heap.size, 4, none⟩ = some (.slice none 0 0) := by simp [World.cell?, hk2]
    have zf4 : w5.frozen? ⟨X.heap.size, 4, none⟩ = false := by simp [World.frozen?, hk2]
    have z5 : w5.cell? ⟨X.heap.size, 5, none⟩ = some (.slice none 0 0) := by simp [World.cell?, hk2]
    have zf5 : w5.frozen? ⟨X.heap.size, 5, none⟩ = false := by simp [World.frozen?, hk2]
    have z6 : w5.cell? ⟨X.heap.size, 6, none⟩ = some (.nilFunc) := by simp [World.cell?, hk2]
    have zf6 : w5.frozen? ⟨X.heap.size, 6, none⟩ = false := by simp [World.frozen?, hk2]
    refine Until.wpU_ready (rs := [17]) (by kernel_rfl) (by simp) ?_
    refine (Until.AllU.cons (o := { dst := none, op := Op.store 96 (Operand.tmp 10) (Operand.tmp 41), type := 0, pos := "read.go:88", after := #[{ on := 16, ground := Ground.data }, { on := 14, ground := Ground.data }, { on := 12, ground := Ground.chain }, { on := 0, ground := Ground.phase }, { on := 1, ground := Ground.phase }, { on := 2, ground := Ground.phase }, { on := 3, ground := Ground.phase }, { on := 4, ground := Ground.phase }, { on := 5, ground := Ground.phase }, { on := 6, ground := Ground.phase }, { on := 7, ground := Ground.phase }, { on := 8, ground := Ground.phase }, { on := 9, ground := Ground.phase }, { on := 10, ground := Ground.phase }, { on := 11, ground := Ground.phase }, { on := 12, ground := Ground.phase }, { on := 13, ground := Ground.phase }, { on := 14, ground := Ground.phase }, { on := 15, ground := Ground.textOnly Departure.lateStores }, { on := 16, ground := Ground.phase }], guard := none }) rfl (fun K hK => ?_) Until.AllU.nil)
    go_simp
    have hk7 : (((((((w5.setCell ⟨X.heap.size, 0, none⟩ (.int .i64 2)).setCell ⟨X.heap.size, 1, none⟩ (.int .i64 3)).setCell ⟨X.heap.size, 2, none⟩ (.int .i64 4)).setCell ⟨X.heap.size, 3, none⟩ (.string ⟨#[]⟩)).setCell ⟨X.heap.size, 4, none⟩ (.slice none 0 0)).setCell ⟨X.heap.size, 5, none⟩ (.slice none 0 0)).setCell ⟨X.heap.size, 6, none⟩ (.func (.func 86) #[] #[.pointer (some ⟨b4, 0, none⟩)])).heap[X.heap.size]? = some (.cells #[.int .i64 2, .int .i64 3, .int .i64 4, .string ⟨#[]⟩, .slice none 0 0, .slice none 0 0, .func (.func 86) #[] #[.pointer (some ⟨b4, 0, none⟩)]] 96 (0, 0)) := by simp [World.setCell, Array.getElem?_modify, hk2]
    have hbut : But X.heap.size w5 (((((((w5.setCell ⟨X.heap.size, 0, none⟩ (.int .i64 2)).setCell ⟨X.heap.size, 1, none⟩ (.int .i64 3)).setCell ⟨X.heap.size, 2, none⟩ (.int .i64 4)).setCell ⟨X.heap.size, 3, none⟩ (.string ⟨#[]⟩)).setCell ⟨X.heap.size, 4, none⟩ (.slice none 0 0)).setCell ⟨X.heap.size, 5, none⟩ (.slice none 0 0)).setCell ⟨X.heap.size, 6, none⟩ (.func (.func 86) #[] #[.pointer (some ⟨b4, 0, none⟩)])) := (((((((But.refl _ w5).set 0 _).set 1 _).set 2 _).set 3 _).set 4 _).set 5 _).set 6 _
    generalize (((((((w5.setCell ⟨X.heap.size, 0, none⟩ (.int .i64 2)).setCell ⟨X.heap.size, 1, none⟩ (.int .i64 3)).setCell ⟨X.heap.size, 2, none⟩ (.int .i64 4)).setCell ⟨X.heap.size, 3, none⟩ (.string ⟨#[]⟩)).setCell ⟨X.heap.size, 4, none⟩ (.slice none 0 0)).setCell ⟨X.heap.size, 5, none⟩ (.slice none 0 0)).setCell ⟨X.heap.size, 6, none⟩ (.func (.func 86) #[] #[.pointer (some ⟨b4, 0, none⟩)])) = W7 at hk7 hbut ⊢
    have hs7 := grown_but hs5 hbut (by have := hXg.out; omega)
    have hfin := hid_of (test_mid2 hXg.out hX1 hg5 hR5 hG5 z0 hbut (by have := hbr.out; omega))
    refine hK.out _ _ hs7 (fun _ => trivial) ?_
    clear hK K hs5 hs1 hbut hk2 z0 zf0 z1 zf1 z2 zf2 z3 zf3 z4 zf4 z5 zf5 z6 zf6
    try simp only [Act.put, List.setIfInBounds_toArray, List.set_cons_zero, List.set_cons_succ]
    have q0 : W7.cell? ⟨X.heap.size, 0, none⟩ = some (.int .i64 2) := by simp [World.cell?, hk7]
    have q1 : W7.cell? ⟨X.heap.size, 1, none⟩ = some (.int .i64 3) := by simp [World.cell?, hk7]
    have q2 : W7.cell? ⟨X.heap.size, 2, none⟩ = some (.int .i64 4) := by simp [World.cell?, hk7]
    have q3 : W7.cell? ⟨X.heap.size, 3, none⟩ = some (.string ⟨#[]⟩) := by simp [World.cell?, hk7]
    have q4 : W7.cell? ⟨X.heap.size, 4, none⟩ = some (.slice none 0 0) := by simp [World.cell?, hk7]
    have q5 : W7.cell? ⟨X.heap.size, 5, none⟩ = some (.slice none 0 0) := by simp [World.cell?, hk7]
    have q6 : W7.cell? ⟨X.heap.size, 6, none⟩ = some (.func (.func 86) #[] #[.pointer (some ⟨b4, 0, none⟩)]) := by simp [World.cell?, hk7]
    refine Until.wpU_pure (i := 18) (oi := { dst := some 11, op := Op.assign (Operand.tmp 42), type := 47, pos := "read.go:88", after := #[{ on := 15, ground := Ground.data }, { on := 17, ground := Ground.chain }, { on := 0, ground := Ground.phase }, { on := 1, ground := Ground.phase }, { on := 2, ground := Ground.phase }, { on := 3, ground := Ground.phase }, { on := 4, ground := Ground.phase }, { on := 5, ground := Ground.phase }, { on := 6, ground := Ground.phase }, { on := 7, ground := Ground.phase }, { on := 8, ground := Ground.phase }, { on := 9, ground := Ground.phase }, { on := 10, ground := Ground.phase }, { on := 11, ground := Ground.phase }, { on := 12, ground := Ground.phase }, { on := 13, ground := Ground.phase }, { on := 14, ground := Ground.phase }, { on := 15, ground := Ground.phase }, { on := 16, ground := Ground.phase }, { on := 17, ground := Ground.phase }], guard := none }) (v := .int .i64 0) rfl (by kernel_rfl) (by kernel_rfl) (by kernel_rfl) (by kernel_rfl) (by kernel_rfl) (fun _ _ _ h => h) (hs7) (fun _ => trivial) (by rfl) (by intro w'; go_simp) ?_
    try simp only [Act.put, List.setIfInBounds_toArray, List.set_cons_zero, List.set_cons_succ]
    refine Until.wpU_done (by kernel_rfl) ?_ _
    refine NoPanic.normal ?_
    go_wp2_with (at_builtin; refine wpList_append_lies _ rfl _ _ 90 rfl w.heap.size 96 it _ 7 96 Tryz.underlying90 hit hz0 hz1 hz2 rfl (by decide) _ 0 ([] : List Value) rfl (World.ownsRow_nil _ _ _ _) _ 1 1 [.int .i64 2, .int .i64 3, .int .i64 4, .string ⟨#[]⟩, .slice none 0 0, .slice none 0 0, .func (.func 86) #[] #[.pointer (some ⟨b4, 0, none⟩)]] rfl rfl (World.news_of_block (heap_new' rfl)) (by simp [Value.oneCell']) (by decide) (by unfold maxLen; omega) (by omega) (by have := hfin.out.1.size; simp; omega) _ rfl ?_; intro g cap w9 hown9 hgrow9 hat9 hlt9)
    rw [rounds_succ]
    go_wp2_with fail
    go_ret2
    exact test_fin hfin.out hown9 hgrow9
end Go.Proofs.YtdfkfnhppjhghaaGreat
