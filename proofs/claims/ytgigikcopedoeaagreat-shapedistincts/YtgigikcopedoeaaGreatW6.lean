import Derived.Test.YtgigikcopedoeaaGreatW4
import Derived.Lib.LazyBuf
import Derived.Deep.DeepCutAuto
/-! Apply of a Fields of one name to an object of that name. -/
namespace Go.Proofs.YtgigikcopedoeaaGreat
open Go Go.RowKit

/-- Five cells stored into block g. -/
def put5 (w : World) (g : Nat) (a0 a1 a2 a3 a4 : Value) : World := ((((w.setCell ⟨g, 0, none⟩ a0).setCell ⟨g, 1, none⟩ a1).setCell ⟨g, 2, none⟩ a2).setCell ⟨g, 3, none⟩ a3).setCell ⟨g, 4, none⟩ a4
theorem put5_at {w : World} {g : Nat} {c0 c1 c2 c3 c4 : Value} {t : TypeId} (h : w.heap[g]? = some (.cells #[c0, c1, c2, c3, c4] t (0, 0))) (a0 a1 a2 a3 a4 : Value) : (put5 w g a0 a1 a2 a3 a4).heap[g]? = some (.cells #[a0, a1, a2, a3, a4] t (0, 0)) := by
  simp [put5, World.setCell, Array.getElem?_modify, h]
theorem put5_far {w : World} {g : Nat} (a0 a1 a2 a3 a4 : Value) {k : Nat} (hk : k ≠ g) : (put5 w g a0 a1 a2 a3 a4).heap[k]? = w.heap[k]? := by
  unfold put5
  rw [Below.heap_setCell _ _ _ _ hk, Below.heap_setCell _ _ _ _ hk, Below.heap_setCell _ _ _ _ hk, Below.heap_setCell _ _ _ _ hk, Below.heap_setCell _ _ _ _ hk]
theorem put5_size (w : World) (g : Nat) (a0 a1 a2 a3 a4 : Value) : (put5 w g a0 a1 a2 a3 a4).heap.size = w.heap.size := by simp [put5, World.setCell]
theorem set_os (w : World) (p : Addr) (u : Value) : (w.setCell p u).os = w.os := rfl
theorem set_tape (w : World) (p : Addr) (u : Value) : (w.setCell p u).tape = w.tape := rfl
theorem set_out (w : World) (p : Addr) (u : Value) : (w.setCell p u).output = w.output := rfl
theorem put5_below {w : World} {g B : Nat} (h : B ≤ g) (a0 a1 a2 a3 a4 : Value) : Below B w (put5 w g a0 a1 a2 a3 a4) :=
  ⟨by unfold put5; rw [set_os, set_os, set_os, set_os, set_os], by unfold put5; rw [set_tape, set_tape, set_tape, set_tape, set_tape], by unfold put5; rw [set_out, set_out, set_out, set_out, set_out], by rw [put5_size]; exact Nat.le_refl _, fun k hk => put5_far _ _ _ _ _ (by omega)⟩
theorem put5_cells {w : World} {g : Nat} {c0 c1 c2 c3 c4 : Value} {t : TypeId} (h : w.heap[g]? = some (.cells #[c0, c1, c2, c3, c4] t (0, 0))) (a0 a1 a2 a3 a4 : Value) :
    ∀ j, (((((w.setCell ⟨g, 0, none⟩ a0).setCell ⟨g, 1, none⟩ a1).setCell ⟨g, 2, none⟩ a2).setCell ⟨g, 3, none⟩ a3).setCell ⟨g, 4, none⟩ a4).cell? ⟨g, j, none⟩ = #[a0, a1, a2, a3, a4][j]? := fun j => by
  have := put5_at h a0 a1 a2 a3 a4
  unfold put5 at this
  unfold World.cell?
  rw [this]
  rfl
theorem set_far {w : World} {g j b o : Nat} {v : Value} (h : b ≠ g) : (w.setCell ⟨g, j, none⟩ v).cell? ⟨b, o, none⟩ = w.cell? ⟨b, o, none⟩ := World.cell?_of_block (Below.heap_setCell _ _ _ _ h)
def FieldsAt2 (w : World) (fb tb : Nat) : Prop := w.heap[fb]? = some (.cells #[.bool false, .pointer (some ⟨tb, 0, none⟩)] 62 (0, 0)) ∧ TreeA w tb
theorem FieldsAt2.keep {w w' : World} {fb tb : Nat} (h : FieldsAt2 w fb tb) (hb : Below w.heap.size w w') : FieldsAt2 w' fb tb := ⟨block_keep h.1 hb, h.2.keep hb⟩
theorem clone_s0 (w : World) : Calls Tryz.prog 116 #[.slice none 0 0] w fun e w' => e = .returned (.slice none 0 0) ∧ w' = w := by
  have hq := run_eql_slice_nil (P := Tryz.prog) w 22 9 none 0 0 Tryz.underlying22
  go_enter Tryz.func116, Tryz.ntmps116
  go_wp2
  go_ret
  exact ⟨rfl, rfl⟩
theorem clone_v0 (w : World) : Calls Tryz.prog 117 #[.slice none 0 0] w fun e w' => e = .returned (.slice none 0 0) ∧ w' = w := by
  have hq := run_eql_slice_nil (P := Tryz.prog) w 23 25 none 0 0 Tryz.underlying23
  go_enter Tryz.func117, Tryz.ntmps117
  go_wp2
  go_ret
  exact ⟨rfl, rfl⟩
def emptyV : Value := .agg #[.int .i64 6, .int .i64 0, .string ⟨#[]⟩, .slice none 0 0, .slice none 0 0]
theorem named0 (w : World) : Calls Tryz.prog 85 #[.slice none 0 0, .slice none 0 0] w fun e w' => e = .returned emptyV ∧ Below w.heap.size w w' := by
  unfold emptyV
  go_enter Tryz.func85, Tryz.ntmps85
  go_wp2_with (first | (go_at_call 116; refine (clone_s0 _).mono ?_; rintro e w1 ⟨rfl, rfl⟩) | (go_at_call 117; refine (clone_v0 _).mono ?_; rintro e w2 ⟨rfl, rfl⟩))
  go_returns
  exact ⟨rfl, (Below.refl _ w).alloc (Nat.le_refl _) _⟩
/-- What member answers: the item, which is not told. -/
def MPost (w : World) (x : Int) (e : Ending) (w' : World) : Prop := e = .returned (.tuple #[numV x, .bool false]) ∧ Below w.heap.size w w'
set_option maxHeartbeats 2000000 in
set_option maxRecDepth 100000 in
theorem member_a (fb tb : Nat) (x : Int) (w : World) (hF : FieldsAt2 w fb tb) :
    Calls Tryz.prog 84 #[.pointer (some ⟨fb, 0, none⟩), .pointer (some ⟨tb, 0, none⟩), .string nameA, numV x] w (MPost w x) := by
  have HB : Below w.heap.size w ((w.alloc (numC x)).alloc (.cells #[.int .i64 0, .int .i64 0, .string ⟨#[]⟩, .slice none 0 0, .slice none 0 0] 25)) := ((Below.refl _ w).alloc (Nat.le_refl _) _).alloc (by simp) _
  have m1 := new1 w (numC x) (.cells #[.int .i64 0, .int .i64 0, .string ⟨#[]⟩, .slice none 0 0, .slice none 0 0] 25)
  have m2 := new2 w (numC x) (.cells #[.int .i64 0, .int .i64 0, .string ⟨#[]⟩, .slice none 0 0, .slice none 0 0] 25)
  have hF0 := hF.keep HB
  have hfb : fb ≠ w.heap.size + 1 := by have := (Array.getElem?_eq_some_iff.1 hF.1).1; omega
  clear hF
  unfold numC at HB m1 m2 hF0
  unfold MPost numV
  go_enter Tryz.func84, Tryz.ntmps84
  go_upto_region 1 with fail
  generalize (w.alloc (.cells #[.int .i64 3, .int .i64 x, .string ⟨#[]⟩, .slice none 0 0, .slice none 0 0] 25)).alloc (.cells #[.int .i64 0, .int .i64 0, .string ⟨#[]⟩, .slice none 0 0, .slice none 0 0] 25) = X0 at HB m1 m2 hF0
  obtain ⟨hbx, mb, pb, nb, ⟨ht1, nn, ht2⟩, hp, hne⟩ := hF0
  have cT : X0.cell? ⟨tb, 0, none⟩ = some (.map (some mb)) := by simp [World.cell?, ht1]
  have cF : X0.cell? ⟨fb, 0, none⟩ = some (.bool false) := by simp [World.cell?, hbx]
  obtain ⟨v, ps, hrun, hv⟩ := ht2.look_ok (Maps.string_keyed Tryz.underlying9) Tryz.underlying94 (Tryz.zeroValue60 X0) (zd := .nil) (zp := []) rfl key_a
  have hv' := ptrE_some (b := pb) (ps := ps) (v := v) (hv.trans (by rw [show DataW.atKey (.map [(klA, .lit (.int .i64 ((pb : Nat) : Int)))]) klA (DataW.nil (H := Unit)) = .lit (.int .i64 ((pb : Nat) : Int)) by simp [DataW.atKey, klA, Lit.sameKey]]))
  subst hv'
  rw [show Maps.has (.map [(klA, .lit (.int .i64 ((pb : Nat) : Int)))] : DataW Unit) klA = true by simp [Maps.has, klA, Lit.sameKey]] at hrun
  obtain ⟨y0, y1, y2, y3, y4, -⟩ := row_cells m1
  obtain ⟨r0, r1, r2, r3, r4, rf⟩ := row_cells m2
  have rf0 := rf 0; have rf1 := rf 1; have rf2 := rf 2; have rf3 := rf 3; have rf4 := rf 4
  have hends := hid_of (ends_any pb nb _ true X0 hp rfl)
  clear hv hbx ht1 ht2 hp hne rf
  go_wp2_with (go_at_call 31; refine hends.out.mono ?_; rintro e X1 ⟨rfl, rfl⟩)
  go_region
  go_wp2_with fail
  have hr := put5_cells m2 (.int .i64 3) (.int .i64 x) (.string ⟨#[]⟩) (.slice none 0 0) (.slice none 0 0)
  have q0 := hr 0; have q1 := hr 1; have q2 := hr 2; have q3 := hr 3; have q4 := hr 4
  clear hr
  refine bodyPost_ret (v := .tuple #[.agg #[.int .i64 3, .int .i64 x, .string ⟨#[]⟩, .slice none 0 0, .slice none 0 0], .bool false]) (by simp [results, Tryz.results84, go_sem, q0, q1, q2, q3, q4]) rfl ?_
  exact ⟨rfl, HB.trans (below_drew (put5_below (by omega) _ _ _ _ _))⟩
def zeroO : Obj := .cells #[.int .i64 0, .int .i64 0, .string ⟨#[]⟩, .slice none 0 0, .slice none 0 0] 25
set_option maxHeartbeats 4000000 in
set_option maxRecDepth 100000 in
theorem object_a (fb tb bn cn bi ci : Nat) (x : Int) (w : World) (hF : FieldsAt2 w fb tb) (hn : w.cell? ⟨bn, 0, none⟩ = some (.string nameA)) (hI : NumAt w bi 0 x) :
    Calls Tryz.prog 54 #[.pointer (some ⟨fb, 0, none⟩), .pointer (some ⟨tb, 0, none⟩), objV bn cn bi ci] w fun e w' => e = .returned emptyV ∧ Below w.heap.size w w' := by
  have HB : Below w.heap.size w ((w.alloc (objC bn cn bi ci)).alloc zeroO) := ((Below.refl _ w).alloc (Nat.le_refl _) _).alloc (by simp) _
  have m1 := new1 w (objC bn cn bi ci) zeroO
  have m2 := new2 w (objC bn cn bi ci) zeroO
  have hF0 := hF.keep HB
  have hn0 := stay HB hn
  have hI0 := hI.keep HB
  have hm := fun W => members_a bn cn bi ci W
  clear hF hn hI
  unfold objC zeroO at HB m1 m2 hF0 hn0 hI0
  unfold objV at *
  go_enter Tryz.func54, Tryz.ntmps54
  go_upto_region 3 with fail
  generalize (w.alloc (.cells #[.int .i64 6, .int .i64 0, .string ⟨#[]⟩, .slice (some ⟨bn, 0, none⟩) 1 cn, .slice (some ⟨bi, 0, none⟩) 1 ci] 25)).alloc (.cells #[.int .i64 0, .int .i64 0, .string ⟨#[]⟩, .slice none 0 0, .slice none 0 0] 25) = X0 at HB m1 m2 hF0 hn0 hI0
  obtain ⟨y0, y1, y2, y3, y4, -⟩ := row_cells m1
  go_wp2_with fail
  refine (hm X0).mono ?_
  rintro e X1 ⟨rfl, hb1⟩
  have n1 := block_keep m1 hb1
  have n2 := block_keep m2 hb1
  have hF1 := hF0.keep hb1
  have hn1 := stay hb1 hn0
  have hI1 := hI0.keep hb1
  replace HB := HB.trans (hb1.mono HB.size)
  clear y0 y1 y2 y3 y4 hb1 m1 m2 hF0 hn0 hI0
  obtain ⟨y0, y1, y2, y3, y4, -⟩ := row_cells n1
  obtain ⟨z0, z1, z2, z3, z4⟩ := hI1
  simp only [Nat.zero_add] at z1 z2 z3 z4
  have y3' := fun o => cell_alloc' y3 o
  have y4' := fun o => cell_alloc' y4 o
  have hn1' := fun o => cell_alloc' hn1 o
  have z0' := fun o => cell_alloc' z0 o
  have z1' := fun o => cell_alloc' z1 o
  have z2' := fun o => cell_alloc' z2 o
  have z3' := fun o => cell_alloc' z3 o
  have z4' := fun o => cell_alloc' z4 o
  have hmA := hid_of (member_a fb tb x X1.drew (hF1.keep (below_drew (Below.refl _ _))))
  have hmB := hid_of (member_a fb tb x (X1.alloc zeroO).drew (hF1.keep (below_drew ((Below.refl _ _).alloc (Nat.le_refl _) _))))
  have hqB : (X1.alloc zeroO).drew.heap[X1.heap.size]? = some zeroO := heap_alloc_new X1 zeroO
  have hbB : Hid (Below X1.heap.size X1 (X1.alloc zeroO).drew) := hid_of (below_drew ((Below.refl _ _).alloc (Nat.le_refl _) _))
  have v0 := fun (Y : World) => (row_cells (heap_alloc_new Y zeroO)).1
  have v1 := fun (Y : World) => (row_cells (heap_alloc_new Y zeroO)).2.1
  have v2 := fun (Y : World) => (row_cells (heap_alloc_new Y zeroO)).2.2.1
  have v3 := fun (Y : World) => (row_cells (heap_alloc_new Y zeroO)).2.2.2.1
  have v4 := fun (Y : World) => (row_cells (heap_alloc_new Y zeroO)).2.2.2.2.1
  have vf := fun (Y : World) => (row_cells (heap_alloc_new Y zeroO)).2.2.2.2.2
  unfold MPost numV zeroO at *
  have d1 : bi ≠ X1.heap.size := by have : bi < X1.heap.size := lt_of_cell z0; omega
  have d2 : bn ≠ X1.heap.size := by have : bn < X1.heap.size := lt_of_cell hn1; omega
  have d3 : w.heap.size ≠ X1.heap.size := by have : w.heap.size < X1.heap.size := lt_of_cell y3; omega
  replace hqB := hid_of hqB
  replace n2 := hid_of n2
  clear n1
  go_wp2_with fail
  refine wp_loop_rounds 2 ?_
  rw [rounds_succ]
  go_wp2_with fail
  go_region_held3 (fun W => W.cell? ⟨w.heap.size, 3, none⟩ = some (.slice (some ⟨bn, 0, none⟩) 1 cn) ∧ W.cell? ⟨w.heap.size, 4, none⟩ = some (.slice (some ⟨bi, 0, none⟩) 1 ci) ∧ W.cell? ⟨bn, 0, none⟩ = some (.string nameA) ∧ W.cell? ⟨bi, 0, none⟩ = some (.int .i64 3) ∧ W.cell? ⟨bi, 1, none⟩ = some (.int .i64 x) ∧ W.cell? ⟨bi, 2, none⟩ = some (.string ⟨#[]⟩) ∧ W.cell? ⟨bi, 3, none⟩ = some (.slice none 0 0) ∧ W.cell? ⟨bi, 4, none⟩ = some (.slice none 0 0)) (first | go_keep | (refine ⟨?_, ?_, ?_, ?_, ?_, ?_, ?_, ?_⟩ <;> first | with_reducible assumption | (simp only [set_far d1, set_far d2, set_far d3]; with_reducible assumption) | with_reducible exact k3' _ | with_reducible exact k4' _ | with_reducible exact kn' _ | with_reducible exact k50' _ | with_reducible exact k51' _ | with_reducible exact k52' _ | with_reducible exact k53' _ | with_reducible exact k54' _)) (first
    | (go_at_call 84; refine hmA.out.mono ?_; clear hmA hmB; rintro e Y ⟨rfl, hbY'⟩; have hbY : Below X1.heap.size X1 Y := (below_drew (Below.refl _ _)).trans hbY'; clear hbY'; have k3 := stay hbY y3; have k4 := stay hbY y4; have kn := stay hbY hn1; have k50 := stay hbY z0; have k51 := stay hbY z1; have k52 := stay hbY z2; have k53 := stay hbY z3; have k54 := stay hbY z4; have k3' := fun o => cell_alloc' k3 o; have k4' := fun o => cell_alloc' k4 o; have kn' := fun o => cell_alloc' kn o; have k50' := fun o => cell_alloc' k50 o; have k51' := fun o => cell_alloc' k51 o; have k52' := fun o => cell_alloc' k52 o; have k53' := fun o => cell_alloc' k53 o; have k54' := fun o => cell_alloc' k54 o)
    | (go_at_call 84; refine hmB.out.mono ?_; clear hmA hmB; rintro e Y ⟨rfl, hbY'⟩; have hbY : Below X1.heap.size X1 Y := hbB.out.trans (hbY'.mono hbB.out.size); obtain ⟨u0, u1, u2, u3, u4, uf⟩ := row_cells (block_keep hqB.out hbY'); have uf0 := uf 0; have uf1 := uf 1; have uf2 := uf 2; have uf3 := uf 3; have uf4 := uf 4; clear hbY' uf; have k3 := stay hbY y3; have k4 := stay hbY y4; have kn := stay hbY hn1; have k50 := stay hbY z0; have k51 := stay hbY z1; have k52 := stay hbY z2; have k53 := stay hbY z3; have k54 := stay hbY z4))
  · have HZ : Below w.heap.size w (Y.alloc (.cells #[.int .i64 3, .int .i64 x, .string ⟨#[]⟩, .slice none 0 0, .slice none 0 0] 25)) := (HB.trans (hbY.mono HB.size)).alloc (by have h1 := HB.size; have h2 := hbY.size; omega) _
    have nZ := block_keep (block_keep n2.out hbY) ((Below.refl _ Y).alloc (Nat.le_refl _) (.cells #[.int .i64 3, .int .i64 x, .string ⟨#[]⟩, .slice none 0 0, .slice none 0 0] 25))
    generalize Y.alloc (.cells #[.int .i64 3, .int .i64 x, .string ⟨#[]⟩, .slice none 0 0, .slice none 0 0] 25) = Z at HZ nZ
    clear k3 k4 kn k50 k51 k52 k53 k54 k3' k4' kn' k50' k51' k52' k53' k54' y0 y1 y2 y3 y4 z0 z1 z2 z3 z4 y3' y4' hn1' z0' z1' z2' z3' z4' v0 v1 v2 v3 v4 vf hbY HB n2 hqB hbB
    go_wp2_with fail
    rw [rounds_succ]
    go_wp2_with fail
    refine (named0 Z).mono ?_
    rintro e Z2 ⟨rfl, hb⟩
    have nZ2 := block_keep nZ hb
    replace HZ := HZ.trans (hb.mono HZ.size)
    unfold emptyV
    obtain ⟨r0, r1, r2, r3, r4, rf⟩ := row_cells nZ2
    have rf0 := rf 0; have rf1 := rf 1; have rf2 := rf 2; have rf3 := rf 3; have rf4 := rf 4
    clear hb nZ rf
    go_wp2_with fail
    have hr := put5_cells nZ2 (.int .i64 6) (.int .i64 0) (.string ⟨#[]⟩) (.slice none 0 0) (.slice none 0 0)
    have q0 := hr 0; have q1 := hr 1; have q2 := hr 2; have q3 := hr 3; have q4 := hr 4
    clear hr
    refine bodyPost_ret (v := .agg #[.int .i64 6, .int .i64 0, .string ⟨#[]⟩, .slice none 0 0, .slice none 0 0]) (by simp [results, Tryz.results54, go_sem, q0, q1, q2, q3, q4]) rfl ?_
    exact ⟨rfl, HZ.trans (put5_below (by omega) _ _ _ _ _)⟩
  · have hYb := HB.trans (hbY.mono HB.size)
    have HZ : Below w.heap.size w (put5 Y X1.heap.size (.int .i64 3) (.int .i64 x) (.string ⟨#[]⟩) (.slice none 0 0) (.slice none 0 0)) := hYb.trans (put5_below HB.size _ _ _ _ _)
    have nZ : (put5 Y X1.heap.size (.int .i64 3) (.int .i64 x) (.string ⟨#[]⟩) (.slice none 0 0) (.slice none 0 0)).heap[w.heap.size + 1]? = _ := (put5_far _ _ _ _ _ (by have := (Array.getElem?_eq_some_iff.1 n2.out).1; omega)).trans (block_keep n2.out hbY)
    unfold put5 at HZ nZ
    generalize ((((Y.setCell ⟨X1.heap.size, 0, none⟩ (.int .i64 3)).setCell ⟨X1.heap.size, 1, none⟩ (.int .i64 x)).setCell ⟨X1.heap.size, 2, none⟩ (.string ⟨#[]⟩)).setCell ⟨X1.heap.size, 3, none⟩ (.slice none 0 0)).setCell ⟨X1.heap.size, 4, none⟩ (.slice none 0 0) = Z at HZ nZ
    clear k3 k4 kn k50 k51 k52 k53 k54 y0 y1 y2 y3 y4 z0 z1 z2 z3 z4 y3' y4' hn1' z0' z1' z2' z3' z4' v0 v1 v2 v3 v4 vf hbY HB n2 hqB hbB hYb u0 u1 u2 u3 u4 uf0 uf1 uf2 uf3 uf4
    go_wp2_with fail
    rw [rounds_succ]
    go_wp2_with fail
    refine (named0 Z).mono ?_
    rintro e Z2 ⟨rfl, hb⟩
    have nZ2 := block_keep nZ hb
    replace HZ := HZ.trans (hb.mono HZ.size)
    unfold emptyV
    obtain ⟨r0, r1, r2, r3, r4, rf⟩ := row_cells nZ2
    have rf0 := rf 0; have rf1 := rf 1; have rf2 := rf 2; have rf3 := rf 3; have rf4 := rf 4
    clear hb nZ rf
    go_wp2_with fail
    have hr := put5_cells nZ2 (.int .i64 6) (.int .i64 0) (.string ⟨#[]⟩) (.slice none 0 0) (.slice none 0 0)
    have q0 := hr 0; have q1 := hr 1; have q2 := hr 2; have q3 := hr 3; have q4 := hr 4
    clear hr
    refine bodyPost_ret (v := .agg #[.int .i64 6, .int .i64 0, .string ⟨#[]⟩, .slice none 0 0, .slice none 0 0]) (by simp [results, Tryz.results54, go_sem, q0, q1, q2, q3, q4]) rfl ?_
    exact ⟨rfl, HZ.trans (put5_below (by omega) _ _ _ _ _)⟩
set_option maxHeartbeats 4000000 in
set_option maxRecDepth 100000 in
theorem told_a (fb tb bn cn bi ci : Nat) (x : Int) (w : World) (hF : FieldsAt2 w fb tb) (hn : w.cell? ⟨bn, 0, none⟩ = some (.string nameA)) (hI : NumAt w bi 0 x) :
    Calls Tryz.prog 32 #[.pointer (some ⟨fb, 0, none⟩), .pointer (some ⟨tb, 0, none⟩), objV bn cn bi ci] w fun e w' => e = .returned emptyV ∧ Below w.heap.size w w' := by
  have HB : Below w.heap.size w ((w.alloc (objC bn cn bi ci)).alloc zeroO) := ((Below.refl _ w).alloc (Nat.le_refl _) _).alloc (by simp) _
  have m1 := new1 w (objC bn cn bi ci) zeroO
  have m2 := new2 w (objC bn cn bi ci) zeroO
  have ho := hid_of (object_a fb tb bn cn bi ci x _ (hF.keep HB) (stay HB hn) (hI.keep HB))
  clear hF hn hI
  unfold objC zeroO at HB m1 m2 ho
  unfold objV at *
  go_enter Tryz.func32, Tryz.ntmps32
  go_upto_region 1 with fail
  generalize (w.alloc (.cells #[.int .i64 6, .int .i64 0, .string ⟨#[]⟩, .slice (some ⟨bn, 0, none⟩) 1 cn, .slice (some ⟨bi, 0, none⟩) 1 ci] 25)).alloc (.cells #[.int .i64 0, .int .i64 0, .string ⟨#[]⟩, .slice none 0 0, .slice none 0 0] 25) = X0 at HB m1 m2 ho
  obtain ⟨y0, y1, y2, y3, y4, -⟩ := row_cells m1
  go_wp2_with fail
  refine ho.out.mono ?_
  rintro e Z2 ⟨rfl, hb⟩
  have nZ2 := block_keep m2 hb
  replace HB := HB.trans (hb.mono HB.size)
  unfold emptyV
  obtain ⟨r0, r1, r2, r3, r4, rf⟩ := row_cells nZ2
  have rf0 := rf 0; have rf1 := rf 1; have rf2 := rf 2; have rf3 := rf 3; have rf4 := rf 4
  clear hb m1 m2 rf y0 y1 y2 y3 y4 ho
  go_wp2_with fail
  have hr := put5_cells nZ2 (.int .i64 6) (.int .i64 0) (.string ⟨#[]⟩) (.slice none 0 0) (.slice none 0 0)
  have q0 := hr 0; have q1 := hr 1; have q2 := hr 2; have q3 := hr 3; have q4 := hr 4
  clear hr
  refine bodyPost_ret (v := .agg #[.int .i64 6, .int .i64 0, .string ⟨#[]⟩, .slice none 0 0, .slice none 0 0]) (by simp [results, Tryz.results32, go_sem, q0, q1, q2, q3, q4]) rfl ?_
  exact ⟨rfl, HB.trans (put5_below (by omega) _ _ _ _ _)⟩
end Go.Proofs.YtgigikcopedoeaaGreat
