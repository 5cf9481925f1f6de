import Derived.Test.YtdfkfnhppjhghaaGreatQ10
/-! The query {"a": {"$gt": 4}} read. -/
namespace Go.Proofs.YtdfkfnhppjhghaaGreat
open Go Go.RowKit

def QueryMid (w W : World) (br m bp bt : Nat) : Prop := w.grownBy W (some br) ∧ ReaderAt W br m 1 ∧ PlaceAt W bp bt
/-- What query answers. -/
def QueryPost (w : World) (br m : Nat) (e : Ending) (w' : World) : Prop :=
  w.grownBy w' (some br) ∧ ReaderAt w' br m 1 ∧ ∃ bq cq, e = .returned (.tuple #[.slice (some ⟨bq, 0, none⟩) 1 cq, .int .i64 0]) ∧ QueryAt w' bq
theorem query_fin {w W w9 : World} {br m bp cp bt ct g cap lo : Nat} {o : Obj} (h : QueryMid w W br m bp bt) (hown : w9.ownsRow lo 60 1 (.slice (some ⟨g, 0, none⟩) 1 cap) 1 ([] ++ [.iface 92 (.agg #[.string nameA, .slice (some ⟨bp, 0, none⟩) 1 cp, .slice (some ⟨bt, 0, none⟩) 1 ct])])) (hgrow : (W.alloc o).grownBy w9 none) :
    QueryPost w br m (.returned (.tuple #[.slice (some ⟨g, 0, none⟩) 1 cap, .int .i64 0])) w9 := by
  have hb : Below W.heap.size W w9 := ((Below.refl _ W).alloc (Nat.le_refl _) o).trans ⟨hgrow.os, hgrow.tape, hgrow.output, hgrow.size, fun k hk => hgrow.block k (by simp; omega) (by simp)⟩
  exact ⟨grown_tr h.1 (grown_of_below hb _), block_keep h.2.1 hb, g, cap, rfl, ⟨bp, cp, bt, ct, hown.cellAt 0 (by omega), h.2.2.keep hb⟩⟩
theorem pair_at {w : World} {b : Nat} {c0 c1 : Value} {t : TypeId} (h : w.heap[b]? = some (.cells #[c0, c1] t (0, 0))) : w.cell? ⟨b, 0, none⟩ = some c0 ∧ w.cell? ⟨b, 1, none⟩ = some c1 := by simp [World.cell?, h]
theorem AN : (Tryz.prog.info? 60).map (fun i => (i.zero, i.size, i.bytes)) = some (some .nilIface, 1, 16) := by kernel_rfl
set_option maxHeartbeats 2000000 in
set_option maxRecDepth 100000 in
theorem query_gt (br m b1 b2 bn cn bi ci cn1 ci1 : Nat) (w : World) (hR : ReaderAt w br m 0) (hT : Table w m b1 b2) (hm : m ≠ br) (h1 : b1 ≠ br) (h2 : b2 ≠ br) (hn : w.cell? ⟨bn, 0, none⟩ = some (.string nameA)) (hI : FiveAt w bi (.int .i64 6) (.int .i64 0) (.string ⟨#[]⟩) (.slice (some ⟨cn1, 0, none⟩) 1 1) (.slice (some ⟨ci1, 0, none⟩) 1 1)) (hn1 : w.cell? ⟨cn1, 0, none⟩ = some (.string dollarGt)) (hI1 : NumAt w ci1 0 4) (hnb : bn ≠ br) (hib : bi ≠ br) (hnb1 : cn1 ≠ br) (hib1 : ci1 ≠ br) :
    Calls Tryz.prog 36 #[.pointer (some ⟨br, 0, none⟩), objV bn cn bi ci, .int .i64 0] w (QueryPost w br m) := by
  obtain ⟨it, hit, hz0, hz1, hz2⟩ := info_parts AN
  have hbr0 := (Array.getElem?_eq_some_iff.1 hR).1
  have hlt := hT.lt
  have HB : Below w.heap.size w (w.alloc (objC bn cn bi ci)) := (Below.refl _ w).alloc (Nat.le_refl _) _
  have n0 := heap_alloc_new w (objC bn cn bi ci)
  have hmem := fun W => hid_of (members_one bn cn bi ci W)
  unfold objC at HB n0
  have hcl0 := fun W (hW : Below w.heap.size w W) => hid_of (clause_gt br m b1 b2 cn1 1 ci1 1 W (block_keep hR hW) (hT.mono (fun k hk => hW.block k (by rcases hk with rfl | rfl | rfl <;> omega))) hm h1 h2 (stay hW hn1) (hI1.keep hW) hnb1 hib1)
  unfold objV at *
  go_enter Tryz.func36, Tryz.ntmps36
  go_wp2_with fail
  generalize w.alloc (.cells #[.int .i64 6, .int .i64 0, .string ⟨#[]⟩, .slice (some ⟨bn, 0, none⟩) 1 cn, .slice (some ⟨bi, 0, none⟩) 1 ci] 28) = X0 at HB n0
  refine (hmem _).out.mono ?_
  rintro e X2 ⟨rfl, hb2⟩
  replace HB := HB.trans (hb2.mono HB.size)
  replace n0 := block_keep n0 hb2
  clear hb2 hmem
  go_wp2_with fail
  refine wp_loop_rounds 2 ?_
  rw [rounds_succ]
  go_upto_region 9 with fail
  have hXw : Below w.heap.size w X2.drew := below_drew HB
  obtain ⟨-, -, -, x3, x4, -⟩ := row_cells (w := X2.drew) n0
  have hXg : Hid (w.grownBy X2.drew (some br)) := hid_of (grown_of_below hXw _)
  have bne : w.heap.size ≠ br ∧ bn ≠ br ∧ bi ≠ br := ⟨by omega, hnb, hib⟩
  have xn : X2.drew.cell? ⟨bn, 0, none⟩ = some (.string nameA) := stay hXw hn
  obtain ⟨i0, i1, i2, i3, i4⟩ := hI.keep hXw
  have hcl := hcl0 _ hXw
  generalize hX : X2.drew = X at hXw hXg xn i0 i1 i2 i3 i4 hcl x3 x4
  have hs0 : X.grownBy X (some br) := World.grownBy.refl _ _
  clear hXw HB n0 hR hT hm h1 h2 hn hI hnb hib hbr0 hlt hn1 hI1 hnb1 hib1 hcl0
  refine wp_region_noPanic ?_
  refine Until.wp_region_U (fun W => X.grownBy W (some br)) (fun _ => True) 1000 (by kernel_rfl) ?_
  rw [hX]
  clear hX
  refine Until.wpU_pure (i := 0) (oi := { dst := some 23, op := Op.move (Operand.tmp 0), type := 110, pos := "read.go:26", after := #[], guard := none }) (v := .pointer (some ⟨br, 0, none⟩)) rfl (by kernel_rfl) (by kernel_rfl) (by kernel_rfl) (by kernel_rfl) (by kernel_rfl) (fun _ _ _ h => h) (hs0) (fun _ => trivial) (by rfl) (by intro w'; go_simp) ?_
  try simp only [Act.put, List.setIfInBounds_toArray, List.set_cons_zero, List.set_cons_succ]
  refine Until.wpU_pure (i := 1) (oi := { dst := some 24, op := Op.fieldAddr 28 (Operand.tmp 4) 3, type := 0, pos := "read.go:26", after := #[], guard := none }) (v := .pointer (some ⟨w.heap.size, 3, none⟩)) rfl (by kernel_rfl) (by kernel_rfl) (by kernel_rfl) (by kernel_rfl) (by kernel_rfl) (fun _ _ _ h => h) (hs0) (fun _ => trivial) (by rfl) (by intro w'; go_simp) ?_
  try simp only [Act.put, List.setIfInBounds_toArray, List.set_cons_zero, List.set_cons_succ]
  refine Until.wpU_load0 (i := 2) (oi := { dst := some 25, op := Op.load 25 (Operand.tmp 24), type := 25, pos := "read.go:26", after := #[{ on := 1, ground := Ground.data }], guard := none }) (v := .slice (some ⟨bn, 0, none⟩) 1 cn) rfl (by kernel_rfl) (by kernel_rfl) (by kernel_rfl) (by kernel_rfl) (by kernel_rfl) (fun _ _ _ h => h) (hs0) (fun _ => trivial) (by rfl) (by intro w' hw'; have t0 := gstay hw' x3 bne.1; go_simp) ?_
  try simp only [Act.put, List.setIfInBounds_toArray, List.set_cons_zero, List.set_cons_succ]
  refine Until.wpU_pure (i := 3) (oi := { dst := some 26, op := Op.move (Operand.tmp 9), type := 3, pos := "read.go:26", after := #[], guard := none }) (v := .int .i64 0) rfl (by kernel_rfl) (by kernel_rfl) (by kernel_rfl) (by kernel_rfl) (by kernel_rfl) (fun _ _ _ h => h) (hs0) (fun _ => trivial) (by rfl) (by intro w'; go_simp) ?_
  try simp only [Act.put, List.setIfInBounds_toArray, List.set_cons_zero, List.set_cons_succ]
  refine Until.wpU_pure (i := 4) (oi := { dst := some 27, op := Op.indexAddr 25 (Operand.tmp 25) (Operand.tmp 26), type := 0, pos := "read.go:26", after := #[{ on := 2, ground := Ground.data }, { on := 3, ground := Ground.data }], guard := none }) (v := .pointer (some ⟨bn, 0, none⟩)) rfl (by kernel_rfl) (by kernel_rfl) (by kernel_rfl) (by kernel_rfl) (by kernel_rfl) (fun _ _ _ h => h) (hs0) (fun _ => trivial) (by rfl) (by intro w'; go_simp) ?_
  try simp only [Act.put, List.setIfInBounds_toArray, List.set_cons_zero, List.set_cons_succ]
  refine Until.wpU_load0 (i := 5) (oi := { dst := some 28, op := Op.load 9 (Operand.tmp 27), type := 9, pos := "read.go:26", after := #[{ on := 4, ground := Ground.data }], guard := none }) (v := .string nameA) rfl (by kernel_rfl) (by kernel_rfl) (by kernel_rfl) (by kernel_rfl) (by kernel_rfl) (fun _ _ _ h => h) (hs0) (fun _ => trivial) (by rfl) (by intro w' hw'; have t0 := gstay hw' xn bne.2.1; go_simp) ?_
  try simp only [Act.put, List.setIfInBounds_toArray, List.set_cons_zero, List.set_cons_succ]
  refine Until.wpU_pure (i := 6) (oi := { dst := some 29, op := Op.fieldAddr 28 (Operand.tmp 4) 4, type := 0, pos := "read.go:26", after := #[], guard := none }) (v := .pointer (some ⟨w.heap.size, 4, none⟩)) rfl (by kernel_rfl) (by kernel_rfl) (by kernel_rfl) (by kernel_rfl) (by kernel_rfl) (fun _ _ _ h => h) (hs0) (fun _ => trivial) (by rfl) (by intro w'; go_simp) ?_
  try simp only [Act.put, List.setIfInBounds_toArray, List.set_cons_zero, List.set_cons_succ]
  refine Until.wpU_load0 (i := 7) (oi := { dst := some 30, op := Op.load 26 (Operand.tmp 29), type := 26, pos := "read.go:26", after := #[{ on := 6, ground := Ground.data }], guard := none }) (v := .slice (some ⟨bi, 0, none⟩) 1 ci) rfl (by kernel_rfl) (by kernel_rfl) (by kernel_rfl) (by kernel_rfl) (by kernel_rfl) (fun _ _ _ h => h) (hs0) (fun _ => trivial) (by rfl) (by intro w' hw'; have t0 := gstay hw' x4 bne.1; go_simp) ?_
  try simp only [Act.put, List.setIfInBounds_toArray, List.set_cons_zero, List.set_cons_succ]
  refine Until.wpU_pure (i := 8) (oi := { dst := some 31, op := Op.move (Operand.tmp 9), type := 3, pos := "read.go:26", after := #[], guard := none }) (v := .int .i64 0) rfl (by kernel_rfl) (by kernel_rfl) (by kernel_rfl) (by kernel_rfl) (by kernel_rfl) (fun _ _ _ h => h) (hs0) (fun _ => trivial) (by rfl) (by intro w'; go_simp) ?_
  try simp only [Act.put, List.setIfInBounds_toArray, List.set_cons_zero, List.set_cons_succ]
  refine Until.wpU_pure (i := 9) (oi := { dst := some 32, op := Op.indexAddr 26 (Operand.tmp 30) (Operand.tmp 31), type := 0, pos := "read.go:26", after := #[{ on := 7, ground := Ground.data }, { on := 8, ground := Ground.data }], guard := none }) (v := .pointer (some ⟨bi, 0, none⟩)) rfl (by kernel_rfl) (by kernel_rfl) (by kernel_rfl) (by kernel_rfl) (by kernel_rfl) (fun _ _ _ h => h) (hs0) (fun _ => trivial) (by rfl) (by intro w'; go_simp) ?_
  try simp only [Act.put, List.setIfInBounds_toArray, List.set_cons_zero, List.set_cons_succ]
  refine Until.wpU_load0 (i := 10) (oi := { dst := some 33, op := Op.load 28 (Operand.tmp 32), type := 28, pos := "read.go:26", after := #[{ on := 9, ground := Ground.data }], guard := none }) (v := .agg #[.int .i64 6, .int .i64 0, .string ⟨#[]⟩, .slice (some ⟨cn1, 0, none⟩) 1 1, .slice (some ⟨ci1, 0, none⟩) 1 1]) rfl (by kernel_rfl) (by kernel_rfl) (by kernel_rfl) (by kernel_rfl) (by kernel_rfl) (fun _ _ _ h => h) (hs0) (fun _ => trivial) (by rfl) (by intro w' hw'; have t0 := gstay hw' i0 bne.2.2; have t1 := gstay hw' i1 bne.2.2; have t2 := gstay hw' i2 bne.2.2; have t3 := gstay hw' i3 bne.2.2; have t4 := gstay hw' i4 bne.2.2; go_simp) ?_
  try simp only [Act.put, List.setIfInBounds_toArray, List.set_cons_zero, List.set_cons_succ]
  refine Until.wpU_pure (i := 11) (oi := { dst := some 34, op := Op.move (Operand.tmp 2), type := 3, pos := "read.go:26", after := #[], guard := none }) (v := .int .i64 0) rfl (by kernel_rfl) (by kernel_rfl) (by kernel_rfl) (by kernel_rfl) (by kernel_rfl) (fun _ _ _ h => h) (hs0) (fun _ => trivial) (by rfl) (by intro w'; go_simp) ?_
  try simp only [Act.put, List.setIfInBounds_toArray, List.set_cons_zero, List.set_cons_succ]
  refine Until.wpU_ready (rs := [12]) (by kernel_rfl) (by simp) ?_
  refine (Until.AllU.cons (o := { dst := some 35, op := Op.call { callee := Callee.value (Operand.func 70), args := #[Operand.tmp 23, Operand.tmp 28, Operand.tmp 33, Operand.tmp 34], argTypes := #[110, 9, 28, 3] }, type := 111, pos := "read.go:26", after := #[{ on := 0, ground := Ground.data }, { on := 5, ground := Ground.data }, { on := 10, ground := Ground.data }, { on := 11, ground := Ground.data }], guard := none }) rfl (fun K hK => ?_) Until.AllU.nil)
  go_simp
  refine hcl.out.mono ?_
  rintro e w5 ⟨hg5, hR5, bp, cp, bt, ct, rfl, hP5⟩
  have hs5 := grown_tr hs0 hg5
  refine hK.out _ _ hs5 (fun _ => trivial) ?_
  clear hK K
  unfold placeV
  try simp only [Act.put, List.setIfInBounds_toArray, List.set_cons_zero, List.set_cons_succ]
  refine Until.wpU_pure (i := 13) (oi := { dst := some 22, op := Op.move (Operand.tmp 35), type := 111, pos := "read.go:26", after := #[{ on := 12, ground := Ground.data }], guard := none }) (v := .tuple #[.iface 92 (.agg #[.string nameA, .slice (some ⟨bp, 0, none⟩) 1 cp, .slice (some ⟨bt, 0, none⟩) 1 ct]), .int .i64 0]) rfl (by kernel_rfl) (by kernel_rfl) (by kernel_rfl) (by kernel_rfl) (by kernel_rfl) (fun _ _ _ h => h) (hs5) (fun _ => trivial) (by rfl) (by intro w'; go_simp) ?_
  try simp only [Act.put, List.setIfInBounds_toArray, List.set_cons_zero, List.set_cons_succ]
  refine Until.wpU_pure (i := 14) (oi := { dst := some 36, op := Op.extract (Operand.tmp 22) 0, type := 60, pos := "read.go:26", after := #[{ on := 13, ground := Ground.data }], guard := none }) (v := .iface 92 (.agg #[.string nameA, .slice (some ⟨bp, 0, none⟩) 1 cp, .slice (some ⟨bt, 0, none⟩) 1 ct])) rfl (by kernel_rfl) (by kernel_rfl) (by kernel_rfl) (by kernel_rfl) (by kernel_rfl) (fun _ _ _ h => h) (hs5) (fun _ => trivial) (by rfl) (by intro w'; go_simp) ?_
  try simp only [Act.put, List.setIfInBounds_toArray, List.set_cons_zero, List.set_cons_succ]
  refine Until.wpU_pure (i := 15) (oi := { dst := some 37, op := Op.extract (Operand.tmp 22) 1, type := 47, pos := "read.go:26", after := #[{ on := 13, ground := Ground.data }, { on := 16, ground := Ground.gcOnly Departure.lateStores }], guard := none }) (v := .int .i64 0) rfl (by kernel_rfl) (by kernel_rfl) (by kernel_rfl) (by kernel_rfl) (by kernel_rfl) (fun _ _ _ h => h) (hs5) (fun _ => trivial) (by rfl) (by intro w'; go_simp) ?_
  try simp only [Act.put, List.setIfInBounds_toArray, List.set_cons_zero, List.set_cons_succ]
  refine Until.wpU_pure (i := 16) (oi := { dst := some 10, op := Op.assign (Operand.tmp 36), type := 60, pos := "read.go:26", after := #[{ on := 14, ground := Ground.data }, { on := 12, ground := Ground.chain }, { on := 0, ground := Ground.phase }, { on := 1, ground := Ground.phase }, { on := 2, ground := Ground.phase }, { on := 3, ground := Ground.phase }, { on := 4, ground := Ground.phase }, { on := 5, ground := Ground.phase }, { on := 6, ground := Ground.phase }, { on := 7, ground := Ground.phase }, { on := 8, ground := Ground.phase }, { on := 9, ground := Ground.phase }, { on := 10, ground := Ground.phase }, { on := 11, ground := Ground.phase }, { on := 12, ground := Ground.phase }, { on := 13, ground := Ground.phase }, { on := 14, ground := Ground.phase }, { on := 15, ground := Ground.textOnly Departure.lateStores }], guard := none }) (v := .iface 92 (.agg #[.string nameA, .slice (some ⟨bp, 0, none⟩) 1 cp, .slice (some ⟨bt, 0, none⟩) 1 ct])) rfl (by kernel_rfl) (by kernel_rfl) (by kernel_rfl) (by kernel_rfl) (by kernel_rfl) (fun _ _ _ h => h) (hs5) (fun _ => trivial) (by rfl) (by intro w'; go_simp) ?_
  try simp only [Act.put, List.setIfInBounds_toArray, List.set_cons_zero, List.set_cons_succ]
  refine Until.wpU_pure (i := 17) (oi := { dst := some 11, op := Op.assign (Operand.tmp 37), type := 47, pos := "read.go:26", after := #[{ on := 15, ground := Ground.data }, { on := 16, ground := Ground.chain }, { on := 0, ground := Ground.phase }, { on := 1, ground := Ground.phase }, { on := 2, ground := Ground.phase }, { on := 3, ground := Ground.phase }, { on := 4, ground := Ground.phase }, { on := 5, ground := Ground.phase }, { on := 6, ground := Ground.phase }, { on := 7, ground := Ground.phase }, { on := 8, ground := Ground.phase }, { on := 9, ground := Ground.phase }, { on := 10, ground := Ground.phase }, { on := 11, ground := Ground.phase }, { on := 12, ground := Ground.phase }, { on := 13, ground := Ground.phase }, { on := 14, ground := Ground.phase }, { on := 15, ground := Ground.phase }, { on := 16, ground := Ground.phase }], guard := none }) (v := .int .i64 0) rfl (by kernel_rfl) (by kernel_rfl) (by kernel_rfl) (by kernel_rfl) (by kernel_rfl) (fun _ _ _ h => h) (hs5) (fun _ => trivial) (by rfl) (by intro w'; go_simp) ?_
  try simp only [Act.put, List.setIfInBounds_toArray, List.set_cons_zero, List.set_cons_succ]
  have hfin : Hid (QueryMid w w5 br m bp bt) := hid_of ⟨grown_tr hXg.out hg5, hR5, hP5⟩
  clear hs5 hg5 hR5 hP5 hs0 hcl xn x3 x4 i0 i1 i2 i3 i4
  refine Until.wpU_done (by kernel_rfl) ?_ _
  refine NoPanic.normal ?_
  go_wp2_with (at_builtin; refine wpList_append_lies _ rfl _ _ 76 rfl w.heap.size 60 it _ 1 16 Tryz.underlying76 hit hz0 hz1 hz2 rfl (by decide) _ 0 ([] : List Value) rfl (World.ownsRow_nil _ _ _ _) _ 1 1 [.iface 92 (.agg #[.string nameA, .slice (some ⟨bp, 0, none⟩) 1 cp, .slice (some ⟨bt, 0, none⟩) 1 ct])] rfl rfl (World.news_of_block (heap_new' rfl)) (by simp [Value.oneCell']) (by decide) (by unfold maxLen; omega) (by omega) (by have := hfin.out.1.size; simp; omega) _ rfl ?_; intro g cap w9 hown9 hgrow9 hat9 hlt9)
  rw [rounds_succ]
  go_wp2_with fail
  go_ret2
  exact query_fin hfin.out hown9 hgrow9

set_option maxHeartbeats 2000000 in
set_option maxRecDepth 100000 in
theorem parse_gt (bn cn bi ci cn1 ci1 : Nat) (w : World) (hn : w.cell? ⟨bn, 0, none⟩ = some (.string nameA)) (hI : FiveAt w bi (.int .i64 6) (.int .i64 0) (.string ⟨#[]⟩) (.slice (some ⟨cn1, 0, none⟩) 1 1) (.slice (some ⟨ci1, 0, none⟩) 1 1)) (hn1 : w.cell? ⟨cn1, 0, none⟩ = some (.string dollarGt)) (hI1 : NumAt w ci1 0 4) :
    Calls Tryz.prog 21 #[objV bn cn bi ci] w fun e w' => Below w.heap.size w w' ∧ ∃ bf, e = .returned (.tuple #[.pointer (some ⟨bf, 0, none⟩), .int .i64 0]) ∧ FilterAt w' bf := by
  have HB : Below w.heap.size w (w.alloc (objC bn cn bi ci)) := (Below.refl _ w).alloc (Nat.le_refl _) _
  have n0 := heap_alloc_new w (objC bn cn bi ci)
  have e1 := lt_of_cell hn; have e2 := lt_of_cell hI.1; have e3 := lt_of_cell hn1; have e4 := lt_of_cell hI1.1
  have hq0 := fun (W : World) (br m b1 b2 : Nat) (hW : Below w.heap.size w W) (hbr : w.heap.size ≤ br) (hR : ReaderAt W br m 0) (hT : Table W m b1 b2) (hm : m ≠ br) (h1 : b1 ≠ br) (h2 : b2 ≠ br) => hid_of (query_gt br m b1 b2 bn cn bi ci cn1 ci1 W hR hT hm h1 h2 (stay hW hn) (hI.keep hW) (stay hW hn1) (hI1.keep hW) (by simp only at *; omega) (by simp only at *; omega) (by simp only at *; omega) (by simp only at *; omega))
  clear hn hI hn1 hI1 e1 e2 e3 e4
  unfold objC at HB n0
  unfold objV at *
  go_enter Tryz.func21, Tryz.ntmps21
  go_wp2_with fail
  generalize w.alloc (.cells #[.int .i64 6, .int .i64 0, .string ⟨#[]⟩, .slice (some ⟨bn, 0, none⟩) 1 cn, .slice (some ⟨bi, 0, none⟩) 1 ci] 28) = X0 at HB n0
  refine (operators_any _).mono ?_
  rintro e X1 ⟨hb1, m, b1, b2, rfl, hm0, hb10, hb20, hT⟩
  replace HB := HB.trans (hb1.mono HB.size)
  replace n0 := block_keep n0 hb1
  obtain ⟨X2, hX2⟩ : ∃ X2, Hid (X1.alloc (.cells #[.map (some m), .int .i64 0] 74) = X2) := ⟨_, rfl⟩
  have hb2 : Below X1.heap.size X1 X2 := by rw [← hX2.out]; exact (Below.refl _ X1).alloc (Nat.le_refl _) _
  have hR2 : ReaderAt X2 X1.heap.size m 0 := by rw [← hX2.out]; exact heap_alloc_new X1 _
  have hT2 : Table X2 m b1 b2 := hT.mono (fun k hk => hb2.block k (by have := hT.lt; rcases hk with rfl | rfl | rfl <;> omega))
  have hlt := hT.lt
  have HB2 := HB.trans (hb2.mono HB.size)
  have hq := hq0 X2 X1.heap.size m b1 b2 HB2 HB.size hR2 hT2 (by omega) (by omega) (by omega)
  obtain ⟨y0, y1, y2, y3, y4, -⟩ := row_cells (block_keep n0 hb2)
  have hs1 : Hid (w.heap.size ≤ X1.heap.size ∧ X1.heap.size < X2.heap.size) := hid_of ⟨HB.size, (Array.getElem?_eq_some_iff.1 hR2).1⟩
  clear hq0 hb1 HB n0 hm0 hb10 hb20 hT hb2 hR2 hT2 hlt
  go_wp2_with (rw [hX2.out])
  refine hq.out.mono ?_
  rintro e X3 ⟨hg3, hR3, bq, cq, rfl, hQ3⟩
  have r1 : X3.cell? ⟨X1.heap.size, 1, none⟩ = some (.int .i64 1) := by unfold ReaderAt at hR3; simp [World.cell?, hR3]
  have HB3 : Below w.heap.size w X3 := by
    have h := hs1.out
    exact ⟨hg3.os.trans HB2.os, hg3.tape.trans HB2.tape, hg3.output.trans HB2.output, Nat.le_trans HB2.size hg3.size, fun k hk => (hg3.block k (by omega) (fun e => absurd (Option.some.inj e) (by omega))).trans (HB2.block k hk)⟩
  replace hQ3 := hid_of hQ3
  clear hg3 hR3 hq HB2 y0 y1 y2 y3 y4
  go_wp2_with fail
  go_ret2
  have hb4 : ∀ o, Below X3.heap.size X3 (X3.alloc o) := fun o => (Below.refl _ X3).alloc (Nat.le_refl _) o
  have n4 := heap_alloc_new X3 (.cells #[.iface 76 (.slice (some ⟨bq, 0, none⟩) 1 cq), .int .i64 1] 62)
  refine ⟨HB3.alloc HB3.size _, X3.heap.size, rfl, ⟨bq, cq, ?_, ?_, hQ3.out.keep (hb4 _)⟩⟩
  · exact (pair_at n4).1
  · exact (pair_at n4).2
end Go.Proofs.YtdfkfnhppjhghaaGreat
