import Derived.Test.YtnlljodmkacmlaaGreatDoorJB
import Derived.Deep.WholeRow
import Derived.Maps.OwnSet
import Derived.Deep.RegionWith
/-! The entries of an item with a number at t. -/
namespace Go.Proofs.YtnlljodmkacmlaaGreatDoor
open Go Go.RowKit

theorem copy_n {P : Program} (w : World) (T ty elem : TypeId) (i : TypeInfo) (g n dCap : Nat) (a : Addr) (sCap : Nat) (cur : Array Value) (t : TypeId) (cs : List Value) (hu : P.underlying T = some (.slice elem)) (hi : P.info? elem = some i)
    (hg : w.heap[g]? = some (.cells cur t (0, 0))) (hn : cs.length = n * i.size) (hsrc : ∀ j v, cs[j]? = some v → w.cell? (a.add j) = some v) (hfit : cs.length ≤ cur.size) (h1 : ∀ v ∈ cs, v.oneCell' = true) :
    (Builtin.copy_ #[T, T] ty #[.slice (some ⟨g, 0, none⟩) n dCap, .slice (some a) n sCap]).run P w = .ok (goInt n) (w.setRow g (cs ++ cur.toList.drop cs.length).toArray) := by
  have hl := run_loadCells_list (P := P) w a cs hsrc
  have hst := run_storeCells_at P g 0 t cs 0 cur w hg (by simpa using hfit) h1
  simp at hst
  simp [Builtin.copy_, run_underlying hu, Builtin.lenOf, Builtin.firstCells, sizeOf, typeInfo, hi, ← hn, hl, hst]
theorem make_v1 (w : World) : (Instr.makeSlice 26 (.int .i64 1) (.int .i64 1)).run Tryz.prog w = .ok (.slice (some ⟨w.heap.size, 0, none⟩) 1 1) (w.alloc (.cells #[.int .i64 0, .int .i64 0, .string ⟨#[]⟩, .slice none 0 0, .slice none 0 0] 28)) := by
  kernel_rfl
theorem copy_v1 (x : Int) (g c : Nat) (w : World) (h : NumAt w g 0 x) : (Builtin.copy_ #[26, 26] 3 #[.slice (some ⟨w.heap.size, 0, none⟩) 1 1, .slice (some ⟨g, 0, none⟩) 1 c]).run Tryz.prog (w.alloc (.cells #[.int .i64 0, .int .i64 0, .string ⟨#[]⟩, .slice none 0 0, .slice none 0 0] 28)) = .ok (goInt 1) (w.alloc (numC x)) := by
  obtain ⟨i0, hi, hz0, hz1, hz2⟩ := info_parts AV
  have hz := fun o => h.keep ((Below.refl _ w).alloc (Nat.le_refl _) o)
  have := copy_n (P := Tryz.prog) (w.alloc (.cells #[.int .i64 0, .int .i64 0, .string ⟨#[]⟩, .slice none 0 0, .slice none 0 0] 28)) 26 3 28 i0 w.heap.size 1 1 ⟨g, 0, none⟩ c #[.int .i64 0, .int .i64 0, .string ⟨#[]⟩, .slice none 0 0, .slice none 0 0] 28 [.int .i64 3, .int .i64 x, .string ⟨#[]⟩, .slice none 0 0, .slice none 0 0] Tryz.underlying26 hi (heap_alloc_new w _) (by rw [hz1]; rfl) (fun j v hj => by
    rw [add_off]
    obtain ⟨t0, t1, t2, t3, t4⟩ := hz (.cells #[.int .i64 0, .int .i64 0, .string ⟨#[]⟩, .slice none 0 0, .slice none 0 0] 28)
    rcases j with _ | _ | _ | _ | _ | j
    all_goals simp at hj
    all_goals subst hj
    · exact t0
    · exact t1
    · exact t2
    · exact t3
    · exact t4) (by simp) (by simp [Value.oneCell'])
  rw [this, World.setRow_alloc_new]
  rfl
set_option maxHeartbeats 1000000 in
set_option maxRecDepth 100000 in
theorem insert1 (g : Nat) (f : Value) (w : World) : Calls Tryz.prog 164 #[.slice (some ⟨g, 0, none⟩) 1 1, .int .i64 0, .int .i64 1, f] w fun e w' => e = .returned (.tuple #[]) ∧ w' = w := by
  go_enter Tryz.func164, Tryz.ntmps164
  go_wp2_with fail
  refine wp_loop_rounds 1 ?_
  rw [rounds_succ]
  go_wp2_with fail
  go_end0
  exact ⟨rfl, rfl⟩
set_option maxHeartbeats 1000000 in
set_option maxRecDepth 100000 in
theorem stable1 (g : Nat) (f : Value) (w : World) : Calls Tryz.prog 151 #[.slice (some ⟨g, 0, none⟩) 1 1, .int .i64 1, f] w fun e w' => e = .returned (.tuple #[]) ∧ w' = w := by
  have hi := hid_of (insert1 g f w)
  go_enter Tryz.func151, Tryz.ntmps151
  go_wp2_with fail
  refine wp_loop_rounds 1 ?_
  rw [rounds_succ]
  go_wp2_with fail
  refine hi.out.mono ?_
  rintro e X1 ⟨rfl, hX⟩
  have hX := hX.symm; subst hX
  clear hi
  go_wp2_with fail
  refine wp_loop_rounds 1 ?_
  rw [rounds_succ]
  go_wp2_with fail
  go_end0
  exact ⟨rfl, rfl⟩
theorem sorted1 (g : Nat) (f : Value) (w : World) : Calls Tryz.prog 135 #[.slice (some ⟨g, 0, none⟩) 1 1, f] w fun e w' => e = .returned (.tuple #[]) ∧ w' = w := by
  have hi := hid_of (stable1 g f w)
  go_enter Tryz.func135, Tryz.ntmps135
  go_wp2_with fail
  refine hi.out.mono ?_
  rintro e X1 ⟨rfl, hX⟩
  have hX := hX.symm; subst hX
  clear hi
  go_wp2_with fail
  go_end0
  exact ⟨rfl, rfl⟩
set_option maxHeartbeats 1000000 in
set_option maxRecDepth 100000 in
theorem osort1 (x : Int) (g c : Nat) (w : World) (h : NumAt w g 0 x) : Calls Tryz.prog 109 #[.slice (some ⟨g, 0, none⟩) 1 c] w fun e w' => e = .returned (.slice (some ⟨w.heap.size, 0, none⟩) 1 1) ∧ w' = w.alloc (numC x) := by
  have hmk := make_v1 w
  have hcp := copy_v1 x g c w h
  have hs := hid_of (sorted1 w.heap.size (.func (.func 52) #[] #[]) (w.alloc (numC x)))
  clear h
  go_enter Tryz.func109, Tryz.ntmps109
  go_wp2_with fail
  refine hs.out.mono ?_
  rintro e X1 ⟨rfl, rfl⟩
  clear hs hmk hcp
  go_wp2_with fail
  go_ret
  exact ⟨rfl, rfl⟩
theorem compact1 (g c : Nat) (f : Value) (w : World) : Calls Tryz.prog 108 #[.slice (some ⟨g, 0, none⟩) 1 c, f] w fun e w' => e = .returned (.slice (some ⟨g, 0, none⟩) 1 c) ∧ w' = w := by
  go_enter Tryz.func108, Tryz.ntmps108
  go_wp2_with fail
  go_ret
  exact ⟨rfl, rfl⟩
theorem numAt_new (w : World) (x : Int) : NumAt (w.alloc (numC x)) w.heap.size 0 x := by
  obtain ⟨h0, h1, h2, h3, h4⟩ := five_at (heap_alloc_new w (numC x))
  exact ⟨h0, h1, h2, h3, h4⟩
theorem different1 (x : Int) (g c : Nat) (w : World) (h : NumAt w g 0 x) : Calls Tryz.prog 73 #[.slice (some ⟨g, 0, none⟩) 1 c] w fun e w' => e = .returned (.slice (some ⟨w.heap.size, 0, none⟩) 1 1) ∧ w' = w.alloc (numC x) := by
  have hs := hid_of (osort1 x g c w h)
  clear h
  go_enter Tryz.func73, Tryz.ntmps73
  go_wp2_with fail
  refine hs.out.mono ?_
  rintro e X1 ⟨rfl, rfl⟩
  clear hs
  go_wp2_with fail
  refine (compact1 _ _ _ _).mono ?_
  rintro e X2 ⟨rfl, hX2⟩
  replace hX2 := hid_of hX2
  go_wp2_with fail
  go_ret
  exact ⟨rfl, hX2.out⟩
theorem grown_cell {A B : World} {row : Option Nat} (h : A.grownBy B row) {p : Addr} {v : Value} (hc : A.cell? p = some v) (hr : ∀ r, row = some r → p.block ≠ r) : B.cell? p = some v := (World.cell?_of_block (h.block _ (lt_of_cell hc) (fun e => hr _ e.symm rfl))).trans hc
set_option maxHeartbeats 2000000 in
set_option maxRecDepth 100000 in
theorem tested1 (x : Int) (bn cn bi ci bp cp : Nat) (w : World) (h : w.cell? ⟨bn, 0, none⟩ = some (.string nameA)) (hI : NumAt w bi 0 x) (hp : w.cell? ⟨bp, 0, none⟩ = some (.string nameA)) :
    Calls Tryz.prog 74 #[objV bn cn bi ci, .slice (some ⟨bp, 0, none⟩) 1 cp] w fun e w' => Below w.heap.size w w' ∧ ∃ g cap, e = .returned (.slice (some ⟨g, 0, none⟩) 1 cap) ∧ NumAt w' g 0 x := by
  have HB : Below w.heap.size w (w.alloc (objC bn cn bi ci)) := (Below.refl _ w).alloc (Nat.le_refl _) _
  have hg := hid_of (all_a x bn cn bi ci bp cp _ (stay HB h) (hI.keep HB) (stay HB hp))
  obtain ⟨i5, hi5, hz0, hz1, hz2⟩ := info_parts AV
  clear h hI hp
  unfold objV objC at *
  go_enter Tryz.func74, Tryz.ntmps74
  go_wp2_with fail
  refine hg.out.mono ?_
  rintro e X1 ⟨hb1, g, cap, rfl, hN⟩
  clear hg
  replace HB := HB.trans (hb1.mono HB.size)
  clear hb1
  obtain ⟨t0, t1, t2, t3, t4⟩ := hN
  simp only [Nat.zero_add] at t1 t2 t3 t4
  have HB' : Below w.heap.size w ((X1.alloc (numC x)).alloc (numC x)) := (HB.alloc HB.size _).alloc (by simp; have := HB.size; omega) _
  have d0 : (X1.alloc (numC x)).cell? ⟨X1.heap.size, 0, none⟩ = some (.int .i64 3) := (numAt_new X1 x).1
  have d1 := cell_alloc' d0 (numC x)
  unfold numC at HB' d0 d1
  go_wp2_with fail
  refine wp_loop_rounds 2 ?_
  rw [rounds_succ]
  go_wp2_with (at_builtin; refine wpList_append_lies _ rfl _ _ 26 rfl w.heap.size 28 i5 _ 5 80 Tryz.underlying26 hi5 hz0 hz1 hz2 rfl (by decide) _ 0 ([] : List Value) rfl (World.ownsRow_nil _ _ _ _) _ 1 1 [.int .i64 3, .int .i64 x, .string ⟨#[]⟩, .slice none 0 0, .slice none 0 0] rfl rfl (World.news_of_block (heap_new' (by simp))) (by simp [Value.oneCell']) (by decide) (by unfold maxLen; omega) (by omega) (by simp; have := HB.size; omega) _ rfl ?_; intro g2 cap2 X2 hown2 hgrow2 hat2 hlt2; have d2 := grown_cell hgrow2 d1 (by intro r h; cases h))
  rw [rounds_succ]
  go_wp2_with fail
  go_ret
  refine ⟨HB'.trans (grown_below hgrow2 HB'.size (fun g hg => by cases hg)), g2, cap2, rfl, ?_⟩
  exact ⟨hown2.cellAt 0 (by omega), hown2.cellAt 1 (by omega), hown2.cellAt 2 (by omega), hown2.cellAt 3 (by omega), hown2.cellAt 4 (by omega)⟩
end Go.Proofs.YtnlljodmkacmlaaGreatDoor
/-! The entries of an item; a key that an index without entries has not. -/
namespace Go.Proofs.YtnlljodmkacmlaaGreatDoor
open Go Go.RowKit

/-- An entry: a number and a key. -/
def EntAt (w : World) (eb : Nat) (x : Int) (key : ByteArray) : Prop := w.heap[eb]? = some (.cells #[.int .i64 3, .int .i64 x, .string ⟨#[]⟩, .slice none 0 0, .slice none 0 0, .string key] 114 (0, 0))
theorem EntAt.keep {w w' : World} {eb : Nat} {x : Int} {key : ByteArray} (h : EntAt w eb x key) (hb : Below w.heap.size w w') : EntAt w' eb x key := block_keep h hb
theorem EntAt.cells {w : World} {eb : Nat} {x : Int} {key : ByteArray} (h : EntAt w eb x key) : w.cell? ⟨eb, 0, none⟩ = some (.int .i64 3) ∧ w.cell? ⟨eb, 1, none⟩ = some (.int .i64 x) ∧ w.cell? ⟨eb, 2, none⟩ = some (.string ⟨#[]⟩) ∧ w.cell? ⟨eb, 3, none⟩ = some (.slice none 0 0) ∧ w.cell? ⟨eb, 4, none⟩ = some (.slice none 0 0) ∧ w.cell? ⟨eb, 5, none⟩ = some (.string key) := by
  unfold EntAt at h
  refine ⟨?_, ?_, ?_, ?_, ?_, ?_⟩
  all_goals simp [World.cell?, h]
theorem EntAt.grow {w w' : World} {row : Option Nat} {eb : Nat} {x : Int} {key : ByteArray} (h : EntAt w eb x key) (hg : w.grownBy w' row) (hr : ∀ r, row = some r → eb ≠ r) : EntAt w' eb x key := (hg.block _ (Array.getElem?_eq_some_iff.1 h).1 (fun e => hr _ e.symm rfl)).trans h
def itemV (key : ByteArray) (bn cn bi ci : Nat) : Value := .agg #[.string key, .int .i64 0, .int .i64 6, .int .i64 0, .string ⟨#[]⟩, .slice (some ⟨bn, 0, none⟩) 1 cn, .slice (some ⟨bi, 0, none⟩) 1 ci]
def itemC (key : ByteArray) (bn cn bi ci : Nat) : Obj := .cells #[.string key, .int .i64 0, .int .i64 6, .int .i64 0, .string ⟨#[]⟩, .slice (some ⟨bn, 0, none⟩) 1 cn, .slice (some ⟨bi, 0, none⟩) 1 ci] 60
theorem AE : (Tryz.prog.info? 104).map (fun i => (i.zero, i.size, i.bytes)) = some (some (.pointer none), 1, 8) := by kernel_rfl
theorem item_cells {w : World} {B : Nat} {c0 c1 c2 c3 c4 c5 c6 : Value} {t : TypeId} (h : w.heap[B]? = some (.cells #[c0, c1, c2, c3, c4, c5, c6] t (0, 0))) : w.cell? ⟨B, 0, none⟩ = some c0 ∧ w.cell? ⟨B, 1, none⟩ = some c1 ∧ w.cell? ⟨B, 2, none⟩ = some c2 ∧ w.cell? ⟨B, 3, none⟩ = some c3 ∧ w.cell? ⟨B, 4, none⟩ = some c4 ∧ w.cell? ⟨B, 5, none⟩ = some c5 ∧ w.cell? ⟨B, 6, none⟩ = some c6 := by
  refine ⟨?_, ?_, ?_, ?_, ?_, ?_, ?_⟩
  all_goals simp [World.cell?, h]
set_option maxHeartbeats 2000000 in
set_option maxRecDepth 100000 in
theorem entries1 (key : ByteArray) (x : Int) (bn cn bi ci bp cp : Nat) (w : World) (h : w.cell? ⟨bn, 0, none⟩ = some (.string nameA)) (hI : NumAt w bi 0 x) (hp : w.cell? ⟨bp, 0, none⟩ = some (.string nameA)) :
    Calls Tryz.prog 43 #[itemV key bn cn bi ci, .slice (some ⟨bp, 0, none⟩) 1 cp] w fun e w' => Below w.heap.size w w' ∧ ∃ g cap eb, e = .returned (.slice (some ⟨g, 0, none⟩) 1 cap) ∧ w'.ownsRow w.heap.size 104 1 (.slice (some ⟨g, 0, none⟩) 1 cap) 1 [.pointer (some ⟨eb, 0, none⟩)] ∧ EntAt w' eb x key := by
  have HB : Below w.heap.size w (w.alloc (itemC key bn cn bi ci)) := (Below.refl _ w).alloc (Nat.le_refl _) _
  have n0 := heap_alloc_new w (itemC key bn cn bi ci)
  have hte := hid_of (tested1 x bn cn bi ci bp cp _ (stay HB h) (hI.keep HB) (stay HB hp))
  obtain ⟨i5, hi5, hz0, hz1, hz2⟩ := info_parts AE
  clear h hI hp
  unfold objV at hte
  unfold itemV
  unfold itemC at *
  go_enter Tryz.func43, Tryz.ntmps43
  go_wp2_with fail
  generalize w.alloc (.cells #[.string key, .int .i64 0, .int .i64 6, .int .i64 0, .string ⟨#[]⟩, .slice (some ⟨bn, 0, none⟩) 1 cn, .slice (some ⟨bi, 0, none⟩) 1 ci] 60) = X0 at HB n0 hte
  refine hte.out.mono ?_
  rintro e X1 ⟨hb1, g1, cap1, rfl, hN⟩
  clear hte
  have n1 := block_keep n0 hb1
  replace HB := HB.trans (hb1.mono HB.size)
  have hd := hid_of (different1 x g1 cap1 X1 hN)
  clear hb1 hN n0
  go_wp2_with fail
  refine hd.out.mono ?_
  rintro e X2 ⟨rfl, hX2⟩
  clear hd
  have hq : Below X1.heap.size X1 X2 := by rw [hX2]; exact (Below.refl _ X1).alloc (Nat.le_refl _) _
  have hN2 : NumAt X2 X1.heap.size 0 x := by rw [hX2]; exact numAt_new X1 x
  have n2 := block_keep n1 hq
  replace HB := HB.trans (hq.mono HB.size)
  clear hX2 hq n1
  obtain ⟨t0, t1, t2, t3, t4⟩ := hN2
  simp only [Nat.zero_add] at t1 t2 t3 t4
  have k0 := (item_cells n2).1
  have k0' := fun o => cell_alloc' k0 o
  have HB3 : Below w.heap.size w ((X2.alloc (numC x)).alloc (.cells #[.int .i64 3, .int .i64 x, .string ⟨#[]⟩, .slice none 0 0, .slice none 0 0, .string key] 114)) := (HB.alloc HB.size _).alloc (by simp; have := HB.size; omega) _
  have he3 : EntAt ((X2.alloc (numC x)).alloc (.cells #[.int .i64 3, .int .i64 x, .string ⟨#[]⟩, .slice none 0 0, .slice none 0 0, .string key] 114)) (X2.heap.size + 1) x key := heap_new' (by simp)
  replace HB3 := hid_of HB3
  replace he3 := hid_of he3
  unfold numC at HB3 he3
  go_wp2_with fail
  refine wp_loop_rounds 2 ?_
  rw [rounds_succ]
  go_wp2_with (at_builtin; refine wpList_append_lies _ rfl _ _ 68 rfl w.heap.size 104 i5 _ 1 8 Tryz.underlying68 hi5 hz0 hz1 hz2 rfl (by decide) _ 0 ([] : List Value) rfl (World.ownsRow_nil _ _ _ _) _ 1 1 [.pointer (some ⟨X2.heap.size + 1, 0, none⟩)] rfl rfl (World.news_of_block (heap_new' (by simp))) (by simp [Value.oneCell']) (by decide) (by unfold maxLen; omega) (by omega) (by simp; have := HB.size; omega) _ rfl ?_; intro g2 cap2 X3 hown2 hgrow2 hat2 hlt2; have he4 := hid_of ((he3.out.keep ((Below.refl _ _).alloc (Nat.le_refl _) _)).grow hgrow2 (by intro r h; cases h)); have HB4 := hid_of ((HB3.out.alloc HB3.out.size _).trans (grown_below hgrow2 (by simp; have := HB.size; omega) (fun g hg => by cases hg))); clear hgrow2)
  rw [rounds_succ]
  go_wp2_with fail
  go_ret
  exact ⟨HB4.out, g2, cap2, _, rfl, hown2, he4.out⟩
set_option maxHeartbeats 1000000 in
set_option maxRecDepth 100000 in
theorem search0 (key : ByteArray) (f : Value) (w : World) : Calls Tryz.prog 105 #[.slice none 0 0, .string key, f] w fun e w' => e = .returned (.tuple #[.int .i64 0, .bool false]) ∧ w' = w := by
  go_enter Tryz.func105, Tryz.ntmps105
  go_wp2_with fail
  refine wp_loop_rounds 1 ?_
  rw [rounds_succ]
  go_wp2_with fail
  go_ret2
  exact ⟨rfl, rfl⟩
set_option maxHeartbeats 1000000 in
set_option maxRecDepth 100000 in
theorem having0 (key : ByteArray) (xb : Nat) (nm pt : ByteArray) (un : Bool) (pv ev : Value) (w : World) (h : IxAt w xb nm pt un pv ev (.slice none 0 0)) : Calls Tryz.prog 71 #[.pointer (some ⟨xb, 0, none⟩), .string key] w fun e w' => e = .returned (.slice none 0 0) ∧ w' = w := by
  obtain ⟨c0, c1, c2, c3, c4, c5⟩ := h.cells
  clear h
  go_enter Tryz.func71, Tryz.ntmps71
  go_wp2_with fail
  refine (search0 key _ _).mono ?_
  rintro e X1 ⟨rfl, hX⟩
  have hX := hX.symm; subst hX
  go_wp2_with fail
  refine wp_loop_rounds 1 ?_
  rw [rounds_succ]
  go_wp2_with fail
  go_ret
  exact ⟨rfl, rfl⟩
end Go.Proofs.YtnlljodmkacmlaaGreatDoor
/-! A change under way: what goes, what comes. -/
namespace Go.Proofs.YtnlljodmkacmlaaGreatDoor
open Go Go.RowKit

abbrev kl (s : ByteArray) : Lit := .string s.data.toList
theorem key_of (s : ByteArray) (hs : s.size ≤ maxLen) : keyOf Tryz.prog 9 (.string s) = some (kl s) := Go.WideMaps.keyOf_string_mk Tryz.underlying9 hs
/-- The map of turns. -/
def TurnsAt (w : World) (mt : Nat) (n : Nat) (D : DataW Unit) : Prop := w.ownsMap Tryz.prog 9 (plainElem Tryz.prog 3) mt n D
theorem TurnsAt.keep {w w' : World} {mt n : Nat} {D : DataW Unit} (h : TurnsAt w mt n D) (hb : Below w.heap.size w w') : TurnsAt w' mt n D := by
  have hl := World.ownsMap.lt h
  obtain ⟨es, cl, hm, r⟩ := h
  exact ⟨es, cl, (hb.block _ hl).trans hm, r⟩
/-- A change: nothing has gone. -/
def ChAt (w : World) (cb xb : Nat) (cv : Value) (mt mc : Nat) : Prop := w.heap[cb]? = some (.cells #[.pointer (some ⟨xb, 0, none⟩), .slice none 0 0, cv, .map (some mt), .map (some mc)] 99 (0, 0))
theorem ChAt.keep {w w' : World} {cb xb : Nat} {cv : Value} {mt mc : Nat} (h : ChAt w cb xb cv mt mc) (hb : Below w.heap.size w w') : ChAt w' cb xb cv mt mc := block_keep h hb
theorem ChAt.cells {w : World} {cb xb : Nat} {cv : Value} {mt mc : Nat} (h : ChAt w cb xb cv mt mc) : w.cell? ⟨cb, 0, none⟩ = some (.pointer (some ⟨xb, 0, none⟩)) ∧ w.cell? ⟨cb, 1, none⟩ = some (.slice none 0 0) ∧ w.cell? ⟨cb, 2, none⟩ = some cv ∧ w.cell? ⟨cb, 3, none⟩ = some (.map (some mt)) ∧ w.cell? ⟨cb, 4, none⟩ = some (.map (some mc)) ∧ ∀ j, w.frozen? ⟨cb, j, none⟩ = false := by
  unfold ChAt at h
  refine ⟨?_, ?_, ?_, ?_, ?_, fun j => ?_⟩
  all_goals simp [World.cell?, World.frozen?, h]
theorem ap_nil (w : World) : (Builtin.append_ #[68, 68] 68 #[.slice none 0 0, .slice none 0 0]).run Tryz.prog w = .ok (.slice none 0 0) w := by kernel_rfl
theorem below_same {w : World} {cb xb : Nat} {cv : Value} {mt mc : Nat} (h : ChAt w cb xb cv mt mc) : Below w.heap.size w (w.setCell ⟨cb, 1, none⟩ (.slice none 0 0)) := by
  refine ⟨by simp [World.setCell], by simp [World.setCell], by simp [World.setCell], by simp [World.setCell], fun k hk => ?_⟩
  by_cases e : k = cb
  · subst e
    unfold ChAt at h
    simp [World.setCell, Array.getElem?_modify, h]
  · exact Below.heap_setCell _ _ _ _ e
set_option maxHeartbeats 2000000 in
set_option maxRecDepth 100000 in
theorem takeOut_not (key : ByteArray) (hk : key.size ≤ maxLen) (cb xb : Nat) (cv : Value) (mt mc n : Nat) (D : DataW Unit) (nm pt : ByteArray) (un : Bool) (pv ev : Value) (w : World) (hC : ChAt w cb xb cv mt mc) (hX : IxAt w xb nm pt un pv ev (.slice none 0 0)) (hM : TurnsAt w mt n D) (hD : Maps.has D (kl key) = false) :
    Calls Tryz.prog 42 #[.pointer (some ⟨cb, 0, none⟩), .string key] w fun e w' => e = .returned (.tuple #[]) ∧ Below w.heap.size w w' := by
  obtain ⟨c0, c1, c2, c3, c4, cf⟩ := hC.cells
  obtain ⟨v, ps, hrun, -⟩ := World.ownsMap.look_ok hM (Maps.string_keyed Tryz.underlying9) Tryz.underlying96 (Tryz.zeroValue3 w) (zd := .lit (.int .i64 0)) (zp := []) (plainElem_int Tryz.underlying3 (by decide)) (key_of key hk)
  rw [hD] at hrun
  have hh := hid_of (having0 key xb nm pt un pv ev w.drew hX)
  have hfin := hid_of (below_drewN (below_same hC) 1)
  have hap := ap_nil
  have cf1 := cf 1
  clear hC hX hM hD cf
  go_enter Tryz.func42, Tryz.ntmps42
  go_wp2_with fail
  go_region_with (go_at_call 71; refine hh.out.mono ?_; rintro e w' ⟨rfl, rfl⟩)
  all_goals
    clear hap hrun hh
    go_wp2_with fail
    ((try simp only [Exit.inBlock, Exit.then]); refine bodyPost_ret (results_none rfl _ _ _) rfl ?_)
    exact ⟨rfl, hfin.out⟩
set_option maxHeartbeats 1000000 in
set_option maxRecDepth 100000 in
theorem begin0 (xb : Nat) (w : World) : Calls Tryz.prog 22 #[.pointer (some ⟨xb, 0, none⟩), .slice none 0 0] w fun e w' => Below w.heap.size w w' ∧ e = .returned (.pointer (some ⟨w.heap.size + 2, 0, none⟩)) ∧ ChAt w' (w.heap.size + 2) xb (.slice none 0 0) w.heap.size (w.heap.size + 1) ∧ TurnsAt w' w.heap.size 0 (.map []) := by
  have hmm := @run_makeMap Tryz.prog
  go_enter Tryz.func22, Tryz.ntmps22
  go_wp2_with fail
  refine wp_loop_rounds 1 ?_
  rw [rounds_succ]
  go_wp2_with fail
  go_ret
  refine ⟨(((Below.refl _ w).alloc (Nat.le_refl _) _).alloc (by simp) _).alloc (by simp; omega) _, by simp, ?_, ?_⟩
  · exact heap_new' (by simp)
  · exact ((World.ownsMap_made w _ _ _).alloc _).alloc _
end Go.Proofs.YtnlljodmkacmlaaGreatDoor
