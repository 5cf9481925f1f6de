import Derived.Test.YtdghkmgkmfnjjaaGreatDoorJB
import Derived.Deep.WholeRow
/-! The entries of an item with a number at t. -/
namespace Go.Proofs.YtdghkmgkmfnjjaaGreatDoor
open Go Go.RowKit

theorem copy_n {P : Program} (w : World) (T ty elem : TypeId) (i : TypeInfo) (g n dCap : Nat) (a : Addr) (sCap : Nat) (cur : Array Value) (t : TypeId) (cs : List Value) (hu : P.underlying T = some (.slice elem)) (hi : P.info? elem = some i)
    (hg : w.heap[g]? = some (.cells cur t (0, 0))) (hn : cs.length = n * i.size) (hsrc : ∀ j v, cs[j]? = some v → w.cell? (a.add j) = some v) (hfit : cs.length ≤ cur.size) (h1 : ∀ v ∈ cs, v.oneCell' = true) :
    (Builtin.copy_ #[T, T] ty #[.slice (some ⟨g, 0, none⟩) n dCap, .slice (some a) n sCap]).run P w = .ok (goInt n) (w.setRow g (cs ++ cur.toList.drop cs.length).toArray) := by
  have hl := run_loadCells_list (P := P) w a cs hsrc
  have hst := run_storeCells_at P g 0 t cs 0 cur w hg (by simpa using hfit) h1
  simp at hst
  simp [Builtin.copy_, run_underlying hu, Builtin.lenOf, Builtin.firstCells, sizeOf, typeInfo, hi, ← hn, hl, hst]
theorem make_v1 (w : World) : (Instr.makeSlice 23 (.int .i64 1) (.int .i64 1)).run Tryz.prog w = .ok (.slice (some ⟨w.heap.size, 0, none⟩) 1 1) (w.alloc (.cells #[.int .i64 0, .int .i64 0, .string ⟨#[]⟩, .slice none 0 0, .slice none 0 0] 25)) := by
  kernel_rfl
theorem copy_v1 (x : Int) (g c : Nat) (w : World) (h : NumAt w g 0 x) : (Builtin.copy_ #[23, 23] 3 #[.slice (some ⟨w.heap.size, 0, none⟩) 1 1, .slice (some ⟨g, 0, none⟩) 1 c]).run Tryz.prog (w.alloc (.cells #[.int .i64 0, .int .i64 0, .string ⟨#[]⟩, .slice none 0 0, .slice none 0 0] 25)) = .ok (goInt 1) (w.alloc (numC x)) := by
  obtain ⟨i0, hi, hz0, hz1, hz2⟩ := info_parts AV
  have hz := fun o => h.keep ((Below.refl _ w).alloc (Nat.le_refl _) o)
  have := copy_n (P := Tryz.prog) (w.alloc (.cells #[.int .i64 0, .int .i64 0, .string ⟨#[]⟩, .slice none 0 0, .slice none 0 0] 25)) 23 3 25 i0 w.heap.size 1 1 ⟨g, 0, none⟩ c #[.int .i64 0, .int .i64 0, .string ⟨#[]⟩, .slice none 0 0, .slice none 0 0] 25 [.int .i64 3, .int .i64 x, .string ⟨#[]⟩, .slice none 0 0, .slice none 0 0] Tryz.underlying23 hi (heap_alloc_new w _) (by rw [hz1]; rfl) (fun j v hj => by
    rw [add_off]
    obtain ⟨t0, t1, t2, t3, t4⟩ := hz (.cells #[.int .i64 0, .int .i64 0, .string ⟨#[]⟩, .slice none 0 0, .slice none 0 0] 25)
    rcases j with _ | _ | _ | _ | _ | j
    all_goals simp at hj
    all_goals subst hj
    · exact t0
    · exact t1
    · exact t2
    · exact t3
    · exact t4) (by simp) (by simp [Value.oneCell'])
  rw [this, World.setRow_alloc_new]
  rfl
set_option maxHeartbeats 1000000 in
set_option maxRecDepth 100000 in
theorem insert1 (g : Nat) (f : Value) (w : World) : Calls Tryz.prog 190 #[.slice (some ⟨g, 0, none⟩) 1 1, .int .i64 0, .int .i64 1, f] w fun e w' => e = .returned (.tuple #[]) ∧ w' = w := by
  go_enter Tryz.func190, Tryz.ntmps190
  go_wp2_with fail
  refine wp_loop_rounds 1 ?_
  rw [rounds_succ]
  go_wp2_with fail
  go_end0
  exact ⟨rfl, rfl⟩
set_option maxHeartbeats 1000000 in
set_option maxRecDepth 100000 in
theorem stable1 (g : Nat) (f : Value) (w : World) : Calls Tryz.prog 182 #[.slice (some ⟨g, 0, none⟩) 1 1, .int .i64 1, f] w fun e w' => e = .returned (.tuple #[]) ∧ w' = w := by
  have hi := hid_of (insert1 g f w)
  go_enter Tryz.func182, Tryz.ntmps182
  go_wp2_with fail
  refine wp_loop_rounds 1 ?_
  rw [rounds_succ]
  go_wp2_with fail
  refine hi.out.mono ?_
  rintro e X1 ⟨rfl, hX⟩
  have hX := hX.symm; subst hX
  clear hi
  go_wp2_with fail
  refine wp_loop_rounds 1 ?_
  rw [rounds_succ]
  go_wp2_with fail
  go_end0
  exact ⟨rfl, rfl⟩
theorem sorted1 (g : Nat) (f : Value) (w : World) : Calls Tryz.prog 170 #[.slice (some ⟨g, 0, none⟩) 1 1, f] w fun e w' => e = .returned (.tuple #[]) ∧ w' = w := by
  have hi := hid_of (stable1 g f w)
  go_enter Tryz.func170, Tryz.ntmps170
  go_wp2_with fail
  refine hi.out.mono ?_
  rintro e X1 ⟨rfl, hX⟩
  have hX := hX.symm; subst hX
  clear hi
  go_wp2_with fail
  go_end0
  exact ⟨rfl, rfl⟩
set_option maxHeartbeats 1000000 in
set_option maxRecDepth 100000 in
theorem osort1 (x : Int) (g c : Nat) (w : World) (h : NumAt w g 0 x) : Calls Tryz.prog 146 #[.slice (some ⟨g, 0, none⟩) 1 c] w fun e w' => e = .returned (.slice (some ⟨w.heap.size, 0, none⟩) 1 1) ∧ w' = w.alloc (numC x) := by
  have hmk := make_v1 w
  have hcp := copy_v1 x g c w h
  have hs := hid_of (sorted1 w.heap.size (.func (.func 64) #[] #[]) (w.alloc (numC x)))
  clear h
  go_enter Tryz.func146, Tryz.ntmps146
  go_wp2_with fail
  refine hs.out.mono ?_
  rintro e X1 ⟨rfl, rfl⟩
  clear hs hmk hcp
  go_wp2_with fail
  go_ret
  exact ⟨rfl, rfl⟩
theorem compact1 (g c : Nat) (f : Value) (w : World) : Calls Tryz.prog 145 #[.slice (some ⟨g, 0, none⟩) 1 c, f] w fun e w' => e = .returned (.slice (some ⟨g, 0, none⟩) 1 c) ∧ w' = w := by
  go_enter Tryz.func145, Tryz.ntmps145
  go_wp2_with fail
  go_ret
  exact ⟨rfl, rfl⟩
theorem numAt_new (w : World) (x : Int) : NumAt (w.alloc (numC x)) w.heap.size 0 x := by
  obtain ⟨h0, h1, h2, h3, h4⟩ := five_at (heap_alloc_new w (numC x))
  exact ⟨h0, h1, h2, h3, h4⟩
theorem different1 (x : Int) (g c : Nat) (w : World) (h : NumAt w g 0 x) : Calls Tryz.prog 102 #[.slice (some ⟨g, 0, none⟩) 1 c] w fun e w' => e = .returned (.slice (some ⟨w.heap.size, 0, none⟩) 1 1) ∧ w' = w.alloc (numC x) := by
  have hs := hid_of (osort1 x g c w h)
  clear h
  go_enter Tryz.func102, Tryz.ntmps102
  go_wp2_with fail
  refine hs.out.mono ?_
  rintro e X1 ⟨rfl, rfl⟩
  clear hs
  go_wp2_with fail
  refine (compact1 _ _ _ _).mono ?_
  rintro e X2 ⟨rfl, hX2⟩
  replace hX2 := hid_of hX2
  go_wp2_with fail
  go_ret
  exact ⟨rfl, hX2.out⟩
theorem grown_cell {A B : World} {row : Option Nat} (h : A.grownBy B row) {p : Addr} {v : Value} (hc : A.cell? p = some v) (hr : ∀ r, row = some r → p.block ≠ r) : B.cell? p = some v := (World.cell?_of_block (h.block _ (lt_of_cell hc) (fun e => hr _ e.symm rfl))).trans hc
set_option maxHeartbeats 2000000 in
set_option maxRecDepth 100000 in
theorem tested1 (x : Int) (bn cn bi ci bp cp : Nat) (w : World) (h : w.cell? ⟨bn, 0, none⟩ = some (.string nameA)) (hI : NumAt w bi 0 x) (hp : w.cell? ⟨bp, 0, none⟩ = some (.string nameA)) :
    Calls Tryz.prog 162 #[objV bn cn bi ci, .slice (some ⟨bp, 0, none⟩) 1 cp] w fun e w' => Below w.heap.size w w' ∧ ∃ g cap, e = .returned (.slice (some ⟨g, 0, none⟩) 1 cap) ∧ NumAt w' g 0 x := by
  have HB : Below w.heap.size w (w.alloc (objC bn cn bi ci)) := (Below.refl _ w).alloc (Nat.le_refl _) _
  have hg := hid_of (all_a x bn cn bi ci bp cp _ (stay HB h) (hI.keep HB) (stay HB hp))
  obtain ⟨i5, hi5, hz0, hz1, hz2⟩ := info_parts AV
  clear h hI hp
  unfold objV objC at *
  go_enter Tryz.func162, Tryz.ntmps162
  go_wp2_with fail
  refine hg.out.mono ?_
  rintro e X1 ⟨hb1, g, cap, rfl, hN⟩
  clear hg
  replace HB := HB.trans (hb1.mono HB.size)
  clear hb1
  obtain ⟨t0, t1, t2, t3, t4⟩ := hN
  simp only [Nat.zero_add] at t1 t2 t3 t4
  have HB' : Below w.heap.size w ((X1.alloc (numC x)).alloc (numC x)) := (HB.alloc HB.size _).alloc (by simp; have := HB.size; omega) _
  have d0 : (X1.alloc (numC x)).cell? ⟨X1.heap.size, 0, none⟩ = some (.int .i64 3) := (numAt_new X1 x).1
  have d1 := cell_alloc' d0 (numC x)
  unfold numC at HB' d0 d1
  go_wp2_with fail
  refine wp_loop_rounds 2 ?_
  rw [rounds_succ]
  go_wp2_with (at_builtin; refine wpList_append_lies _ rfl _ _ 23 rfl w.heap.size 25 i5 _ 5 80 Tryz.underlying23 hi5 hz0 hz1 hz2 rfl (by decide) _ 0 ([] : List Value) rfl (World.ownsRow_nil _ _ _ _) _ 1 1 [.int .i64 3, .int .i64 x, .string ⟨#[]⟩, .slice none 0 0, .slice none 0 0] rfl rfl (World.news_of_block (heap_new' (by simp))) (by simp [Value.oneCell']) (by decide) (by unfold maxLen; omega) (by omega) (by simp; have := HB.size; omega) _ rfl ?_; intro g2 cap2 X2 hown2 hgrow2 hat2 hlt2; have d2 := grown_cell hgrow2 d1 (by intro r h; cases h))
  rw [rounds_succ]
  go_wp2_with fail
  go_ret
  refine ⟨HB'.trans (grown_below hgrow2 HB'.size (fun g hg => by cases hg)), g2, cap2, rfl, ?_⟩
  exact ⟨hown2.cellAt 0 (by omega), hown2.cellAt 1 (by omega), hown2.cellAt 2 (by omega), hown2.cellAt 3 (by omega), hown2.cellAt 4 (by omega)⟩
end Go.Proofs.YtdghkmgkmfnjjaaGreatDoor
