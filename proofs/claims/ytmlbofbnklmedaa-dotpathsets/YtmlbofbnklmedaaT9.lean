import Derived.Test.YtmlbofbnklmedaaT8
import Derived.Test.YtmlbofbnklmedaaP4
/-! The document's Unset: where nothing is taken out. -/
namespace Go.Proofs.Ytmlbofbnklmedaa
open Go Go.RowKit

/-- What Unset answers: whether, and a value that lies in what was handed in and in what is new. -/
def RU (w0 w : World) (ub : Bool) (R : Tr) (e : Ending) (w' : World) : Prop := ∃ k x s an ln cn ai li ci, e = .returned (.tuple #[.agg #[.int .i64 k, .int .i64 x, .string s, .slice an ln cn, .slice ai li ci], .bool ub]) ∧ Seen w' (fun j => j < w0.heap.size ∨ w.heap.size ≤ j) R (five k x s (.slice an ln cn) (.slice ai li ci)) ∧ Below w.heap.size w w'
theorem An.put {w W : World} {b : Array Value} (h : An w b W) {g : Nat} (hg : w.heap.size + 2 ≤ g) (a0 a1 a2 a3 a4 : Value) : An w b (put5 W g a0 a1 a2 a3 a4) :=
  ⟨h.below.trans (put5_below (by omega) _ _ _ _ _), (put5_far _ _ _ _ _ (by omega)).trans h.one, (put5_far _ _ _ _ _ (by omega)).trans h.two⟩
theorem seen_all {w0 w W : World} {t : Tr} {cs : List Value} (hB : Below w0.heap.size w0 W) (hV : VRep w0 t cs) : Seen W (fun j => j < w0.heap.size ∨ w.heap.size + 2 ≤ j) t cs :=
  fun W' ha => seen_rep hV W' ⟨Nat.le_trans hB.size ha.1, fun p u hp hc => ha.2 p u (.inl hp) ((hB.cell (cell_lt hc)).trans hc)⟩
/-- Behind the call of itself. -/
structure UHit (w0 w X1 : World) (b1 : Array Value) (g7 : Nat) (b7 : Array Value) (nv : Value) (KN : List ByteArray) (gi m ci : Nat) (xs : List Value) (R : Tr) (g8 : Nat) (y : Array Value) (W : World) : Prop where
  an : An w b1 W
  below : Below X1.heap.size X1 W
  box7 : W.heap[g7]? = some (.cells b7 25 (0, 0))
  rn : W.ownsRow X1.heap.size 9 1 nv KN.length (strs KN)
  ri : W.ownsRow X1.heap.size 25 5 (.slice (some ⟨gi, 0, none⟩) m ci) m xs
  box8 : W.heap[g8]? = some (.cells y 25 (0, 0))
  gt : g7 < g8
  seen : Seen W (fun j => j < w0.heap.size ∨ (g7 < j ∧ j ≠ g8)) R y.toList
theorem uh_put {w0 w X1 W : World} {b1 b7 : Array Value} {g7 gi m ci g8 : Nat} {nv : Value} {KN : List ByteArray} {xs : List Value} {R : Tr} {c0 c1 c2 c3 c4 : Value} (hA : An w b1 W) (hB : Below X1.heap.size X1 W) (h7 : W.heap[g7]? = some (.cells b7 25 (0, 0))) (hn : W.ownsRow X1.heap.size 9 1 nv KN.length (strs KN)) (hi : W.ownsRow X1.heap.size 25 5 (.slice (some ⟨gi, 0, none⟩) m ci) m xs) (h8 : W.heap[g8]? = some (.cells #[.int .i64 0, .int .i64 0, .string ⟨#[]⟩, .slice none 0 0, .slice none 0 0] 25 (0, 0)))
    (hg : g7 < g8) (hgi : gi < g7) (hx : X1.heap.size ≤ gi) (hw : w.heap.size + 2 ≤ g7) (h0 : w0.heap.size ≤ w.heap.size) (hs : Seen W (fun j => j < w0.heap.size ∨ (g7 < j ∧ j ≠ g8)) R [c0, c1, c2, c3, c4]) :
    UHit w0 w X1 b1 g7 b7 nv KN gi m ci xs R g8 #[c0, c1, c2, c3, c4] (put5 W g8 c0 c1 c2 c3 c4) :=
  ⟨hA.put (by omega) _ _ _ _ _, hB.trans (put5_below (by omega) _ _ _ _ _), (put5_far _ _ _ _ _ (by omega)).trans h7, ownsRow_keep hn (fun j hj => put5_far _ _ _ _ _ (row_box hn h8 j hj)), ownsRow_keep hi (fun j hj => put5_far _ _ _ _ _ (by cases hj; show gi ≠ g8; omega)), put5_at h8 _ _ _ _ _, hg,
    fun W' ha => hs W' ⟨by have := ha.1; rw [put5_size] at this; exact this, fun p u hp hc => ha.2 p u hp ((World.cell?_of_block (w := W) (put5_far _ _ _ _ _ (hp.elim (fun h => by omega) (fun h => h.2)))).trans hc)⟩⟩
theorem useen_new {w0 Y : World} {R : Tr} {cs : List Value} {lo g7 : Nat} (hlo : g7 < lo) (hs : Seen Y (fun j => j < w0.heap.size ∨ lo ≤ j) R cs) (o : Obj) : Seen (Y.alloc o) (fun j => j < w0.heap.size ∨ (g7 < j ∧ j ≠ Y.heap.size)) R cs :=
  fun W' ha => hs W' ⟨by have := ha.1; rw [World.size_alloc] at this; omega, fun p u hp hc => ha.2 p u (hp.elim .inl (fun h => .inr ⟨by omega, by have := cell_lt hc; omega⟩)) (cell_alloc' hc _)⟩
theorem useen_behind {w0 Y : World} {R : Tr} {cs : List Value} {g lo g7 : Nat} (h7 : g7 < lo) (hlo : g < lo) (hs : Seen Y (fun j => j < w0.heap.size ∨ lo ≤ j) R cs) : Seen Y (fun j => j < w0.heap.size ∨ (g7 < j ∧ j ≠ g)) R cs :=
  fun W' ha => hs W' ⟨ha.1, fun p u hp hc => ha.2 p u (hp.elim .inl (fun h => .inr ⟨by omega, by omega⟩)) hc⟩
theorem useen_low {w0 w W : World} {R : Tr} {cs : List Value} {n : Nat} (hn : w.heap.size + 2 ≤ n) (h : Seen W (fun k => k < w0.heap.size ∨ n ≤ k) R cs) : Seen W (fun j => j < w0.heap.size ∨ w.heap.size + 2 ≤ j) R cs :=
  fun W' ha => h W' ⟨ha.1, fun p u hp hc => ha.2 p u (hp.elim .inl (fun h => .inr (by omega))) hc⟩
theorem useen_less {w0 w W : World} {R : Tr} {cs : List Value} {g g7 n : Nat} (h7 : w.heap.size + 2 ≤ g7) (hn : w.heap.size + 2 ≤ n) (h : Seen W (fun k => (k < w0.heap.size ∨ (g7 < k ∧ k ≠ g)) ∨ n ≤ k) R cs) : Seen W (fun j => j < w0.heap.size ∨ w.heap.size + 2 ≤ j) R cs :=
  fun W' ha => h W' ⟨ha.1, fun p u hp hc => ha.2 p u (hp.elim (fun h => h.elim .inl (fun h => .inr (by omega))) (fun h => .inr (by omega))) hc⟩
set_option maxHeartbeats 16000000 in
set_option maxRecDepth 100000 in
theorem runset_miss (k : Int) (x : Int) (tx : ByteArray) (an : Option Addr) (cn : Nat) (ns : List ByteArray) (ai : Option Addr) (ci : Nat) (its : List Tr) (b o c : Nat) (s : ByteArray) (r : List ByteArray) (w0 w : World) (h0 : Below w0.heap.size w0 w) (hs : s.size ≤ 9223372036854775806) (hp : w0.cell? ⟨b, o, none⟩ = some (.string s)) (hV : Hid (VRep w0 (.node k x tx ns its) (five k x tx (.slice an ns.length cn) (.slice ai its.length ci)))) (hN : Hid (Reads w0 (.slice an ns.length cn) ns)) (hil : its.length ≤ 9223372036854775807) (hpl : Hid (rplace k ns its.length s = -1)) :
    Calls Try.prog 21 #[.agg #[.int .i64 k, .int .i64 x, .string tx, .slice an ns.length cn, .slice ai its.length ci], .slice (some ⟨b, o, none⟩) (r.length + 1) c] w (RU w0 w false (.node k x tx ns its)) := by
  have hT := an_new w #[.int .i64 k, .int .i64 x, .string tx, .slice an ns.length cn, .slice ai its.length ci]
  have hne : ((((r.length + 1 : Nat) : Int)) == 0) = false := by simp <;> omega
  have hne2 : (((r.length : Int) + 1) == 0) = false := by simp <;> omega
  have i0 : (0 : Int) < ((r.length + 1 : Nat) : Int) := by omega
  have i00 : (0 : Int) < (r.length : Int) + 1 := by omega
  go_enter Try.func21, Try.ntmps21
  go_upto_region 1 with fail
  generalize (w.alloc (.cells #[.int .i64 k, .int .i64 x, .string tx, .slice an ns.length cn, .slice ai its.length ci] 25)).alloc (.cells #[.int .i64 0, .int .i64 0, .string ⟨#[]⟩, .slice none 0 0, .slice none 0 0] 25) = X0 at hT ⊢
  have c0 : X0.cell? ⟨b, o, none⟩ = some (.string s) := ((h0.trans (hT.below.mono h0.size)).cell (cell_lt hp)).trans hp
  go_upto_region 3 with fail
  replace hT := hT.drew
  replace c0 : X0.drew.cell? ⟨b, o, none⟩ = some (.string s) := c0
  generalize hX : X0.drew = X9 at hT c0
  refine wp_region_noPanic ?_
  refine Until.wp_region_U (fun w' => An w #[.int .i64 k, .int .i64 x, .string tx, .slice an ns.length cn, .slice ai its.length ci] w' ∧ w'.cell? ⟨b, o, none⟩ = some (.string s)) (fun _ => True) 100 (by kernel_rfl) ?_
  rw [hX]
  clear hX
  refine Until.wpU_load0 (i := 0) (oi := { dst := some 14, op := Op.load 25 (Operand.tmp 2), type := 25, pos := "ref.go:192", after := #[], guard := none }) (v := .agg #[.int .i64 k, .int .i64 x, .string tx, .slice an ns.length cn, .slice ai its.length ci]) rfl (by kernel_rfl) (by kernel_rfl) (by kernel_rfl) (by kernel_rfl) (by kernel_rfl) (fun _ _ _ h => h) ⟨hT, c0⟩ (fun _ => trivial) (by rfl) (by intro w' hw'; obtain ⟨t0, t1, t2, t3, t4, -⟩ := row_cells hw'.1.one; clear hw'; go_simp) ?_
  try simp only [Act.put, List.setIfInBounds_toArray, List.set_cons_zero, List.set_cons_succ]
  refine Until.wpU_pure (i := 1) (oi := { dst := some 15, op := Op.move (Operand.tmp 1), type := 22, pos := "ref.go:192", after := #[], guard := none }) (v := .slice (some ⟨b, o, none⟩) (r.length + 1) c) rfl (by kernel_rfl) (by kernel_rfl) (by kernel_rfl) (by kernel_rfl) (by kernel_rfl) (fun _ _ _ h => h) ⟨hT, c0⟩ (fun _ => trivial) (by rfl) (by intro w'; go_simp) ?_
  try simp only [Act.put, List.setIfInBounds_toArray, List.set_cons_zero, List.set_cons_succ]
  refine Until.wpU_pure (i := 2) (oi := { dst := some 16, op := Op.indexAddr 22 (Operand.tmp 15) (Operand.const (Value.int IntKind.i64 0)), type := 0, pos := "ref.go:192", after := #[{ on := 1, ground := Ground.data }], guard := none }) (v := .pointer (some ⟨b, o, none⟩)) rfl (by kernel_rfl) (by kernel_rfl) (by kernel_rfl) (by kernel_rfl) (by kernel_rfl) (fun _ _ _ h => h) ⟨hT, c0⟩ (fun _ => trivial) (by rfl) (by intro w'; go_simp) ?_
  try simp only [Act.put, List.setIfInBounds_toArray, List.set_cons_zero, List.set_cons_succ]
  refine Until.wpU_load0 (i := 3) (oi := { dst := some 17, op := Op.load 9 (Operand.tmp 16), type := 9, pos := "ref.go:192", after := #[{ on := 2, ground := Ground.data }], guard := none }) (v := .string s) rfl (by kernel_rfl) (by kernel_rfl) (by kernel_rfl) (by kernel_rfl) (by kernel_rfl) (fun _ _ _ h => h) ⟨hT, c0⟩ (fun _ => trivial) (by rfl) (by intro w' hw'; have t0 := hw'.2; clear hw'; go_simp) ?_
  try simp only [Act.put, List.setIfInBounds_toArray, List.set_cons_zero, List.set_cons_succ]
  refine Until.wpU_ready (rs := [4]) (by kernel_rfl) (by simp) ?_
  refine (Until.AllU.cons (o := { dst := some 18, op := Op.call { callee := Callee.value (Operand.func 36), args := #[Operand.tmp 14, Operand.tmp 17], argTypes := #[25, 9] }, type := 3, pos := "ref.go:192", after := #[{ on := 0, ground := Ground.data }, { on := 3, ground := Ground.data }], guard := none }) rfl (fun K hK => ?_) Until.AllU.nil)
  go_simp
  refine (rplace_any k x tx an cn ns ai its.length ci s _ (hid_f (hN.out.keep (h0.trans (hT.below.mono h0.size)))) hil hs).mono ?_
  rintro e X1 ⟨rfl, hb⟩
  rw [hpl.out]
  replace hT := hT.keep hb
  replace c0 := (hb.cell (cell_lt c0)).trans c0
  clear hb
  refine hK.out _ _ ⟨hT, c0⟩ (fun _ => trivial) ?_
  clear hK K
  try simp only [Act.put, List.setIfInBounds_toArray, List.set_cons_zero, List.set_cons_succ]
  refine Until.wpU_ready (rs := [5]) (by kernel_rfl) (by simp) ?_
  refine (Until.AllU.cons (o := { dst := some 6, op := Op.assign (Operand.tmp 18), type := 3, pos := "ref.go:192", after := #[{ on := 4, ground := Ground.data }, { on := 4, ground := Ground.chain }, { on := 0, ground := Ground.phase }, { on := 1, ground := Ground.phase }, { on := 2, ground := Ground.phase }, { on := 3, ground := Ground.phase }, { on := 4, ground := Ground.phase }], guard := none }) rfl (fun K hK => ?_) Until.AllU.nil)
  go_simp
  refine hK.out _ _ ⟨hT, c0⟩ (fun _ => trivial) ?_
  clear hK K
  try simp only [Act.put, List.setIfInBounds_toArray, List.set_cons_zero, List.set_cons_succ]
  refine Until.wpU_done (by kernel_rfl) ?_ _
  refine NoPanic.normal ?_
  have hse := hid_e (seen_all (w := w) (h0.trans (hT.below.mono h0.size)) hV.out)
  obtain ⟨y0, y1, y2, y3, y4, -⟩ := row_cells hT.one
  obtain ⟨z0, z1, z2, z3, z4, zf⟩ := row_cells hT.two
  have zf0 := zf 0; have zf1 := zf 1; have zf2 := zf 2; have zf3 := zf 3; have zf4 := zf 4
  clear zf
  go_wp2_with fail
  obtain ⟨hfe, hbe⟩ := nest_end hT h0.size hse.out (.int .i64 k) (.int .i64 x) (.string tx) (.slice an ns.length cn) (.slice ai its.length ci)
  have hr5 := put5_cells hT.two (.int .i64 k) (.int .i64 x) (.string tx) (.slice an ns.length cn) (.slice ai its.length ci)
  have r0 := hr5 0; have r1 := hr5 1; have r2 := hr5 2; have r3 := hr5 3; have r4 := hr5 4
  clear hr5
  refine bodyPost_ret (v := .tuple #[.agg #[.int .i64 k, .int .i64 x, .string tx, .slice an ns.length cn, .slice ai its.length ci], .bool false]) (by simp [results, Try.results21, go_sem, r0, r1, r2, r3, r4]) rfl ?_
  exact ⟨_, _, _, _, _, _, _, _, _, rfl, hfe, hbe⟩
end Go.Proofs.Ytmlbofbnklmedaa
