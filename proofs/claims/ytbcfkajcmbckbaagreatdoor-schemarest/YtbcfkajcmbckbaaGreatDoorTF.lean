import Derived.Test.YtbcfkajcmbckbaaGreatDoorTA
import Derived.Stop.Asserts
/-! schema: one rule of numbers, in a list: kept, broken, told. -/
namespace Go.Proofs.YtbcfkajcmbckbaaGreatDoor
open Go Go.RowKit

theorem block_keep {w wx : World} {g : Nat} {o : Obj} (h : w.heap[g]? = some o) (hb : Below w.heap.size w wx) : wx.heap[g]? = some o := (hb.block _ (Array.getElem?_eq_some_iff.1 h).1).trans h
def numU (x : Int) : V5 := ⟨3, x, ⟨#[]⟩, none, 0, 0, none, 0, 0⟩
/-- The rule minimum 1, alone in a list. -/
structure MinAt (w : World) (b o : Nat) : Prop where
  word : w.cell? ⟨b, o, none⟩ = some (.string wMinimum)
  rule : w.cell? ⟨b, o + 1, none⟩ = some (.iface 121 (boundI 1))
theorem MinAt.keep {w w' : World} {b o : Nat} (h : MinAt w b o) (hb : Below w.heap.size w w') : MinAt w' b o := ⟨stay hb h.word, stay hb h.rule⟩
set_option maxHeartbeats 2000000 in
set_option maxRecDepth 100000 in
theorem min_keeps (b o c : Nat) (x : Int) (w : World) (h : MinAt w b o) :
    Calls Tryz.prog 26 #[.slice (some ⟨b, o, none⟩) 1 c, (numU x).v] w fun e w' => e = .returned (.bool (decide (1 ≤ x))) ∧ Below w.heap.size w w' := by
  have hk := fun W => hid_of (bound_keeps 1 (numU x) W)
  have e0 : boundK 1 (numU x) = decide (1 ≤ x) := by by_cases h : 1 ≤ x <;> simp [boundK, numU, h]
  rw [e0] at hk
  obtain ⟨z, hz⟩ : ∃ z, Hid (decide (1 ≤ x) = z) := ⟨_, rfl⟩
  rw [hz.out] at hk ⊢
  have hb0 := (Below.refl _ w).alloc (Nat.le_refl _) ((numU x).obj 25)
  have hb1 := hid_of (hb0.alloc hb0.size (.cells #[.string wMinimum, .iface 121 (boundI 1)] 90))
  have m0 := stay hb0 h.word
  have m1 := stay hb0 h.rule
  unfold numU V5.v V5.obj boundI fnV wMinimum at *
  simp only at *
  go_enter Tryz.func26, Tryz.ntmps26
  go_wp2_with fail
  refine wp_loop_rounds 2 ?_
  rw [rounds_succ]
  go_wp2_with fail
  refine (hk _).out.mono ?_
  rintro e W ⟨rfl, hb⟩
  have hB := hid_of (hb1.out.trans (hb.mono hb1.out.size))
  clear hk hb m0 m1 hb0 hb1
  cases z with
  | true =>
    go_wp2_with fail
    rw [rounds_succ]
    go_wp2_with fail
    go_ret
    exact ⟨rfl, hB.out⟩
  | false =>
    go_wp2_with fail
    go_ret
    exact ⟨rfl, hB.out⟩
theorem as_bound (v : Value) (xT : TypeId) (w : World) : (Instr.typeAssert (.iface 121 v) xT 92 true).run Tryz.prog w = .ok (.tuple #[.nilIface, .bool false]) w := run_typeAssert_lacksB Tryz.underlying92 (by kernel_rfl) (by kernel_rfl) v xT w
theorem as_props (v : Value) (xT : TypeId) (w : World) : (Instr.typeAssert (.iface 112 v) xT 92 true).run Tryz.prog w = .ok (.tuple #[.iface 112 v, .bool true]) w := run_typeAssert_hasB Tryz.underlying92 (by kernel_rfl) v xT w
def breachV (p : Value) (s : ByteArray) : Value := .iface 65 (.agg #[p, .string s])
def breachC (p : Value) (s : ByteArray) : List PanicEntry := [{ v := breachV p s, recovered := false }]
set_option maxHeartbeats 2000000 in
set_option maxRecDepth 100000 in
theorem min_seek (b o c : Nat) (pa : Nat) (w : World) (h : MinAt w b o) :
    Calls Tryz.prog 24 #[.slice (some ⟨b, o, none⟩) 1 c, (numU 0).v, .pointer (some ⟨pa, 0, none⟩)] w fun e w' => e = .panicked (breachC (.pointer (some ⟨pa, 0, none⟩)) wMinimum) ∧ Below w.heap.size w w' := by
  have hk := fun W => hid_of (bound_keeps 1 (numU 0) W)
  have e0 : boundK 1 (numU 0) = false := by decide
  rw [e0] at hk
  have ta : ∀ w, (Instr.typeAssert (.iface 121 (boundI 1)) 84 92 true).run Tryz.prog w = .ok (.tuple #[.nilIface, .bool false]) w := fun w => as_bound _ _ w
  have hb0 := (Below.refl _ w).alloc (Nat.le_refl _) ((numU 0).obj 25)
  have hb1 := hid_of (hb0.alloc hb0.size (.cells #[.string wMinimum, .iface 121 (boundI 1)] 90))
  have m0 := stay hb0 h.word
  have m1 := stay hb0 h.rule
  have n1 := new2 w ((numU 0).obj 25) (.cells #[.string wMinimum, .iface 121 (boundI 1)] 90)
  unfold breachC breachV
  unfold numU V5.v V5.obj boundI fnV wMinimum at *
  simp only at *
  go_enter Tryz.func24, Tryz.ntmps24
  go_wp2_with fail
  refine wp_loop_rounds 2 ?_
  rw [rounds_succ]
  go_wp2_with fail
  refine (hk _).out.mono ?_
  rintro e W ⟨rfl, hb⟩
  have hB := hid_of (hb1.out.trans (hb.mono hb1.out.size))
  have q := block_keep n1 hb
  have q0 : W.cell? ⟨w.heap.size + 1, 0, none⟩ = some (.string ⟨#[109, 105, 110, 105, 109, 117, 109]⟩) := cell_of q 0
  clear hk hb m0 m1 hb0 hb1 q n1
  go_wp2_with fail
  exact ⟨rfl, rfl, hB.out⟩
end Go.Proofs.YtbcfkajcmbckbaaGreatDoor
/-! schema: properties: the members that have one. -/
namespace Go.Proofs.YtbcfkajcmbckbaaGreatDoor
open Go Go.RowKit

def wN : ByteArray := ⟨#[110]⟩
def zeroS : ByteArray := ⟨#[]⟩
/-- An object of one member. -/
def objU (bn bi : Nat) : V5 := ⟨6, 0, ⟨#[]⟩, some ⟨bn, 0, none⟩, 1, 1, some ⟨bi, 0, none⟩, 1, 1⟩
/-- {"n": x} in memory. -/
structure DocN (w : World) (bn bi : Nat) (x : Int) : Prop where
  name : w.cell? ⟨bn, 0, none⟩ = some (.string wN)
  i0 : w.cell? ⟨bi, 0, none⟩ = some (.int .i64 3)
  i1 : w.cell? ⟨bi, 1, none⟩ = some (.int .i64 x)
  i2 : w.cell? ⟨bi, 2, none⟩ = some (.string ⟨#[]⟩)
  i3 : w.cell? ⟨bi, 3, none⟩ = some (.slice none 0 0)
  i4 : w.cell? ⟨bi, 4, none⟩ = some (.slice none 0 0)
theorem DocN.keep {w w' : World} {bn bi : Nat} {x : Int} (h : DocN w bn bi x) (hb : Below w.heap.size w w') : DocN w' bn bi x := ⟨stay hb h.name, stay hb h.i0, stay hb h.i1, stay hb h.i2, stay hb h.i3, stay hb h.i4⟩
theorem members_obj (bn bi : Nat) (w : World) : Calls Tryz.prog 101 #[(objU bn bi).v] w fun e w' => e = .returned (.slice (some ⟨bn, 0, none⟩) 1 1) ∧ Below w.heap.size w w' := by
  have hb := (Below.refl _ w).alloc (Nat.le_refl _) ((objU bn bi).obj 25)
  unfold V5.obj objU at hb
  simp only at hb
  unfold V5.v objU
  simp only
  go_enter Tryz.func101, Tryz.ntmps101
  go_wp2_with fail
  go_ret
  exact ⟨rfl, hb⟩
/-- The properties' value. -/
def propsV (mb r1 p1 c1 : Nat) : Value := .agg #[.map (some mb), .slice (some ⟨r1, p1, none⟩) 1 c1]
theorem AM : (Tryz.prog.info? 170).map (fun i => (i.zero, i.size, i.bytes)) = some (some (.agg #[.int .i64 0, .int .i64 0]), 2, 16) := by kernel_rfl
theorem look_n {w : World} {mb : Nat} (h : NumsAt w mb 1 (numsD [wN])) : (Instr.lookup 104 (.map (some mb)) (.string wN) true).run Tryz.prog w = .ok (.tuple #[.int .i64 0, .bool true]) w := by
  have hkey := key_big wN (by decide)
  obtain ⟨v, ps, hrun, hv⟩ := World.ownsMap.look_ok h law9 Tryz.underlying104 (Tryz.zeroValue3 w) (zd := .lit (.int .i64 0)) (zp := []) (plainElem_int Tryz.underlying3 (by decide)) hkey
  have e1 : Maps.has (numsD [wN]) (keyL wN) = true := by kernel_rfl
  have e2 : (numsD [wN]).atKey (keyL wN) (.lit (.int .i64 0)) = .lit (.int .i64 0) := by kernel_rfl
  rw [e1] at hrun
  rw [e2] at hv
  obtain ⟨a, rfl, ha, -⟩ := plainElem_int_inv Tryz.underlying3 hv
  simp only [Prod.mk.injEq, DataW.lit.injEq, Lit.int.injEq, true_and] at ha
  rw [← ha.1] at hrun
  exact hrun
set_option maxHeartbeats 2000000 in
set_option maxRecDepth 100000 in
theorem named_n (mb r1 p1 c1 bn bi : Nat) (w : World) (hN : NumsAt w mb 1 (numsD [wN])) (hn : w.cell? ⟨bn, 0, none⟩ = some (.string wN)) :
    Calls Tryz.prog 104 #[propsV mb r1 p1 c1, (objU bn bi).v] w fun e w' => Below w.heap.size w w' ∧ ∃ g c, e = .returned (.slice (some ⟨g, 0, none⟩) 1 c) ∧ 1 ≤ c ∧ w.heap.size ≤ g ∧ w'.cell? ⟨g, 0, none⟩ = some (.int .i64 0) ∧ w'.cell? ⟨g, 1, none⟩ = some (.int .i64 0) := by
  obtain ⟨ri, hri, hri1, hri2, hri3⟩ := info_parts AM
  have hb0 := (Below.refl _ w).alloc (Nat.le_refl _) (.cells #[.map (some mb), .slice (some ⟨r1, p1, none⟩) 1 c1] 112)
  have hb1 := hb0.alloc hb0.size ((objU bn bi).obj 25)
  have hm := fun W => hid_of (members_obj bn bi W)
  have x0 : ((w.alloc (.cells #[.map (some mb), .slice (some ⟨r1, p1, none⟩) 1 c1] 112)).alloc ((objU bn bi).obj 25)).cell? ⟨w.heap.size, 0, none⟩ = some (.map (some mb)) := cell_alloc' ((cell_of (heap_alloc_new w _) 0).trans rfl) _
  have hN1 : NumsAt _ mb 1 (numsD [wN]) := hN.keep (hb1.block _ hN.lt)
  have n1 := stay hb1 hn
  unfold propsV
  unfold V5.obj V5.v objU at *
  simp only at *
  go_enter Tryz.func104, Tryz.ntmps104
  go_wp2_with fail
  generalize (w.alloc (.cells #[.map (some mb), .slice (some ⟨r1, p1, none⟩) 1 c1] 112)).alloc (.cells #[.int .i64 6, .int .i64 0, .string ⟨#[]⟩, .slice (some ⟨bn, 0, none⟩) 1 1, .slice (some ⟨bi, 0, none⟩) 1 1] 25) = X at *
  refine (hm _).out.mono ?_
  rintro e W ⟨rfl, hb⟩
  have hB := hid_of (hb1.trans (hb.mono hb1.size))
  have y0 := stay hb x0
  have yn := stay hb n1
  have hlk := look_n (hN1.keep (hb.block _ hN1.lt))
  clear hb x0 n1 hN1 hm hb0 hb1 hN hn
  unfold wN at *
  go_wp2_with fail
  refine wp_loop_rounds 2 ?_
  rw [rounds_succ]
  have hsrc := hid_of (Src.of_block (P := Tryz.prog) (size := 2) Tryz.underlying167 (heap_alloc_new W (.cells #[.int .i64 0, .int .i64 0] 170)) 1 1 rfl (by intro u hu; simp at hu; subst hu; rfl))
  have hBa := hid_of (hB.out.alloc hB.out.size (.cells #[.int .i64 0, .int .i64 0] 170))
  have hRw := hid_of (Rw.nil (W.alloc (.cells #[.int .i64 0, .int .i64 0] 170)) w.heap.size 2 none)
  go_wp2_with (at_builtin; refine wpList_append_rw _ rfl _ _ 167 rfl 170 ri _ 2 16 Tryz.underlying167 hri hri1 hri2 hri3 rfl w.heap.size none 0 0 [] rfl hRw.out.len hRw.out.le hRw.out.mx hRw.out.rd _ rfl 1 _ hsrc.out (fun _ => hRw.out) (by decide) (by decide) (by decide) hBa.out.size ?_; intro g o2 c2 W3 hA; replace hA := hid_of hA)
  obtain ⟨c0', c1'⟩ : (∃ b o, some (⟨g, o2, none⟩ : Addr) = some ⟨b, o, none⟩ ∧ w.heap.size ≤ b ∧ W3.cell? ⟨b, o + 0, none⟩ = some (.int .i64 0)) ∧ (∃ b o, some (⟨g, o2, none⟩ : Addr) = some ⟨b, o, none⟩ ∧ w.heap.size ≤ b ∧ W3.cell? ⟨b, o + 1, none⟩ = some (.int .i64 0)) := ⟨hA.out.row.cell (j := 0) rfl, hA.out.row.cell (j := 1) rfl⟩
  have ho2 : o2 = 0 := by
    rcases hA.out.at' with ⟨h1, -, h2⟩ | ⟨-, h, -⟩
    · cases h1
    · exact h
  subst ho2
  have hfin : Hid (Below w.heap.size w W3 ∧ w.heap.size ≤ g ∧ 1 ≤ c2 ∧ W3.cell? ⟨g, 0, none⟩ = some (.int .i64 0) ∧ W3.cell? ⟨g, 1, none⟩ = some (.int .i64 0)) := by
    obtain ⟨b, o, e, h1, h2⟩ := c0'
    cases e
    obtain ⟨b, o, e, h3, h4⟩ := c1'
    cases e
    refine ⟨hBa.out.trans (hA.out.fr.below hBa.out.size (fun i hi => ?_)), h1, hA.out.row.le, h2, h4⟩
    obtain ⟨⟨o', s', e⟩, -⟩ := hi
    cases e
  clear hA hsrc hRw hBa c0' c1' hlk y0 yn
  rw [rounds_succ]
  go_wp2_with fail
  go_ret
  obtain ⟨h1, h2, h3, h4, h5⟩ := hfin.out
  exact ⟨h1, g, c2, rfl, h3, h2, h4, h5⟩
end Go.Proofs.YtbcfkajcmbckbaaGreatDoor
/-! schema: properties of one member: kept; sorted. -/
namespace Go.Proofs.YtbcfkajcmbckbaaGreatDoor
open Go Go.RowKit

set_option maxHeartbeats 1000000 in
set_option maxRecDepth 100000 in
theorem ins_one (g c : Nat) (f : Value) (w : World) : Calls Tryz.prog 110 #[.slice (some ⟨g, 0, none⟩) 1 c, .int .i64 0, .int .i64 1, f] w fun e w' => e = .returned (.tuple #[]) ∧ Below w.heap.size w w' := by
  go_enter Tryz.func110, Tryz.ntmps110
  go_wp2_with fail
  refine wp_loop_rounds 1 ?_
  rw [rounds_succ]
  go_wp2_with fail
  go_end0
  exact ⟨rfl, Below.refl _ _⟩
set_option maxHeartbeats 1000000 in
set_option maxRecDepth 100000 in
theorem stable_one (g c : Nat) (f : Value) (w : World) : Calls Tryz.prog 108 #[.slice (some ⟨g, 0, none⟩) 1 c, .int .i64 1, f] w fun e w' => e = .returned (.tuple #[]) ∧ Below w.heap.size w w' := by
  have hi := fun W => hid_of (ins_one g c f W)
  go_enter Tryz.func108, Tryz.ntmps108
  go_wp2_with fail
  refine wp_loop_rounds 1 ?_
  rw [rounds_succ]
  go_wp2_with fail
  refine (hi _).out.mono ?_
  rintro e W ⟨rfl, hb⟩
  have hB := hid_of hb
  clear hb hi
  go_wp2_with fail
  refine wp_loop_rounds 1 ?_
  rw [rounds_succ]
  go_wp2_with fail
  go_end0
  exact ⟨rfl, hB.out⟩
set_option maxHeartbeats 1000000 in
set_option maxRecDepth 100000 in
theorem sort_one (g c : Nat) (f : Value) (w : World) : Calls Tryz.prog 105 #[.slice (some ⟨g, 0, none⟩) 1 c, f] w fun e w' => e = .returned (.tuple #[]) ∧ Below w.heap.size w w' := by
  have hi := fun W => hid_of (stable_one g c f W)
  go_enter Tryz.func105, Tryz.ntmps105
  go_wp2_with fail
  refine (hi _).out.mono ?_
  rintro e W ⟨rfl, hb⟩
  have hB := hid_of hb
  clear hb hi
  go_wp2_with fail
  go_end0
  exact ⟨rfl, hB.out⟩
/-- A schema's one rule, properties: "n": minimum 1, in memory. -/
structure PropsAt (w : World) (mb r1 p1 r2 p2 c2 : Nat) : Prop where
  nums : NumsAt w mb 1 (numsD [wN])
  sch : w.cell? ⟨r1, p1, none⟩ = some (.slice (some ⟨r2, p2, none⟩) 1 c2)
  min : MinAt w r2 p2
theorem PropsAt.keep {w w' : World} {mb r1 p1 r2 p2 c2 : Nat} (h : PropsAt w mb r1 p1 r2 p2 c2) (hb : Below w.heap.size w w') : PropsAt w' mb r1 p1 r2 p2 c2 := ⟨h.nums.keep (hb.block _ h.nums.lt), stay hb h.sch, h.min.keep hb⟩
set_option maxHeartbeats 4000000 in
set_option maxRecDepth 100000 in
theorem props_keeps (mb r1 p1 c1 r2 p2 c2 bn bi : Nat) (x : Int) (w : World) (h : PropsAt w mb r1 p1 r2 p2 c2) (hD : DocN w bn bi x) :
    Calls Tryz.prog 102 #[propsV mb r1 p1 c1, (objU bn bi).v] w fun e w' => e = .returned (.bool (decide (1 ≤ x))) ∧ Below w.heap.size w w' := by
  have hb0 := (Below.refl _ w).alloc (Nat.le_refl _) (.cells #[.map (some mb), .slice (some ⟨r1, p1, none⟩) 1 c1] 112)
  have hb1 := hid_of (hb0.alloc hb0.size ((objU bn bi).obj 25))
  have n1 := new1 w (.cells #[.map (some mb), .slice (some ⟨r1, p1, none⟩) 1 c1] 112) ((objU bn bi).obj 25)
  have n2 := new2 w (.cells #[.map (some mb), .slice (some ⟨r1, p1, none⟩) 1 c1] 112) ((objU bn bi).obj 25)
  have hnm := hid_of (named_n mb r1 p1 c1 bn bi _ (h.keep hb1.out).nums (hD.keep hb1.out).name)
  obtain ⟨z, hz⟩ : ∃ z, Hid (decide (1 ≤ x) = z) := ⟨_, rfl⟩
  rw [hz.out]
  unfold propsV at *
  unfold V5.obj V5.v objU at *
  simp only at *
  go_enter Tryz.func102, Tryz.ntmps102
  go_wp2_with fail
  refine hnm.out.mono ?_
  rintro e W ⟨hb, g, c, rfl, hc, hg, g0, g1⟩
  have hB := hid_of (hb1.out.trans (hb.mono hb1.out.size))
  have q1 := block_keep n1 hb
  have q2 := block_keep n2 hb
  have hg' := hid_of (lt_of_cell g0)
  clear hnm n1 n2 hb hb0 hb1
  go_wp2_with fail
  refine wp_loop_rounds 2 ?_
  rw [rounds_succ]
  have hB2 := hid_of (hB.out.alloc hB.out.size (.cells #[.int .i64 0, .int .i64 0] 170))
  have k3 := heap_alloc_new W (.cells #[.int .i64 0, .int .i64 0] 170)
  have k1 := (Below.heap_alloc W (.cells #[.int .i64 0, .int .i64 0] 170) _ (Array.getElem?_eq_some_iff.1 q1).1).trans q1
  have k2 := (Below.heap_alloc W (.cells #[.int .i64 0, .int .i64 0] 170) _ (Array.getElem?_eq_some_iff.1 q2).1).trans q2
  go_upto_region 4 with fail
  generalize W.alloc (.cells #[.int .i64 0, .int .i64 0] 170) = W2 at *
  have hP := h.keep hB2.out
  have hDD := hD.keep hB2.out
  have a1 : W2.drew.cell? ⟨w.heap.size, 1, none⟩ = some (.slice (some ⟨r1, p1, none⟩) 1 c1) := cell_of k1 1
  have a2 : W2.drew.cell? ⟨w.heap.size + 1, 4, none⟩ = some (.slice (some ⟨bi, 0, none⟩) 1 1) := cell_of k2 4
  have a3 : W2.drew.cell? ⟨W.heap.size, 0, none⟩ = some (.int .i64 0) := cell_of k3 0
  have a4 : W2.drew.cell? ⟨W.heap.size, 1, none⟩ = some (.int .i64 0) := cell_of k3 1
  have a5 : W2.drew.cell? ⟨r1, p1, none⟩ = some (.slice (some ⟨r2, p2, none⟩) 1 c2) := hP.sch
  have i0 : W2.drew.cell? ⟨bi, 0, none⟩ = some (.int .i64 3) := hDD.i0
  have i1 : W2.drew.cell? ⟨bi, 1, none⟩ = some (.int .i64 x) := hDD.i1
  have i2 : W2.drew.cell? ⟨bi, 2, none⟩ = some (.string ⟨#[]⟩) := hDD.i2
  have i3 : W2.drew.cell? ⟨bi, 3, none⟩ = some (.slice none 0 0) := hDD.i3
  have i4 : W2.drew.cell? ⟨bi, 4, none⟩ = some (.slice none 0 0) := hDD.i4
  have hk := hid_of (min_keeps r2 p2 c2 x W2.drew ⟨hP.min.word, hP.min.rule⟩)
  rw [hz.out] at hk
  unfold numU V5.v at hk
  simp only at hk
  have hB3 : Hid (Below w.heap.size w W2.drew) := below_drew hB2.out
  clear hP hDD k1 k2 k3 q1 q2 g0 g1 h hD hB hB2
  go_region_held3 (fun V => V.cell? ⟨w.heap.size, 1, none⟩ = some (.slice (some ⟨r1, p1, none⟩) 1 c1) ∧ V.cell? ⟨w.heap.size + 1, 4, none⟩ = some (.slice (some ⟨bi, 0, none⟩) 1 1) ∧ V.cell? ⟨W.heap.size, 0, none⟩ = some (.int .i64 0) ∧ V.cell? ⟨W.heap.size, 1, none⟩ = some (.int .i64 0) ∧ V.cell? ⟨r1, p1, none⟩ = some (.slice (some ⟨r2, p2, none⟩) 1 c2) ∧ V.cell? ⟨bi, 0, none⟩ = some (.int .i64 3) ∧ V.cell? ⟨bi, 1, none⟩ = some (.int .i64 x) ∧ V.cell? ⟨bi, 2, none⟩ = some (.string ⟨#[]⟩) ∧ V.cell? ⟨bi, 3, none⟩ = some (.slice none 0 0) ∧ V.cell? ⟨bi, 4, none⟩ = some (.slice none 0 0)) (go_keep) (first
    | (go_at_call 26; refine hk.out.mono ?_; rintro e W3 ⟨rfl, hb3⟩; have b1 := stay hb3 a1; have b2 := stay hb3 a2; have b3 := stay hb3 a3; have b4 := stay hb3 a4; have b5 := stay hb3 a5; have j0 := stay hb3 i0; have j1 := stay hb3 i1; have j2 := stay hb3 i2; have j3 := stay hb3 i3; have j4 := stay hb3 i4; have hB4 := hid_of (hB3.out.trans (hb3.mono hB3.out.size)); clear hb3 a1 a2 a3 a4 a5 i0 i1 i2 i3 i4))
  all_goals
    clear b1 b2 b3 b4 b5 j0 j1 j2 j3 j4 hk
    cases z with
    | true =>
      go_wp2_with fail
      rw [rounds_succ]
      go_wp2_with fail
      go_ret
      exact ⟨rfl, hB4.out⟩
    | false =>
      go_wp2_with fail
      go_ret
      exact ⟨rfl, hB4.out⟩
end Go.Proofs.YtbcfkajcmbckbaaGreatDoor
/-! schema: Check of an object of one member, against properties: minimum 1. -/
namespace Go.Proofs.YtbcfkajcmbckbaaGreatDoor
open Go Go.RowKit

/-- The schema's rules. -/
structure TopAt (w : World) (r0 p0 mb r1 p1 c1 r2 p2 c2 : Nat) : Prop where
  word : w.cell? ⟨r0, p0, none⟩ = some (.string wProperties)
  rule : w.cell? ⟨r0, p0 + 1, none⟩ = some (.iface 112 (propsV mb r1 p1 c1))
  props : PropsAt w mb r1 p1 r2 p2 c2
theorem TopAt.keep {w w' : World} {r0 p0 mb r1 p1 c1 r2 p2 c2 : Nat} (h : TopAt w r0 p0 mb r1 p1 c1 r2 p2 c2) (hb : Below w.heap.size w w') : TopAt w' r0 p0 mb r1 p1 c1 r2 p2 c2 := ⟨stay hb h.word, stay hb h.rule, h.props.keep hb⟩
set_option maxHeartbeats 2000000 in
set_option maxRecDepth 100000 in
theorem top_keeps (r0 p0 c0 mb r1 p1 c1 r2 p2 c2 bn bi : Nat) (x : Int) (w : World) (h : TopAt w r0 p0 mb r1 p1 c1 r2 p2 c2) (hD : DocN w bn bi x) :
    Calls Tryz.prog 26 #[.slice (some ⟨r0, p0, none⟩) 1 c0, (objU bn bi).v] w fun e w' => e = .returned (.bool (decide (1 ≤ x))) ∧ Below w.heap.size w w' := by
  have hb0 := (Below.refl _ w).alloc (Nat.le_refl _) ((objU bn bi).obj 25)
  have hb1 := hid_of (hb0.alloc hb0.size (.cells #[.string wProperties, .iface 112 (propsV mb r1 p1 c1)] 90))
  have m0 := stay hb0 h.word
  have m1 := stay hb0 h.rule
  have hk := hid_of (props_keeps mb r1 p1 c1 r2 p2 c2 bn bi x _ (h.props.keep hb1.out) (hD.keep hb1.out))
  obtain ⟨z, hz⟩ : ∃ z, Hid (decide (1 ≤ x) = z) := ⟨_, rfl⟩
  rw [hz.out] at hk ⊢
  unfold V5.v V5.obj objU propsV wProperties at *
  simp only at *
  go_enter Tryz.func26, Tryz.ntmps26
  go_wp2_with fail
  refine wp_loop_rounds 2 ?_
  rw [rounds_succ]
  go_wp2_with fail
  refine hk.out.mono ?_
  rintro e W ⟨rfl, hb⟩
  have hB := hid_of (hb1.out.trans (hb.mono hb1.out.size))
  clear hk hb m0 m1 hb0 hb1
  cases z with
  | true =>
    go_wp2_with fail
    rw [rounds_succ]
    go_wp2_with fail
    go_ret
    exact ⟨rfl, hB.out⟩
  | false =>
    go_wp2_with fail
    go_ret
    exact ⟨rfl, hB.out⟩
/-- The schema. -/
structure LiveAt (w : World) (sb r0 p0 c0 mb r1 p1 c1 r2 p2 c2 : Nat) : Prop where
  whole : w.cell? ⟨sb, 0, none⟩ = some (.slice (some ⟨r0, p0, none⟩) 1 c0)
  top : TopAt w r0 p0 mb r1 p1 c1 r2 p2 c2
theorem LiveAt.keep {w w' : World} {sb r0 p0 c0 mb r1 p1 c1 r2 p2 c2 : Nat} (h : LiveAt w sb r0 p0 c0 mb r1 p1 c1 r2 p2 c2) (hb : Below w.heap.size w w') : LiveAt w' sb r0 p0 c0 mb r1 p1 c1 r2 p2 c2 := ⟨stay hb h.whole, h.top.keep hb⟩
set_option maxHeartbeats 4000000 in
set_option maxRecDepth 100000 in
theorem check_live (sb r0 p0 c0 mb r1 p1 c1 r2 p2 c2 bn bi : Nat) (x : Int) (w : World) (h : LiveAt w sb r0 p0 c0 mb r1 p1 c1 r2 p2 c2) (hD : DocN w bn bi x) :
    Calls Tryz.prog 16 #[.pointer (some ⟨sb, 0, none⟩), (objU bn bi).v] w fun e w' => e = .returned (.int .i64 (if 1 ≤ x then 0 else 212)) ∧ Below w.heap.size w w' := by
  have hb0 := (Below.refl _ w).alloc (Nat.le_refl _) ((objU bn bi).obj 25)
  have n0 := heap_alloc_new w ((objU bn bi).obj 25)
  have hL := h.keep hb0
  have hk := hid_of (top_keeps r0 p0 c0 mb r1 p1 c1 r2 p2 c2 bn bi x (w.alloc ((objU bn bi).obj 25)).drew ⟨hL.top.word, hL.top.rule, ⟨hL.top.props.nums, hL.top.props.sch, ⟨hL.top.props.min.word, hL.top.props.min.rule⟩⟩⟩ (by have := hD.keep hb0; exact ⟨this.name, this.i0, this.i1, this.i2, this.i3, this.i4⟩))
  have w0 : (w.alloc ((objU bn bi).obj 25)).drew.cell? ⟨sb, 0, none⟩ = some (.slice (some ⟨r0, p0, none⟩) 1 c0) := hL.whole
  have hB1 : Hid (Below w.heap.size w (w.alloc ((objU bn bi).obj 25)).drew) := below_drew hb0
  obtain ⟨z, hz⟩ : ∃ z, Hid ((if 1 ≤ x then 0 else 212 : Int) = z) := ⟨_, rfl⟩
  obtain ⟨y, hy⟩ : ∃ y, Hid (decide (1 ≤ x) = y) := ⟨_, rfl⟩
  have hzy : Hid (z = if y = true then 0 else 212) := by rw [Hid, ← hz.out, ← hy.out]; simp
  rw [hz.out]
  rw [hy.out] at hk
  unfold V5.v V5.obj objU at *
  simp only at *
  obtain ⟨y0, y1, y2, y3, y4, -⟩ := row_cells (w := (w.alloc (.cells #[.int .i64 6, .int .i64 0, .string ⟨#[]⟩, .slice (some ⟨bn, 0, none⟩) 1 1, .slice (some ⟨bi, 0, none⟩) 1 1] 25)).drew) n0
  clear n0 hL h hD hb0
  go_enter Tryz.func16, Tryz.ntmps16
  go_upto_region 1 with fail
  go_region_held3 (fun V => V.cell? ⟨sb, 0, none⟩ = some (.slice (some ⟨r0, p0, none⟩) 1 c0) ∧ V.cell? ⟨w.heap.size, 0, none⟩ = some (.int .i64 6) ∧ V.cell? ⟨w.heap.size, 1, none⟩ = some (.int .i64 0) ∧ V.cell? ⟨w.heap.size, 2, none⟩ = some (.string ⟨#[]⟩) ∧ V.cell? ⟨w.heap.size, 3, none⟩ = some (.slice (some ⟨bn, 0, none⟩) 1 1) ∧ V.cell? ⟨w.heap.size, 4, none⟩ = some (.slice (some ⟨bi, 0, none⟩) 1 1)) (go_keep) (first
    | (go_at_call 26; refine hk.out.mono ?_; rintro e W3 ⟨rfl, hb3⟩; have b1 := stay hb3 w0; have j0 := stay hb3 y0; have j1 := stay hb3 y1; have j2 := stay hb3 y2; have j3 := stay hb3 y3; have j4 := stay hb3 y4; have hB4 := hid_of (hB1.out.trans (hb3.mono hB1.out.size)); clear hb3 w0 y0 y1 y2 y3 y4))
  all_goals
    clear b1 j0 j1 j2 j3 j4 hk
    cases y with
    | true =>
      have hz0 : z = 0 := hzy.out
      subst hz0
      go_wp2_with fail
      go_ret
      exact ⟨rfl, hB4.out⟩
    | false =>
      have hz0 : z = 212 := hzy.out
      subst hz0
      go_wp2_with fail
      go_ret
      exact ⟨rfl, hB4.out⟩
end Go.Proofs.YtbcfkajcmbckbaaGreatDoor
/-! schema: the first fault of {"n": 0}: a panic on its way up. -/
namespace Go.Proofs.YtbcfkajcmbckbaaGreatDoor
open Go Go.RowKit

/-- Where the value stands that breaks the rule. -/
structure PlaceN (w : World) (pa : Nat) : Prop where
  up : w.cell? ⟨pa, 0, none⟩ = some (.pointer none)
  step : w.cell? ⟨pa, 1, none⟩ = some (.string wN)
theorem PlaceN.keep {w w' : World} {pa : Nat} (h : PlaceN w pa) (hb : Below w.heap.size w w') : PlaceN w' pa := ⟨stay hb h.up, stay hb h.step⟩
def SeekPost (w : World) (e : Ending) (w' : World) : Prop := ∃ pa, e = .panicked (breachC (.pointer (some ⟨pa, 0, none⟩)) wMinimum) ∧ Below w.heap.size w w' ∧ PlaceN w' pa
set_option maxHeartbeats 4000000 in
set_option maxRecDepth 100000 in
theorem props_seek (mb r1 p1 c1 r2 p2 c2 bn bi : Nat) (w : World) (h : PropsAt w mb r1 p1 r2 p2 c2) (hD : DocN w bn bi 0) :
    Calls Tryz.prog 103 #[propsV mb r1 p1 c1, (objU bn bi).v, .pointer none] w (SeekPost w) := by
  have hb0 := (Below.refl _ w).alloc (Nat.le_refl _) (.cells #[.map (some mb), .slice (some ⟨r1, p1, none⟩) 1 c1] 112)
  have hb1 := hid_of (hb0.alloc hb0.size ((objU bn bi).obj 25))
  have n1 := new1 w (.cells #[.map (some mb), .slice (some ⟨r1, p1, none⟩) 1 c1] 112) ((objU bn bi).obj 25)
  have n2 := new2 w (.cells #[.map (some mb), .slice (some ⟨r1, p1, none⟩) 1 c1] 112) ((objU bn bi).obj 25)
  have hnm := hid_of (named_n mb r1 p1 c1 bn bi _ (h.keep hb1.out).nums (hD.keep hb1.out).name)
  unfold propsV at *
  unfold V5.obj V5.v objU at *
  simp only at *
  go_enter Tryz.func103, Tryz.ntmps103
  go_wp2_with fail
  refine hnm.out.mono ?_
  rintro e W0 ⟨hb, g, c, rfl, hc, hg, g0, g1⟩
  have hB0 := hid_of (hb1.out.trans (hb.mono hb1.out.size))
  have q1 := block_keep n1 hb
  have q2 := block_keep n2 hb
  clear hnm n1 n2 hb hb0 hb1
  go_wp2_with fail
  refine (sort_one g c _ _).mono ?_
  rintro e W ⟨rfl, hb⟩
  have hB := hid_of (hB0.out.trans (hb.mono hB0.out.size))
  have s1 := block_keep q1 hb
  have s2 := block_keep q2 hb
  replace g0 := stay hb g0
  replace g1 := stay hb g1
  have hg' := hid_of (lt_of_cell g0)
  clear hb q1 q2 hB0
  go_wp2_with fail
  refine wp_loop_rounds 2 ?_
  rw [rounds_succ]
  have hB2 := hid_of (hB.out.alloc hB.out.size (.cells #[.int .i64 0, .int .i64 0] 170))
  have k3 := heap_alloc_new W (.cells #[.int .i64 0, .int .i64 0] 170)
  have k1 := (Below.heap_alloc W (.cells #[.int .i64 0, .int .i64 0] 170) _ (Array.getElem?_eq_some_iff.1 s1).1).trans s1
  have k2 := (Below.heap_alloc W (.cells #[.int .i64 0, .int .i64 0] 170) _ (Array.getElem?_eq_some_iff.1 s2).1).trans s2
  go_upto_region 6 with fail
  generalize W.alloc (.cells #[.int .i64 0, .int .i64 0] 170) = W2 at *
  have hP := h.keep hB2.out
  have hDD := hD.keep hB2.out
  have a1 : W2.drew.cell? ⟨w.heap.size, 1, none⟩ = some (.slice (some ⟨r1, p1, none⟩) 1 c1) := cell_of k1 1
  have a2 : W2.drew.cell? ⟨w.heap.size + 1, 4, none⟩ = some (.slice (some ⟨bi, 0, none⟩) 1 1) := cell_of k2 4
  have a6 : W2.drew.cell? ⟨w.heap.size + 1, 3, none⟩ = some (.slice (some ⟨bn, 0, none⟩) 1 1) := cell_of k2 3
  have a3 : W2.drew.cell? ⟨W.heap.size, 0, none⟩ = some (.int .i64 0) := cell_of k3 0
  have a4 : W2.drew.cell? ⟨W.heap.size, 1, none⟩ = some (.int .i64 0) := cell_of k3 1
  have a5 : W2.drew.cell? ⟨r1, p1, none⟩ = some (.slice (some ⟨r2, p2, none⟩) 1 c2) := hP.sch
  have a7 : W2.drew.cell? ⟨bn, 0, none⟩ = some (.string wN) := hDD.name
  have i0 : W2.drew.cell? ⟨bi, 0, none⟩ = some (.int .i64 3) := hDD.i0
  have i1 : W2.drew.cell? ⟨bi, 1, none⟩ = some (.int .i64 0) := hDD.i1
  have i2 : W2.drew.cell? ⟨bi, 2, none⟩ = some (.string ⟨#[]⟩) := hDD.i2
  have i3 : W2.drew.cell? ⟨bi, 3, none⟩ = some (.slice none 0 0) := hDD.i3
  have i4 : W2.drew.cell? ⟨bi, 4, none⟩ = some (.slice none 0 0) := hDD.i4
  have hB3 : Hid (Below w.heap.size w W2.drew) := below_drew hB2.out
  have hB4 : Hid (Below w.heap.size w (W2.alloc (.cells #[.pointer none, .string wN] 95)).drew) := below_drew (hB2.out.alloc hB2.out.size _)
  have hpl : (W2.alloc (.cells #[.pointer none, .string wN] 95)).drew.heap[W2.heap.size]? = _ := heap_alloc_new W2 (.cells #[.pointer none, .string wN] 95)
  have hPN : Hid (PlaceN ((W2.alloc (.cells #[.pointer none, .string wN] 95)).drew) W2.heap.size) := ⟨cell_of hpl 0, cell_of hpl 1⟩
  have hk := hid_of (min_seek r2 p2 c2 W2.heap.size ((W2.alloc (.cells #[.pointer none, .string wN] 95)).drew) ⟨cell_alloc' (W := W2) hP.min.word _, cell_alloc' (W := W2) hP.min.rule _⟩)
  have hfin : Hid (∀ e w', (e = .panicked (breachC (.pointer (some ⟨W2.heap.size, 0, none⟩)) wMinimum) ∧ Below ((W2.alloc (.cells #[.pointer none, .string wN] 95)).drew).heap.size ((W2.alloc (.cells #[.pointer none, .string wN] 95)).drew) w') → SeekPost w e w') := by
    rintro e w' ⟨rfl, hb⟩
    exact ⟨_, rfl, hB4.out.trans (hb.mono hB4.out.size), hPN.out.keep hb⟩
  unfold numU V5.v wN at *
  simp only at *
  clear hP hDD k1 k2 k3 s1 s2 g0 g1 h hD hB hB2 hpl hPN
  have hSA : Hid ((W2.alloc (.cells #[.pointer none, .string ⟨#[110]⟩] 95)).drew.cell? ⟨w.heap.size, 1, none⟩ = some (.slice (some ⟨r1, p1, none⟩) 1 c1) ∧ (W2.alloc (.cells #[.pointer none, .string ⟨#[110]⟩] 95)).drew.cell? ⟨w.heap.size + 1, 4, none⟩ = some (.slice (some ⟨bi, 0, none⟩) 1 1) ∧ (W2.alloc (.cells #[.pointer none, .string ⟨#[110]⟩] 95)).drew.cell? ⟨w.heap.size + 1, 3, none⟩ = some (.slice (some ⟨bn, 0, none⟩) 1 1) ∧ (W2.alloc (.cells #[.pointer none, .string ⟨#[110]⟩] 95)).drew.cell? ⟨W.heap.size, 0, none⟩ = some (.int .i64 0) ∧ (W2.alloc (.cells #[.pointer none, .string ⟨#[110]⟩] 95)).drew.cell? ⟨W.heap.size, 1, none⟩ = some (.int .i64 0) ∧ (W2.alloc (.cells #[.pointer none, .string ⟨#[110]⟩] 95)).drew.cell? ⟨r1, p1, none⟩ = some (.slice (some ⟨r2, p2, none⟩) 1 c2) ∧ (W2.alloc (.cells #[.pointer none, .string ⟨#[110]⟩] 95)).drew.cell? ⟨bn, 0, none⟩ = some (.string ⟨#[110]⟩) ∧ (W2.alloc (.cells #[.pointer none, .string ⟨#[110]⟩] 95)).drew.cell? ⟨bi, 0, none⟩ = some (.int .i64 3) ∧ (W2.alloc (.cells #[.pointer none, .string ⟨#[110]⟩] 95)).drew.cell? ⟨bi, 1, none⟩ = some (.int .i64 0) ∧ (W2.alloc (.cells #[.pointer none, .string ⟨#[110]⟩] 95)).drew.cell? ⟨bi, 2, none⟩ = some (.string ⟨#[]⟩) ∧ (W2.alloc (.cells #[.pointer none, .string ⟨#[110]⟩] 95)).drew.cell? ⟨bi, 3, none⟩ = some (.slice none 0 0) ∧ (W2.alloc (.cells #[.pointer none, .string ⟨#[110]⟩] 95)).drew.cell? ⟨bi, 4, none⟩ = some (.slice none 0 0)) := ⟨cell_alloc' (W := W2) a1 _, cell_alloc' (W := W2) a2 _, cell_alloc' (W := W2) a6 _, cell_alloc' (W := W2) a3 _, cell_alloc' (W := W2) a4 _, cell_alloc' (W := W2) a5 _, cell_alloc' (W := W2) a7 _, cell_alloc' (W := W2) i0 _, cell_alloc' (W := W2) i1 _, cell_alloc' (W := W2) i2 _, cell_alloc' (W := W2) i3 _, cell_alloc' (W := W2) i4 _⟩
  refine wp_region_held_drew (S := (fun V => V.cell? ⟨w.heap.size, 1, none⟩ = some (.slice (some ⟨r1, p1, none⟩) 1 c1) ∧ V.cell? ⟨w.heap.size + 1, 4, none⟩ = some (.slice (some ⟨bi, 0, none⟩) 1 1) ∧ V.cell? ⟨w.heap.size + 1, 3, none⟩ = some (.slice (some ⟨bn, 0, none⟩) 1 1) ∧ V.cell? ⟨W.heap.size, 0, none⟩ = some (.int .i64 0) ∧ V.cell? ⟨W.heap.size, 1, none⟩ = some (.int .i64 0) ∧ V.cell? ⟨r1, p1, none⟩ = some (.slice (some ⟨r2, p2, none⟩) 1 c2) ∧ V.cell? ⟨bn, 0, none⟩ = some (.string ⟨#[110]⟩) ∧ V.cell? ⟨bi, 0, none⟩ = some (.int .i64 3) ∧ V.cell? ⟨bi, 1, none⟩ = some (.int .i64 0) ∧ V.cell? ⟨bi, 2, none⟩ = some (.string ⟨#[]⟩) ∧ V.cell? ⟨bi, 3, none⟩ = some (.slice none 0 0) ∧ V.cell? ⟨bi, 4, none⟩ = some (.slice none 0 0))) (by kernel_rfl) ⟨a1, a2, a6, a3, a4, a5, a7, i0, i1, i2, i3, i4⟩ (fun hHeld => ?_)
  refine wpAnyH_take (i := 0) (v := .pointer (some ⟨w.heap.size, 1, none⟩)) rfl (by kernel_rfl) (by kernel_rfl) (by kernel_rfl) (fun _ _ _ h => h) (Or.inl ⟨by rfl, (by intro w' hS; obtain ⟨s1, s2, s3, s4, s5, s6, s7, s8, s9, s10, s11, s12⟩ := hS; go_simp)⟩) hHeld ?_
  simp only [Act.put, List.getElem_toArray, List.getElem_cons_zero, List.setIfInBounds_toArray, List.set_cons_zero, List.set_cons_succ]
  refine wpAnyH_take (i := 1) (v := .slice (some ⟨r1, p1, none⟩) 1 c1) rfl (by kernel_rfl) (by kernel_rfl) (by kernel_rfl) (fun _ _ _ h => h) (Or.inl ⟨by rfl, (by intro w' hS; obtain ⟨s1, s2, s3, s4, s5, s6, s7, s8, s9, s10, s11, s12⟩ := hS; go_simp)⟩) hHeld ?_
  simp only [Act.put, List.getElem_toArray, List.getElem_cons_zero, List.getElem_cons_succ, List.setIfInBounds_toArray, List.set_cons_zero, List.set_cons_succ]
  refine wpAnyH_take (i := 2) (v := .pointer (some ⟨W.heap.size, 0, none⟩)) rfl (by kernel_rfl) (by kernel_rfl) (by kernel_rfl) (fun _ _ _ h => h) (Or.inl ⟨by rfl, (by intro w' hS; obtain ⟨s1, s2, s3, s4, s5, s6, s7, s8, s9, s10, s11, s12⟩ := hS; go_simp)⟩) hHeld ?_
  simp only [Act.put, List.getElem_toArray, List.getElem_cons_zero, List.getElem_cons_succ, List.setIfInBounds_toArray, List.set_cons_zero, List.set_cons_succ]
  refine wpAnyH_take (i := 3) (v := .int .i64 0) rfl (by kernel_rfl) (by kernel_rfl) (by kernel_rfl) (fun _ _ _ h => h) (Or.inl ⟨by rfl, (by intro w' hS; obtain ⟨s1, s2, s3, s4, s5, s6, s7, s8, s9, s10, s11, s12⟩ := hS; go_simp)⟩) hHeld ?_
  simp only [Act.put, List.getElem_toArray, List.getElem_cons_zero, List.getElem_cons_succ, List.setIfInBounds_toArray, List.set_cons_zero, List.set_cons_succ]
  refine wpAnyH_take (i := 4) (v := .pointer (some ⟨r1, p1, none⟩)) rfl (by kernel_rfl) (by kernel_rfl) (by kernel_rfl) (fun _ _ _ h => h) (Or.inl ⟨by rfl, (by intro w' hS; obtain ⟨s1, s2, s3, s4, s5, s6, s7, s8, s9, s10, s11, s12⟩ := hS; go_simp)⟩) hHeld ?_
  simp only [Act.put, List.getElem_toArray, List.getElem_cons_zero, List.getElem_cons_succ, List.setIfInBounds_toArray, List.set_cons_zero, List.set_cons_succ]
  refine wpAnyH_take (i := 5) (v := .slice (some ⟨r2, p2, none⟩) 1 c2) rfl (by kernel_rfl) (by kernel_rfl) (by kernel_rfl) (fun _ _ _ h => h) (Or.inl ⟨by rfl, (by intro w' hS; obtain ⟨s1, s2, s3, s4, s5, s6, s7, s8, s9, s10, s11, s12⟩ := hS; go_simp)⟩) hHeld ?_
  simp only [Act.put, List.getElem_toArray, List.getElem_cons_zero, List.getElem_cons_succ, List.setIfInBounds_toArray, List.set_cons_zero, List.set_cons_succ]
  refine wpAnyH_take (i := 6) (v := .pointer (some ⟨w.heap.size + 1, 4, none⟩)) rfl (by kernel_rfl) (by kernel_rfl) (by kernel_rfl) (fun _ _ _ h => h) (Or.inl ⟨by rfl, (by intro w' hS; obtain ⟨s1, s2, s3, s4, s5, s6, s7, s8, s9, s10, s11, s12⟩ := hS; go_simp)⟩) hHeld ?_
  simp only [Act.put, List.getElem_toArray, List.getElem_cons_zero, List.getElem_cons_succ, List.setIfInBounds_toArray, List.set_cons_zero, List.set_cons_succ]
  refine wpAnyH_take (i := 7) (v := .slice (some ⟨bi, 0, none⟩) 1 1) rfl (by kernel_rfl) (by kernel_rfl) (by kernel_rfl) (fun _ _ _ h => h) (Or.inl ⟨by rfl, (by intro w' hS; obtain ⟨s1, s2, s3, s4, s5, s6, s7, s8, s9, s10, s11, s12⟩ := hS; go_simp)⟩) hHeld ?_
  simp only [Act.put, List.getElem_toArray, List.getElem_cons_zero, List.getElem_cons_succ, List.setIfInBounds_toArray, List.set_cons_zero, List.set_cons_succ]
  refine wpAnyH_take (i := 8) (v := .pointer (some ⟨W.heap.size, 1, none⟩)) rfl (by kernel_rfl) (by kernel_rfl) (by kernel_rfl) (fun _ _ _ h => h) (Or.inl ⟨by rfl, (by intro w' hS; obtain ⟨s1, s2, s3, s4, s5, s6, s7, s8, s9, s10, s11, s12⟩ := hS; go_simp)⟩) hHeld ?_
  simp only [Act.put, List.getElem_toArray, List.getElem_cons_zero, List.getElem_cons_succ, List.setIfInBounds_toArray, List.set_cons_zero, List.set_cons_succ]
  refine wpAnyH_take (i := 9) (v := .int .i64 0) rfl (by kernel_rfl) (by kernel_rfl) (by kernel_rfl) (fun _ _ _ h => h) (Or.inl ⟨by rfl, (by intro w' hS; obtain ⟨s1, s2, s3, s4, s5, s6, s7, s8, s9, s10, s11, s12⟩ := hS; go_simp)⟩) hHeld ?_
  simp only [Act.put, List.getElem_toArray, List.getElem_cons_zero, List.getElem_cons_succ, List.setIfInBounds_toArray, List.set_cons_zero, List.set_cons_succ]
  refine wpAnyH_take (i := 10) (v := .pointer (some ⟨bi, 0, none⟩)) rfl (by kernel_rfl) (by kernel_rfl) (by kernel_rfl) (fun _ _ _ h => h) (Or.inl ⟨by rfl, (by intro w' hS; obtain ⟨s1, s2, s3, s4, s5, s6, s7, s8, s9, s10, s11, s12⟩ := hS; go_simp)⟩) hHeld ?_
  simp only [Act.put, List.getElem_toArray, List.getElem_cons_zero, List.getElem_cons_succ, List.setIfInBounds_toArray, List.set_cons_zero, List.set_cons_succ]
  refine wpAnyH_take (i := 11) (v := .agg #[.int .i64 3, .int .i64 0, .string ⟨#[]⟩, .slice none 0 0, .slice none 0 0]) rfl (by kernel_rfl) (by kernel_rfl) (by kernel_rfl) (fun _ _ _ h => h) (Or.inl ⟨by rfl, (by intro w' hS; obtain ⟨s1, s2, s3, s4, s5, s6, s7, s8, s9, s10, s11, s12⟩ := hS; go_simp)⟩) hHeld ?_
  simp only [Act.put, List.getElem_toArray, List.getElem_cons_zero, List.getElem_cons_succ, List.setIfInBounds_toArray, List.set_cons_zero, List.set_cons_succ]
  refine wpAnyH_take (i := 12) (v := .pointer none) rfl (by kernel_rfl) (by kernel_rfl) (by kernel_rfl) (fun _ _ _ h => h) (Or.inl ⟨by rfl, (by intro w' hS; obtain ⟨s1, s2, s3, s4, s5, s6, s7, s8, s9, s10, s11, s12⟩ := hS; go_simp)⟩) hHeld ?_
  simp only [Act.put, List.getElem_toArray, List.getElem_cons_zero, List.getElem_cons_succ, List.setIfInBounds_toArray, List.set_cons_zero, List.set_cons_succ]
  refine wpAnyH_take (i := 13) (v := .pointer (some ⟨w.heap.size + 1, 3, none⟩)) rfl (by kernel_rfl) (by kernel_rfl) (by kernel_rfl) (fun _ _ _ h => h) (Or.inl ⟨by rfl, (by intro w' hS; obtain ⟨s1, s2, s3, s4, s5, s6, s7, s8, s9, s10, s11, s12⟩ := hS; go_simp)⟩) hHeld ?_
  simp only [Act.put, List.getElem_toArray, List.getElem_cons_zero, List.getElem_cons_succ, List.setIfInBounds_toArray, List.set_cons_zero, List.set_cons_succ]
  refine wpAnyH_take (i := 14) (v := .slice (some ⟨bn, 0, none⟩) 1 1) rfl (by kernel_rfl) (by kernel_rfl) (by kernel_rfl) (fun _ _ _ h => h) (Or.inl ⟨by rfl, (by intro w' hS; obtain ⟨s1, s2, s3, s4, s5, s6, s7, s8, s9, s10, s11, s12⟩ := hS; go_simp)⟩) hHeld ?_
  simp only [Act.put, List.getElem_toArray, List.getElem_cons_zero, List.getElem_cons_succ, List.setIfInBounds_toArray, List.set_cons_zero, List.set_cons_succ]
  refine wpAnyH_take (i := 15) (v := .pointer (some ⟨W.heap.size, 1, none⟩)) rfl (by kernel_rfl) (by kernel_rfl) (by kernel_rfl) (fun _ _ _ h => h) (Or.inl ⟨by rfl, (by intro w' hS; obtain ⟨s1, s2, s3, s4, s5, s6, s7, s8, s9, s10, s11, s12⟩ := hS; go_simp)⟩) hHeld ?_
  simp only [Act.put, List.getElem_toArray, List.getElem_cons_zero, List.getElem_cons_succ, List.setIfInBounds_toArray, List.set_cons_zero, List.set_cons_succ]
  refine wpAnyH_take (i := 16) (v := .int .i64 0) rfl (by kernel_rfl) (by kernel_rfl) (by kernel_rfl) (fun _ _ _ h => h) (Or.inl ⟨by rfl, (by intro w' hS; obtain ⟨s1, s2, s3, s4, s5, s6, s7, s8, s9, s10, s11, s12⟩ := hS; go_simp)⟩) hHeld ?_
  simp only [Act.put, List.getElem_toArray, List.getElem_cons_zero, List.getElem_cons_succ, List.setIfInBounds_toArray, List.set_cons_zero, List.set_cons_succ]
  refine wpAnyH_take (i := 17) (v := .pointer (some ⟨bn, 0, none⟩)) rfl (by kernel_rfl) (by kernel_rfl) (by kernel_rfl) (fun _ _ _ h => h) (Or.inl ⟨by rfl, (by intro w' hS; obtain ⟨s1, s2, s3, s4, s5, s6, s7, s8, s9, s10, s11, s12⟩ := hS; go_simp)⟩) hHeld ?_
  simp only [Act.put, List.getElem_toArray, List.getElem_cons_zero, List.getElem_cons_succ, List.setIfInBounds_toArray, List.set_cons_zero, List.set_cons_succ]
  refine wpAnyH_take (i := 18) (v := .string ⟨#[110]⟩) rfl (by kernel_rfl) (by kernel_rfl) (by kernel_rfl) (fun _ _ _ h => h) (Or.inl ⟨by rfl, (by intro w' hS; obtain ⟨s1, s2, s3, s4, s5, s6, s7, s8, s9, s10, s11, s12⟩ := hS; go_simp)⟩) hHeld ?_
  simp only [Act.put, List.getElem_toArray, List.getElem_cons_zero, List.getElem_cons_succ, List.setIfInBounds_toArray, List.set_cons_zero, List.set_cons_succ]
  refine wpAnyH_take (i := 19) (v := .agg #[.pointer none, .string ⟨#[110]⟩]) rfl (by kernel_rfl) (by kernel_rfl) (by kernel_rfl) (fun _ _ _ h => h) (Or.inl ⟨by rfl, (by intro w' hS; obtain ⟨s1, s2, s3, s4, s5, s6, s7, s8, s9, s10, s11, s12⟩ := hS; go_simp)⟩) hHeld ?_
  simp only [Act.put, List.getElem_toArray, List.getElem_cons_zero, List.getElem_cons_succ, List.setIfInBounds_toArray, List.set_cons_zero, List.set_cons_succ]
  refine wpAnyH_ready (rs := [20]) (by kernel_rfl) (by simp) ?_
  refine AllReadyH.cons rfl (fun K hK => ?_) ?_
  · rw [if_pos (by rfl)]
    go_simp
    refine hK.out _ _ hSA.out (fun hHeld => ?_)
    clear hK K
    try simp only [Act.put, List.getElem_toArray, List.getElem_cons_zero, List.getElem_cons_succ, List.setIfInBounds_toArray, List.set_cons_zero, List.set_cons_succ]
    refine wpAnyH_ready (rs := [21]) (by kernel_rfl) (by simp) ?_
    refine AllReadyH.cons rfl (fun K hK => ?_) ?_
    · rw [if_pos (by rfl)]
      go_simp
      refine hk.out.mono ?_
      rintro e W3 he
      have hq := hfin.out e W3 he
      obtain ⟨rfl, -⟩ := he
      exact ⟨rfl, hq⟩
    exact AllReadyH.nil
  exact AllReadyH.nil
end Go.Proofs.YtbcfkajcmbckbaaGreatDoor
