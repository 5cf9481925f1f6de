import Derived.Test.YtgjemghfejaifaaGreatDoorTB
/-! schema: properties: the members that have one. -/
namespace Go.Proofs.YtgjemghfejaifaaGreatDoor
open Go Go.RowKit

def wN : ByteArray := ⟨#[110]⟩
def zeroS : ByteArray := ⟨#[]⟩
/-- An object of one member. -/
def objU (bn bi : Nat) : V5 := ⟨6, 0, ⟨#[]⟩, some ⟨bn, 0, none⟩, 1, 1, some ⟨bi, 0, none⟩, 1, 1⟩
/-- {"n": x} in memory. -/
structure DocN (w : World) (bn bi : Nat) (x : Int) : Prop where
  name : w.cell? ⟨bn, 0, none⟩ = some (.string wN)
  i0 : w.cell? ⟨bi, 0, none⟩ = some (.int .i64 3)
  i1 : w.cell? ⟨bi, 1, none⟩ = some (.int .i64 x)
  i2 : w.cell? ⟨bi, 2, none⟩ = some (.string ⟨#[]⟩)
  i3 : w.cell? ⟨bi, 3, none⟩ = some (.slice none 0 0)
  i4 : w.cell? ⟨bi, 4, none⟩ = some (.slice none 0 0)
theorem DocN.keep {w w' : World} {bn bi : Nat} {x : Int} (h : DocN w bn bi x) (hb : Below w.heap.size w w') : DocN w' bn bi x := ⟨stay hb h.name, stay hb h.i0, stay hb h.i1, stay hb h.i2, stay hb h.i3, stay hb h.i4⟩
theorem members_obj (bn bi : Nat) (w : World) : Calls Tryz.prog 100 #[(objU bn bi).v] w fun e w' => e = .returned (.slice (some ⟨bn, 0, none⟩) 1 1) ∧ Below w.heap.size w w' := by
  have hb := (Below.refl _ w).alloc (Nat.le_refl _) ((objU bn bi).obj 25)
  unfold V5.obj objU at hb
  simp only at hb
  unfold V5.v objU
  simp only
  go_enter Tryz.func100, Tryz.ntmps100
  go_wp2_with fail
  go_ret
  exact ⟨rfl, hb⟩
/-- The properties' value. -/
def propsV (mb r1 p1 c1 : Nat) : Value := .agg #[.map (some mb), .slice (some ⟨r1, p1, none⟩) 1 c1]
theorem AM : (Tryz.prog.info? 164).map (fun i => (i.zero, i.size, i.bytes)) = some (some (.agg #[.int .i64 0, .int .i64 0]), 2, 16) := by kernel_rfl
theorem look_n {w : World} {mb : Nat} (h : NumsAt w mb 1 (numsD [wN])) : (Instr.lookup 97 (.map (some mb)) (.string wN) true).run Tryz.prog w = .ok (.tuple #[.int .i64 0, .bool true]) w := by
  have hkey := key_big wN (by decide)
  obtain ⟨v, ps, hrun, hv⟩ := World.ownsMap.look_ok h law9 Tryz.underlying97 (Tryz.zeroValue3 w) (zd := .lit (.int .i64 0)) (zp := []) (plainElem_int Tryz.underlying3 (by decide)) hkey
  have e1 : Maps.has (numsD [wN]) (keyL wN) = true := by kernel_rfl
  have e2 : (numsD [wN]).atKey (keyL wN) (.lit (.int .i64 0)) = .lit (.int .i64 0) := by kernel_rfl
  rw [e1] at hrun
  rw [e2] at hv
  obtain ⟨a, rfl, ha, -⟩ := plainElem_int_inv Tryz.underlying3 hv
  simp only [Prod.mk.injEq, DataW.lit.injEq, Lit.int.injEq, true_and] at ha
  rw [← ha.1] at hrun
  exact hrun
set_option maxHeartbeats 2000000 in
set_option maxRecDepth 100000 in
theorem named_n (mb r1 p1 c1 bn bi : Nat) (w : World) (hN : NumsAt w mb 1 (numsD [wN])) (hn : w.cell? ⟨bn, 0, none⟩ = some (.string wN)) :
    Calls Tryz.prog 103 #[propsV mb r1 p1 c1, (objU bn bi).v] w fun e w' => Below w.heap.size w w' ∧ ∃ g c, e = .returned (.slice (some ⟨g, 0, none⟩) 1 c) ∧ 1 ≤ c ∧ w.heap.size ≤ g ∧ w'.cell? ⟨g, 0, none⟩ = some (.int .i64 0) ∧ w'.cell? ⟨g, 1, none⟩ = some (.int .i64 0) := by
  obtain ⟨ri, hri, hri1, hri2, hri3⟩ := info_parts AM
  have hb0 := (Below.refl _ w).alloc (Nat.le_refl _) (.cells #[.map (some mb), .slice (some ⟨r1, p1, none⟩) 1 c1] 105)
  have hb1 := hb0.alloc hb0.size ((objU bn bi).obj 25)
  have hm := fun W => hid_of (members_obj bn bi W)
  have x0 : ((w.alloc (.cells #[.map (some mb), .slice (some ⟨r1, p1, none⟩) 1 c1] 105)).alloc ((objU bn bi).obj 25)).cell? ⟨w.heap.size, 0, none⟩ = some (.map (some mb)) := cell_alloc' ((cell_of (heap_alloc_new w _) 0).trans rfl) _
  have hN1 : NumsAt _ mb 1 (numsD [wN]) := hN.keep (hb1.block _ hN.lt)
  have n1 := stay hb1 hn
  unfold propsV
  unfold V5.obj V5.v objU at *
  simp only at *
  go_enter Tryz.func103, Tryz.ntmps103
  go_wp2_with fail
  generalize (w.alloc (.cells #[.map (some mb), .slice (some ⟨r1, p1, none⟩) 1 c1] 105)).alloc (.cells #[.int .i64 6, .int .i64 0, .string ⟨#[]⟩, .slice (some ⟨bn, 0, none⟩) 1 1, .slice (some ⟨bi, 0, none⟩) 1 1] 25) = X at *
  refine (hm _).out.mono ?_
  rintro e W ⟨rfl, hb⟩
  have hB := hid_of (hb1.trans (hb.mono hb1.size))
  have y0 := stay hb x0
  have yn := stay hb n1
  have hlk := look_n (hN1.keep (hb.block _ hN1.lt))
  clear hb x0 n1 hN1 hm hb0 hb1 hN hn
  unfold wN at *
  go_wp2_with fail
  refine wp_loop_rounds 2 ?_
  rw [rounds_succ]
  have hsrc := hid_of (Src.of_block (P := Tryz.prog) (size := 2) Tryz.underlying161 (heap_alloc_new W (.cells #[.int .i64 0, .int .i64 0] 164)) 1 1 rfl (by intro u hu; simp at hu; subst hu; rfl))
  have hBa := hid_of (hB.out.alloc hB.out.size (.cells #[.int .i64 0, .int .i64 0] 164))
  have hRw := hid_of (Rw.nil (W.alloc (.cells #[.int .i64 0, .int .i64 0] 164)) w.heap.size 2 none)
  go_wp2_with (at_builtin; refine wpList_append_rw _ rfl _ _ 161 rfl 164 ri _ 2 16 Tryz.underlying161 hri hri1 hri2 hri3 rfl w.heap.size none 0 0 [] rfl hRw.out.len hRw.out.le hRw.out.mx hRw.out.rd _ rfl 1 _ hsrc.out (fun _ => hRw.out) (by decide) (by decide) (by decide) hBa.out.size ?_; intro g o2 c2 W3 hA; replace hA := hid_of hA)
  obtain ⟨c0', c1'⟩ : (∃ b o, some (⟨g, o2, none⟩ : Addr) = some ⟨b, o, none⟩ ∧ w.heap.size ≤ b ∧ W3.cell? ⟨b, o + 0, none⟩ = some (.int .i64 0)) ∧ (∃ b o, some (⟨g, o2, none⟩ : Addr) = some ⟨b, o, none⟩ ∧ w.heap.size ≤ b ∧ W3.cell? ⟨b, o + 1, none⟩ = some (.int .i64 0)) := ⟨hA.out.row.cell (j := 0) rfl, hA.out.row.cell (j := 1) rfl⟩
  have ho2 : o2 = 0 := by
    rcases hA.out.at' with ⟨h1, -, h2⟩ | ⟨-, h, -⟩
    · cases h1
    · exact h
  subst ho2
  have hfin : Hid (Below w.heap.size w W3 ∧ w.heap.size ≤ g ∧ 1 ≤ c2 ∧ W3.cell? ⟨g, 0, none⟩ = some (.int .i64 0) ∧ W3.cell? ⟨g, 1, none⟩ = some (.int .i64 0)) := by
    obtain ⟨b, o, e, h1, h2⟩ := c0'
    cases e
    obtain ⟨b, o, e, h3, h4⟩ := c1'
    cases e
    refine ⟨hBa.out.trans (hA.out.fr.below hBa.out.size (fun i hi => ?_)), h1, hA.out.row.le, h2, h4⟩
    obtain ⟨⟨o', s', e⟩, -⟩ := hi
    cases e
  clear hA hsrc hRw hBa c0' c1' hlk y0 yn
  rw [rounds_succ]
  go_wp2_with fail
  go_ret
  obtain ⟨h1, h2, h3, h4, h5⟩ := hfin.out
  exact ⟨h1, g, c2, rfl, h3, h2, h4, h5⟩
end Go.Proofs.YtgjemghfejaifaaGreatDoor
/-! schema: properties of one member: kept; sorted. -/
namespace Go.Proofs.YtgjemghfejaifaaGreatDoor
open Go Go.RowKit

set_option maxHeartbeats 1000000 in
set_option maxRecDepth 100000 in
theorem ins_one (g c : Nat) (f : Value) (w : World) : Calls Tryz.prog 109 #[.slice (some ⟨g, 0, none⟩) 1 c, .int .i64 0, .int .i64 1, f] w fun e w' => e = .returned (.tuple #[]) ∧ Below w.heap.size w w' := by
  go_enter Tryz.func109, Tryz.ntmps109
  go_wp2_with fail
  refine wp_loop_rounds 1 ?_
  rw [rounds_succ]
  go_wp2_with fail
  go_end0
  exact ⟨rfl, Below.refl _ _⟩
set_option maxHeartbeats 1000000 in
set_option maxRecDepth 100000 in
theorem stable_one (g c : Nat) (f : Value) (w : World) : Calls Tryz.prog 107 #[.slice (some ⟨g, 0, none⟩) 1 c, .int .i64 1, f] w fun e w' => e = .returned (.tuple #[]) ∧ Below w.heap.size w w' := by
  have hi := fun W => hid_of (ins_one g c f W)
  go_enter Tryz.func107, Tryz.ntmps107
  go_wp2_with fail
  refine wp_loop_rounds 1 ?_
  rw [rounds_succ]
  go_wp2_with fail
  refine (hi _).out.mono ?_
  rintro e W ⟨rfl, hb⟩
  have hB := hid_of hb
  clear hb hi
  go_wp2_with fail
  refine wp_loop_rounds 1 ?_
  rw [rounds_succ]
  go_wp2_with fail
  go_end0
  exact ⟨rfl, hB.out⟩
set_option maxHeartbeats 1000000 in
set_option maxRecDepth 100000 in
theorem sort_one (g c : Nat) (f : Value) (w : World) : Calls Tryz.prog 104 #[.slice (some ⟨g, 0, none⟩) 1 c, f] w fun e w' => e = .returned (.tuple #[]) ∧ Below w.heap.size w w' := by
  have hi := fun W => hid_of (stable_one g c f W)
  go_enter Tryz.func104, Tryz.ntmps104
  go_wp2_with fail
  refine (hi _).out.mono ?_
  rintro e W ⟨rfl, hb⟩
  have hB := hid_of hb
  clear hb hi
  go_wp2_with fail
  go_end0
  exact ⟨rfl, hB.out⟩
/-- A schema's one rule, properties: "n": minimum 1, in memory. -/
structure PropsAt (w : World) (mb r1 p1 r2 p2 c2 : Nat) : Prop where
  nums : NumsAt w mb 1 (numsD [wN])
  sch : w.cell? ⟨r1, p1, none⟩ = some (.slice (some ⟨r2, p2, none⟩) 1 c2)
  min : MinAt w r2 p2
theorem PropsAt.keep {w w' : World} {mb r1 p1 r2 p2 c2 : Nat} (h : PropsAt w mb r1 p1 r2 p2 c2) (hb : Below w.heap.size w w') : PropsAt w' mb r1 p1 r2 p2 c2 := ⟨h.nums.keep (hb.block _ h.nums.lt), stay hb h.sch, h.min.keep hb⟩
set_option maxHeartbeats 4000000 in
set_option maxRecDepth 100000 in
theorem props_keeps (mb r1 p1 c1 r2 p2 c2 bn bi : Nat) (x : Int) (w : World) (h : PropsAt w mb r1 p1 r2 p2 c2) (hD : DocN w bn bi x) :
    Calls Tryz.prog 101 #[propsV mb r1 p1 c1, (objU bn bi).v] w fun e w' => e = .returned (.bool (decide (1 ≤ x))) ∧ Below w.heap.size w w' := by
  have hb0 := (Below.refl _ w).alloc (Nat.le_refl _) (.cells #[.map (some mb), .slice (some ⟨r1, p1, none⟩) 1 c1] 105)
  have hb1 := hid_of (hb0.alloc hb0.size ((objU bn bi).obj 25))
  have n1 := new1 w (.cells #[.map (some mb), .slice (some ⟨r1, p1, none⟩) 1 c1] 105) ((objU bn bi).obj 25)
  have n2 := new2 w (.cells #[.map (some mb), .slice (some ⟨r1, p1, none⟩) 1 c1] 105) ((objU bn bi).obj 25)
  have hnm := hid_of (named_n mb r1 p1 c1 bn bi _ (h.keep hb1.out).nums (hD.keep hb1.out).name)
  obtain ⟨z, hz⟩ : ∃ z, Hid (decide (1 ≤ x) = z) := ⟨_, rfl⟩
  rw [hz.out]
  unfold propsV at *
  unfold V5.obj V5.v objU at *
  simp only at *
  go_enter Tryz.func101, Tryz.ntmps101
  go_wp2_with fail
  refine hnm.out.mono ?_
  rintro e W ⟨hb, g, c, rfl, hc, hg, g0, g1⟩
  have hB := hid_of (hb1.out.trans (hb.mono hb1.out.size))
  have q1 := block_keep n1 hb
  have q2 := block_keep n2 hb
  have hg' := hid_of (lt_of_cell g0)
  clear hnm n1 n2 hb hb0 hb1
  go_wp2_with fail
  refine wp_loop_rounds 2 ?_
  rw [rounds_succ]
  have hB2 := hid_of (hB.out.alloc hB.out.size (.cells #[.int .i64 0, .int .i64 0] 164))
  have k3 := heap_alloc_new W (.cells #[.int .i64 0, .int .i64 0] 164)
  have k1 := (Below.heap_alloc W (.cells #[.int .i64 0, .int .i64 0] 164) _ (Array.getElem?_eq_some_iff.1 q1).1).trans q1
  have k2 := (Below.heap_alloc W (.cells #[.int .i64 0, .int .i64 0] 164) _ (Array.getElem?_eq_some_iff.1 q2).1).trans q2
  go_upto_region 4 with fail
  generalize W.alloc (.cells #[.int .i64 0, .int .i64 0] 164) = W2 at *
  have hP := h.keep hB2.out
  have hDD := hD.keep hB2.out
  have a1 : W2.drew.cell? ⟨w.heap.size, 1, none⟩ = some (.slice (some ⟨r1, p1, none⟩) 1 c1) := cell_of k1 1
  have a2 : W2.drew.cell? ⟨w.heap.size + 1, 4, none⟩ = some (.slice (some ⟨bi, 0, none⟩) 1 1) := cell_of k2 4
  have a3 : W2.drew.cell? ⟨W.heap.size, 0, none⟩ = some (.int .i64 0) := cell_of k3 0
  have a4 : W2.drew.cell? ⟨W.heap.size, 1, none⟩ = some (.int .i64 0) := cell_of k3 1
  have a5 : W2.drew.cell? ⟨r1, p1, none⟩ = some (.slice (some ⟨r2, p2, none⟩) 1 c2) := hP.sch
  have i0 : W2.drew.cell? ⟨bi, 0, none⟩ = some (.int .i64 3) := hDD.i0
  have i1 : W2.drew.cell? ⟨bi, 1, none⟩ = some (.int .i64 x) := hDD.i1
  have i2 : W2.drew.cell? ⟨bi, 2, none⟩ = some (.string ⟨#[]⟩) := hDD.i2
  have i3 : W2.drew.cell? ⟨bi, 3, none⟩ = some (.slice none 0 0) := hDD.i3
  have i4 : W2.drew.cell? ⟨bi, 4, none⟩ = some (.slice none 0 0) := hDD.i4
  have hk := hid_of (min_keeps r2 p2 c2 x W2.drew ⟨hP.min.word, hP.min.rule⟩)
  rw [hz.out] at hk
  unfold numU V5.v at hk
  simp only at hk
  have hB3 : Hid (Below w.heap.size w W2.drew) := below_drew hB2.out
  clear hP hDD k1 k2 k3 q1 q2 g0 g1 h hD hB hB2
  go_region_held3 (fun V => V.cell? ⟨w.heap.size, 1, none⟩ = some (.slice (some ⟨r1, p1, none⟩) 1 c1) ∧ V.cell? ⟨w.heap.size + 1, 4, none⟩ = some (.slice (some ⟨bi, 0, none⟩) 1 1) ∧ V.cell? ⟨W.heap.size, 0, none⟩ = some (.int .i64 0) ∧ V.cell? ⟨W.heap.size, 1, none⟩ = some (.int .i64 0) ∧ V.cell? ⟨r1, p1, none⟩ = some (.slice (some ⟨r2, p2, none⟩) 1 c2) ∧ V.cell? ⟨bi, 0, none⟩ = some (.int .i64 3) ∧ V.cell? ⟨bi, 1, none⟩ = some (.int .i64 x) ∧ V.cell? ⟨bi, 2, none⟩ = some (.string ⟨#[]⟩) ∧ V.cell? ⟨bi, 3, none⟩ = some (.slice none 0 0) ∧ V.cell? ⟨bi, 4, none⟩ = some (.slice none 0 0)) (go_keep) (first
    | (go_at_call 26; refine hk.out.mono ?_; rintro e W3 ⟨rfl, hb3⟩; have b1 := stay hb3 a1; have b2 := stay hb3 a2; have b3 := stay hb3 a3; have b4 := stay hb3 a4; have b5 := stay hb3 a5; have j0 := stay hb3 i0; have j1 := stay hb3 i1; have j2 := stay hb3 i2; have j3 := stay hb3 i3; have j4 := stay hb3 i4; have hB4 := hid_of (hB3.out.trans (hb3.mono hB3.out.size)); clear hb3 a1 a2 a3 a4 a5 i0 i1 i2 i3 i4))
  all_goals
    clear b1 b2 b3 b4 b5 j0 j1 j2 j3 j4 hk
    cases z with
    | true =>
      go_wp2_with fail
      rw [rounds_succ]
      go_wp2_with fail
      go_ret
      exact ⟨rfl, hB4.out⟩
    | false =>
      go_wp2_with fail
      go_ret
      exact ⟨rfl, hB4.out⟩
end Go.Proofs.YtgjemghfejaifaaGreatDoor
