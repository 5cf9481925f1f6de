import Derived.Test.YtoghaanjdpcodaaGreatDoorTB
/-! schema: properties: the members that have one. -/
namespace Go.Proofs.YtoghaanjdpcodaaGreatDoor
open Go Go.RowKit

def wN : ByteArray := ⟨#[110]⟩
def zeroS : ByteArray := ⟨#[]⟩
/-- An object of one member. -/
def objU (bn bi : Nat) : V5 := ⟨6, 0, ⟨#[]⟩, some ⟨bn, 0, none⟩, 1, 1, some ⟨bi, 0, none⟩, 1, 1⟩
/-- {"n": x} in memory. -/
structure DocN (w : World) (bn bi : Nat) (x : Int) : Prop where
  name : w.cell? ⟨bn, 0, none⟩ = some (.string wN)
  i0 : w.cell? ⟨bi, 0, none⟩ = some (.int .i64 3)
  i1 : w.cell? ⟨bi, 1, none⟩ = some (.int .i64 x)
  i2 : w.cell? ⟨bi, 2, none⟩ = some (.string ⟨#[]⟩)
  i3 : w.cell? ⟨bi, 3, none⟩ = some (.slice none 0 0)
  i4 : w.cell? ⟨bi, 4, none⟩ = some (.slice none 0 0)
theorem DocN.keep {w w' : World} {bn bi : Nat} {x : Int} (h : DocN w bn bi x) (hb : Below w.heap.size w w') : DocN w' bn bi x := ⟨stay hb h.name, stay hb h.i0, stay hb h.i1, stay hb h.i2, stay hb h.i3, stay hb h.i4⟩
theorem members_obj (bn bi : Nat) (w : World) : Calls Tryz.prog 83 #[(objU bn bi).v] w fun e w' => e = .returned (.slice (some ⟨bn, 0, none⟩) 1 1) ∧ Below w.heap.size w w' := by
  have hb := (Below.refl _ w).alloc (Nat.le_refl _) ((objU bn bi).obj 28)
  unfold V5.obj objU at hb
  simp only at hb
  unfold V5.v objU
  simp only
  go_enter Tryz.func83, Tryz.ntmps83
  go_wp2_with fail
  go_ret
  exact ⟨rfl, hb⟩
/-- The properties' value. -/
def propsV (mb r1 p1 c1 : Nat) : Value := .agg #[.map (some mb), .slice (some ⟨r1, p1, none⟩) 1 c1]
theorem AM : (Tryz.prog.info? 147).map (fun i => (i.zero, i.size, i.bytes)) = some (some (.agg #[.int .i64 0, .int .i64 0]), 2, 16) := by kernel_rfl
theorem look_n {w : World} {mb : Nat} (h : NumsAt w mb 1 (numsD [wN])) : (Instr.lookup 84 (.map (some mb)) (.string wN) true).run Tryz.prog w = .ok (.tuple #[.int .i64 0, .bool true]) w := by
  have hkey := key_big wN (by decide)
  obtain ⟨v, ps, hrun, hv⟩ := World.ownsMap.look_ok h law9 Tryz.underlying84 (Tryz.zeroValue3 w) (zd := .lit (.int .i64 0)) (zp := []) (plainElem_int Tryz.underlying3 (by decide)) hkey
  have e1 : Maps.has (numsD [wN]) (keyL wN) = true := by kernel_rfl
  have e2 : (numsD [wN]).atKey (keyL wN) (.lit (.int .i64 0)) = .lit (.int .i64 0) := by kernel_rfl
  rw [e1] at hrun
  rw [e2] at hv
  obtain ⟨a, rfl, ha, -⟩ := plainElem_int_inv Tryz.underlying3 hv
  simp only [Prod.mk.injEq, DataW.lit.injEq, Lit.int.injEq, true_and] at ha
  rw [← ha.1] at hrun
  exact hrun
set_option maxHeartbeats 2000000 in
set_option maxRecDepth 100000 in
theorem named_n (mb r1 p1 c1 bn bi : Nat) (w : World) (hN : NumsAt w mb 1 (numsD [wN])) (hn : w.cell? ⟨bn, 0, none⟩ = some (.string wN)) :
    Calls Tryz.prog 86 #[propsV mb r1 p1 c1, (objU bn bi).v] w fun e w' => Below w.heap.size w w' ∧ ∃ g c, e = .returned (.slice (some ⟨g, 0, none⟩) 1 c) ∧ 1 ≤ c ∧ w.heap.size ≤ g ∧ w'.cell? ⟨g, 0, none⟩ = some (.int .i64 0) ∧ w'.cell? ⟨g, 1, none⟩ = some (.int .i64 0) := by
  obtain ⟨ri, hri, hri1, hri2, hri3⟩ := info_parts AM
  have hb0 := (Below.refl _ w).alloc (Nat.le_refl _) (.cells #[.map (some mb), .slice (some ⟨r1, p1, none⟩) 1 c1] 92)
  have hb1 := hb0.alloc hb0.size ((objU bn bi).obj 28)
  have hm := fun W => hid_of (members_obj bn bi W)
  have x0 : ((w.alloc (.cells #[.map (some mb), .slice (some ⟨r1, p1, none⟩) 1 c1] 92)).alloc ((objU bn bi).obj 28)).cell? ⟨w.heap.size, 0, none⟩ = some (.map (some mb)) := cell_alloc' ((cell_of (heap_alloc_new w _) 0).trans rfl) _
  have hN1 : NumsAt _ mb 1 (numsD [wN]) := hN.keep (hb1.block _ hN.lt)
  have n1 := stay hb1 hn
  unfold propsV
  unfold V5.obj V5.v objU at *
  simp only at *
  go_enter Tryz.func86, Tryz.ntmps86
  go_wp2_with fail
  generalize (w.alloc (.cells #[.map (some mb), .slice (some ⟨r1, p1, none⟩) 1 c1] 92)).alloc (.cells #[.int .i64 6, .int .i64 0, .string ⟨#[]⟩, .slice (some ⟨bn, 0, none⟩) 1 1, .slice (some ⟨bi, 0, none⟩) 1 1] 28) = X at *
  refine (hm _).out.mono ?_
  rintro e W ⟨rfl, hb⟩
  have hB := hid_of (hb1.trans (hb.mono hb1.size))
  have y0 := stay hb x0
  have yn := stay hb n1
  have hlk := look_n (hN1.keep (hb.block _ hN1.lt))
  clear hb x0 n1 hN1 hm hb0 hb1 hN hn
  unfold wN at *
  go_wp2_with fail
  refine wp_loop_rounds 2 ?_
  rw [rounds_succ]
  have hsrc := hid_of (Src.of_block (P := Tryz.prog) (size := 2) Tryz.underlying144 (heap_alloc_new W (.cells #[.int .i64 0, .int .i64 0] 147)) 1 1 rfl (by intro u hu; simp at hu; subst hu; rfl))
  have hBa := hid_of (hB.out.alloc hB.out.size (.cells #[.int .i64 0, .int .i64 0] 147))
  have hRw := hid_of (Rw.nil (W.alloc (.cells #[.int .i64 0, .int .i64 0] 147)) w.heap.size 2 none)
  go_wp2_with (at_builtin; refine wpList_append_rw _ rfl _ _ 144 rfl 147 ri _ 2 16 Tryz.underlying144 hri hri1 hri2 hri3 rfl w.heap.size none 0 0 [] rfl hRw.out.len hRw.out.le hRw.out.mx hRw.out.rd _ rfl 1 _ hsrc.out (fun _ => hRw.out) (by decide) (by decide) (by decide) hBa.out.size ?_; intro g o2 c2 W3 hA; replace hA := hid_of hA)
  obtain ⟨c0', c1'⟩ : (∃ b o, some (⟨g, o2, none⟩ : Addr) = some ⟨b, o, none⟩ ∧ w.heap.size ≤ b ∧ W3.cell? ⟨b, o + 0, none⟩ = some (.int .i64 0)) ∧ (∃ b o, some (⟨g, o2, none⟩ : Addr) = some ⟨b, o, none⟩ ∧ w.heap.size ≤ b ∧ W3.cell? ⟨b, o + 1, none⟩ = some (.int .i64 0)) := ⟨hA.out.row.cell (j := 0) rfl, hA.out.row.cell (j := 1) rfl⟩
  have ho2 : o2 = 0 := by
    rcases hA.out.at' with ⟨h1, -, h2⟩ | ⟨-, h, -⟩
    · cases h1
    · exact h
  subst ho2
  have hfin : Hid (Below w.heap.size w W3 ∧ w.heap.size ≤ g ∧ 1 ≤ c2 ∧ W3.cell? ⟨g, 0, none⟩ = some (.int .i64 0) ∧ W3.cell? ⟨g, 1, none⟩ = some (.int .i64 0)) := by
    obtain ⟨b, o, e, h1, h2⟩ := c0'
    cases e
    obtain ⟨b, o, e, h3, h4⟩ := c1'
    cases e
    refine ⟨hBa.out.trans (hA.out.fr.below hBa.out.size (fun i hi => ?_)), h1, hA.out.row.le, h2, h4⟩
    obtain ⟨⟨o', s', e⟩, -⟩ := hi
    cases e
  clear hA hsrc hRw hBa c0' c1' hlk y0 yn
  rw [rounds_succ]
  go_wp2_with fail
  go_ret
  obtain ⟨h1, h2, h3, h4, h5⟩ := hfin.out
  exact ⟨h1, g, c2, rfl, h3, h2, h4, h5⟩
end Go.Proofs.YtoghaanjdpcodaaGreatDoor
