import Derived.Test.YtbcfkajcmbckbaaGreatDoorUG
import Derived.Test.YtbcfkajcmbckbaaGreatDoorTJ
import Derived.Test.YtbcfkajcmbckbaaGreatDoorC2
import Derived.Test.YtbcfkajcmbckbaaGreatDoorLK
import Derived.Test.YtbcfkajcmbckbaaGreatDoorRA3
/-! The law's helpers: large, Rules; the document's Read. -/
namespace Go.Proofs.YtbcfkajcmbckbaaGreatDoor
open Go Go.RowKit

/-- One of the two. -/
def SomeBool (e : Ending) : Prop := ∃ z, e = .returned (.bool z)
set_option maxHeartbeats 4000000 in
set_option maxRecDepth 100000 in
theorem large_any (a : Option Addr) (c : Nat) (its : List Tr) (w : World) (hI : Hid (RowT w a its)) (hl : its.length ≤ 1759218604390) :
    Calls Tryz.prog 6 #[.slice a its.length c] w fun e w' => SomeBool e ∧ Below w.heap.size w w' := by
  go_enter Tryz.func6, Tryz.ntmps6
  go_wp2_with fail
  go_loopw [3, 4] (fun n i wr => ∃ (q : Nat) (z : Int), q ≤ its.length ∧ i = .int .i64 q ∧ n = .int .i64 z ∧ Hid (Below w.heap.size w wr)) (fun _ i _ => its.length - (intOf i).toNat)
  case atStart => exact ⟨0, 0, Nat.zero_le _, rfl, rfl, Below.refl _ _⟩
  case round =>
    obtain ⟨q, z, hq, rfl, rfl, hB⟩ := hrel
    have hqb : (q : Int) ≤ 1759218604390 := by omega
    by_cases hlt : q < its.length
    · obtain ⟨t, ht⟩ : ∃ t, Hid (its[q]? = some t) := ⟨_, hid_e (List.getElem?_eq_getElem hlt)⟩
      obtain ⟨g, o, hai, hg, hV⟩ := hI.out.resolve_left (by intro e; subst e; simp at hlt)
      obtain ⟨cs, hCs, hr⟩ := VRepL.at its o q t hV ht.out
      obtain ⟨v, rfl⟩ := vrep_v5 hr
      have hcall := hid_of (parts_any t v.cs 3000 wr (VRep.keep hB.out _ _ hr))
      unfold V5.cs five at hCs hcall
      have z0 := stay hB.out (hCs 0 _ rfl)
      have z1 := stay hB.out (hCs 1 _ rfl)
      have z2 := stay hB.out (hCs 2 _ rfl)
      have z3 := stay hB.out (hCs 3 _ rfl)
      have z4 := stay hB.out (hCs 4 _ rfl)
      simp only [Nat.add_zero] at z0
      have hi : (q : Int) < (its.length : Int) := by omega
      rw [hai]
      clear hV hCs hr hg hai
      go_wp2_with fail
      refine hcall.out.mono ?_
      rintro e W ⟨⟨n, rfl⟩, hb⟩
      have hB2 := hid_of (hB.out.trans (hb.mono hB.out.size))
      clear hb z0 z1 z2 z3 z4 hcall
      go_wp2_with fail
      go_roundw
      case rel => exact ⟨q + 1, _, by omega, by go_num, rfl, hB2⟩
      case measure => simp [intOf]; omega
    · have hi : ¬ (q : Int) < (its.length : Int) := by omega
      clear hlt
      go_wp2_with fail
      go_ret
      exact ⟨show SomeBool _ from ⟨_, rfl⟩, hB.out⟩
/-- How many rules the document tells of. -/
def rulesZ (t : Tr) : Nat := if checkT 0 t = 0 then (schemaS 0 0 t).1 else 0
set_option maxHeartbeats 4000000 in
set_option maxRecDepth 100000 in
theorem read_any (t : Tr) (u : V5) (w : World) (hV : Hid (VRep w t u.cs)) (hS : Hid (SmallT t)) (hR : Hid (RangeT t)) :
    Calls Tryz.prog 8 #[u.v] w fun e w' => e = .returned (.tuple #[.int .i64 (parseZ t), .int .i64 ((rulesZ t : Nat) : Int)]) ∧ Below w.heap.size w w' := by
  have hB0 := hid_of ((Below.refl _ w).alloc (Nat.le_refl _) (u.obj 25))
  obtain ⟨x0, x1, x2, x3, x4, -⟩ := row_cells (heap_alloc_new w (u.obj 25))
  have hck := hid_of (Chk.ref_check t u.k u.x u.s u.an u.ln u.cn u.ai u.li u.ci (w.alloc (u.obj 25)) (VRep.keep hB0.out _ _ hV.out) hS.out)
  obtain ⟨c, hc⟩ : ∃ c, Hid (checkT 0 t = c) := ⟨_, rfl⟩
  rw [hc.out] at hck
  unfold V5.obj at *
  unfold V5.v
  go_enter Tryz.func8, Tryz.ntmps8
  go_wp2_with fail
  generalize w.alloc (.cells #[.int .i64 u.k, .int .i64 u.x, .string u.s, .slice u.an u.ln u.cn, .slice u.ai u.li u.ci] 25) = X0 at *
  refine hck.out.mono ?_
  rintro e W1 ⟨rfl, hb1⟩
  have y0 := stay hb1 x0; have y1 := stay hb1 x1; have y2 := stay hb1 x2; have y3 := stay hb1 x3; have y4 := stay hb1 x4
  have hB1 := hid_of (hB0.out.trans (hb1.mono hB0.out.size))
  clear x0 x1 x2 x3 x4 hck hb1
  by_cases h0 : c = 0
  · subst h0
    have hNm := hid_of (names_of 0 t hc.out)
    have hpz : Hid (parseZ t = (schemaS 0 0 t).2) := by rw [Hid]; unfold parseZ; rw [if_pos hc.out]
    have hrz : Hid (rulesZ t = (schemaS 0 0 t).1) := by rw [Hid]; unfold rulesZ; rw [if_pos hc.out]
    have hO2 := hid_of ((Below.refl W1.heap.size W1).alloc (Nat.le_refl _) (.cells #[.int .i64 0, .int .i64 0] 51))
    have q0 := stay hO2.out y0; have q1 := stay hO2.out y1; have q2 := stay hO2.out y2; have q3 := stay hO2.out y3; have q4 := stay hO2.out y4
    have hB2 := hid_of (hB1.out.trans (hO2.out.mono hB1.out.size))
    have hcall := hid_of (rdOk w t 0 0 W1.heap.size u (W1.alloc (.cells #[.int .i64 0, .int .i64 0] 51)) (by decide) (by decide) hV.out hS.out hNm.out hR.out ⟨hB1.out.size, hB2.out⟩ (heap_alloc_new W1 _))
    unfold V5.v at hcall
    go_wp2_with fail
    refine hcall.out.mono ?_
    rintro e W3 ⟨rfl, hc3, hF3, -⟩
    have hB3 : Hid (Below w.heap.size w W3) := hB2.out.trans (hF3.below hB2.out.size (fun i e => by subst e; exact hB1.out.size))
    obtain ⟨c0, c1, -, -⟩ := hc3.cells
    generalize schemaS 0 0 t = R at c0 c1 hpz hrz
    clear hc3 hcall hF3 y0 y1 y2 y3 y4 q0 q1 q2 q3 q4
    go_upto_region 6 with fail
    go_quiet (fail)
    go_wp2_with fail
    go_ret2
    exact ⟨by rw [hpz.out, hrz.out]; rfl, below_drewN hB3.out _⟩
  · have hb : (c != 0) = true := by simp [h0]
    have hpz : Hid (parseZ t = c) := by rw [Hid]; unfold parseZ; rw [hc.out, if_neg h0]
    have hrz : Hid (rulesZ t = 0) := by rw [Hid]; unfold rulesZ; rw [hc.out, if_neg h0]
    go_wp2_with fail
    go_ret2
    exact ⟨by rw [hpz.out, hrz.out]; rfl, hB1.out⟩
end Go.Proofs.YtbcfkajcmbckbaaGreatDoor
