import Derived.Test.YthgnkhpomhcdkaaGreatDoorNK
import Derived.Test.YthgnkhpomhcdkaaGreatDoorNB
import Derived.Test.YthgnkhpomhcdkaaGreatDoorOY
import Derived.Test.YthgnkhpomhcdkaaGreatDoorED
/-! update: Document, and laid. -/
namespace Go.Proofs.YthgnkhpomhcdkaaGreatDoor
open Go Go.RowKit Dp

/-- What is laid from the start. -/
structure EnvU (w : World) : Prop where
  tabs : Lib.Utf8Tabs 2 3 w
  mx : ∃ m, w.cell? ⟨1, 0, none⟩ = some (.int .i64 m)
  et : w.cell? ⟨0, 0, none⟩ = some (.iface 149 (.agg #[.pointer (some ⟨7, 44, none⟩)]))
  big : 4 ≤ w.heap.size
theorem EnvU.keep {w w' : World} (h : EnvU w) (hb : Below w.heap.size w w') : EnvU w' :=
  ⟨utf_below h.tabs hb h.big, h.mx.imp fun _ hm => stay hb hm, stay hb h.et, Nat.le_trans h.big hb.size⟩
theorem size_few (t : Tr) (B : Nat) (u : V5) (w : World) (hV : VRep w t u.cs) (hS : SmallT t) (hc : checkT 0 t = 0) (hsh : Sh B t) (hE : EnvU w) :
    Calls Tryz.prog 59 #[u.v] w (Few B w) := by
  have hck := fun o => hid_of (check_code t u.k u.x u.s u.an u.ln u.cn u.ai u.li u.ci (w.alloc o) (VRep.keep ((Below.refl _ w).alloc (Nat.le_refl _) o) _ _ hV) hS (utf_below hE.tabs ((Below.refl _ w).alloc (Nat.le_refl _) o) hE.big) (by have := hE.big; simp; omega))
  rw [hc] at hck
  have HV : Hid (VRep w t u.cs) := hV
  have HS : Hid (Sh B t) := hsh
  clear hV hS hc hE hsh
  unfold V5.v
  go_enter Tryz.func59, Tryz.ntmps59
  go_wp2_with fail
  refine (hck _).out.mono ?_
  rintro e w1 ⟨rfl, hb1⟩
  have C0 := block_keep (heap_alloc_new w (u.obj 28)) hb1
  have HB := hid_of (((Below.refl _ w).alloc (Nat.le_refl _) _).trans (hb1.mono (by simp)))
  clear hb1 hck
  obtain ⟨z0, z1, z2, z3, z4⟩ := box_five C0 (Below.refl _ w1)
  have hl := hid_of (HS.out u.cs w1 (VRep.keep HB.out _ _ HV.out))
  unfold V5.cs five at hl
  replace C0 := hid_of C0
  go_wp2_with fail
  refine hl.out.mono ?_
  rintro e w2 ⟨n, rfl, hn, hb2⟩
  have HB2 := hid_of (HB.out.trans (hb2.mono HB.out.size))
  replace hn := hid_of hn
  clear hb2 hl z0 z1 z2 z3 z4 C0 HB
  go_wp2_with fail
  go_ret
  exact ⟨n, rfl, hn.out, HB2.out⟩
theorem doc_ok (t : Tr) (B : Nat) (hBB : B ≤ 16384) (u : V5) (w : World) (hk : u.k = 6) (hV : VRep w t u.cs) (hS : SmallT t) (hc : checkT 0 t = 0) (hsh : Sh B t) (hE : EnvU w) :
    Calls Tryz.prog 27 #[u.v] w fun e w' => e = .returned (.int .i64 0) ∧ Below w.heap.size w w' := by
  have hck := fun o => hid_of (check_code t u.k u.x u.s u.an u.ln u.cn u.ai u.li u.ci (w.alloc o) (VRep.keep ((Below.refl _ w).alloc (Nat.le_refl _) o) _ _ hV) hS (utf_below hE.tabs ((Below.refl _ w).alloc (Nat.le_refl _) o) hE.big) (by have := hE.big; simp; omega))
  rw [hc] at hck
  have hsz := fun w1 (hb : Below w.heap.size w w1) => hid_of (size_few t B u w1 (VRep.keep hb _ _ hV) hS hc hsh (hE.keep hb))
  clear hV hS hc hE hsh
  obtain ⟨k, x, s, an, ln, cn, ai, li, ci⟩ := u
  simp only at hk
  subst hk
  unfold V5.v at *
  simp only at *
  go_enter Tryz.func27, Tryz.ntmps27
  go_wp2_with fail
  refine (hck _).out.mono ?_
  rintro e w1 ⟨rfl, hb1⟩
  have C0 := block_keep (heap_alloc_new w (.cells #[.int .i64 6, .int .i64 x, .string s, .slice an ln cn, .slice ai li ci] 28)) hb1
  have HB := hid_of (((Below.refl _ w).alloc (Nat.le_refl _) _).trans (hb1.mono (by simp)))
  clear hb1 hck
  obtain ⟨z0, z1, z2, z3, z4, -⟩ := row_cells C0
  have hl := hsz w1 HB.out
  replace C0 := hid_of C0
  clear hsz
  go_wp2_with fail
  refine hl.out.mono ?_
  rintro e w2 ⟨n, rfl, hn, hb2⟩
  have HB2 := hid_of (HB.out.trans (hb2.mono HB.out.size))
  have d1 : decide ((n : Int) > 16384) = false := by simp; omega
  replace hn := hid_of hn
  clear hb2 hl z0 z1 z2 z3 z4 C0 HB
  go_wp2_with fail
  go_ret
  exact ⟨rfl, HB2.out⟩
end Go.Proofs.YthgnkhpomhcdkaaGreatDoor
