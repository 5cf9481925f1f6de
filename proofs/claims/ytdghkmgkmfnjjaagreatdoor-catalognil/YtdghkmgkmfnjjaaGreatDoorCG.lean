import Derived.Test.YtdghkmgkmfnjjaaGreatDoorCF
import Derived.Test.YtdghkmgkmfnjjaaGreatDoorJN
import Derived.BigQuiet
import Derived.Deep.Cut
/-! Documents are changed. -/
namespace Go.Proofs.YtdghkmgkmfnjjaaGreatDoor
open Go Go.RowKit Go.Maps

set_option maxHeartbeats 1000000 in
set_option maxRecDepth 100000 in
theorem check_nil (k x : Int) (s : ByteArray) (an : Option Addr) (ln cn : Nat) (ai : Option Addr) (li ci : Nat) (w : World) : Calls Tryz.prog 58 #[.pointer none, .agg #[.int .i64 k, .int .i64 x, .string s, .slice an ln cn, .slice ai li ci]] w fun e w' => e = .returned (.int .i64 0) ∧ Below w.heap.size w w' := by
  go_enter Tryz.func58, Tryz.ntmps58
  go_upto_region 1 with fail
  go_quiet (fail)
  go_wp2_with fail
  go_ret
  exact ⟨rfl, below_drewN ((Below.refl _ w).alloc (Nat.le_refl _) _) _⟩
theorem ne_coll {w : World} {kb a : Nat} {cnt : Int} {ix v : Value} (hk : CollAt w kb cnt ix) (h : w.cell? ⟨a, 0, none⟩ = some v) (hv : v ≠ .string nameC) : a ≠ kb := fun e => by
  subst e
  have h1 := hk.at 0
  rw [h] at h1
  exact hv (Option.some.inj h1)
theorem coll_cnt {w : World} {kb : Nat} {cnt : Int} {ix : Value} (h : CollAt w kb cnt ix) (m : Int) : CollAt (w.setCell ⟨kb, 1, none⟩ (.int .i64 m)) kb m ix := by
  unfold CollAt at h ⊢
  simp [World.setCell, Array.getElem?_modify, h]
/-- An item in a block. -/
theorem item_at {w : World} {B : Nat} {c0 c1 c2 c3 c4 c5 c6 : Value} {t : TypeId} (h : w.heap[B]? = some (.cells #[c0, c1, c2, c3, c4, c5, c6] t (0, 0))) : w.cell? ⟨B, 2, none⟩ = some c2 ∧ w.cell? ⟨B, 3, none⟩ = some c3 ∧ w.cell? ⟨B, 4, none⟩ = some c4 ∧ w.cell? ⟨B, 5, none⟩ = some c5 ∧ w.cell? ⟨B, 6, none⟩ = some c6 := by
  refine ⟨?_, ?_, ?_, ?_, ?_⟩
  all_goals simp [World.cell?, h]
/-- An index of the two entries. -/
def IxTwo (w : World) (yb : Nat) : Prop := ∃ lo bp cp e1 e2, Ix2 w lo yb ⟨#[110]⟩ ⟨#[116]⟩ (.slice (some ⟨bp, 0, none⟩) 1 cp) e1 e2 5 7 ⟨#[98]⟩ ⟨#[97]⟩
theorem IxTwo.keep {w w' : World} {yb : Nat} (h : IxTwo w yb) (hb : Below w.heap.size w w') : IxTwo w' yb := by
  obtain ⟨lo, bp, cp, e1, e2, h1⟩ := h
  exact ⟨lo, bp, cp, e1, e2, h1.keep hb⟩
theorem ix2_grown {w w' : World} {lo yb kb : Nat} {nm pt : ByteArray} {pv ix : Value} {cnt : Int} {e1 e2 : Nat} {x1 x2 : Int} {k1 k2 : ByteArray} (h : Ix2 w lo yb nm pt pv e1 e2 x1 x2 k1 k2) (hg : w.grownBy w' (some kb)) (hk : CollAt w kb cnt ix) : Ix2 w' lo yb nm pt pv e1 e2 x1 x2 k1 k2 := by
  obtain ⟨g, c, kv, h1, h2, h3, h4⟩ := h
  have key : ∀ {b : Nat} {cs : Array Value} {t : TypeId}, w.heap[b]? = some (.cells cs t (0, 0)) → t ≠ 67 → w'.heap[b]? = w.heap[b]? := fun {b cs t} hb ht => hg.block b (Array.getElem?_eq_some_iff.1 hb).1 (fun e => by
    cases e
    unfold CollAt at hk
    rw [hk] at hb
    cases hb
    exact ht rfl)
  refine ⟨g, c, kv, (key h1 (by decide)).trans h1, ownsRow_keep h2 (fun q hq => ?_), (key h3 (by decide)).trans h3, (key h4 (by decide)).trans h4⟩
  obtain ⟨cur, r, hh⟩ := own_type h2 hq
  refine hg.block q (Array.getElem?_eq_some_iff.1 hh).1 (fun e => ?_)
  cases e
  unfold CollAt at hk
  rw [hk] at hh
  cases hh
set_option maxHeartbeats 4000000 in
set_option maxRecDepth 100000 in
theorem change_ixs (kb xb gn bn bi bn' bi' : Nat) (cnt : Int) (w : World) (h : Coll1 w kb cnt xb) (hX : Ix0 w xb) (hR : w.heap[gn]? = some (nowC bn bi bn' bi')) (hn1 : w.cell? ⟨bn, 0, none⟩ = some (.string nameA)) (hI1 : NumAt w bi 0 5) (hn2 : w.cell? ⟨bn', 0, none⟩ = some (.string nameA)) (hI2 : NumAt w bi' 0 7) :
    Calls Tryz.prog 59 #[.pointer (some ⟨kb, 0, none⟩), .slice none 0 0, .slice (some ⟨gn, 0, none⟩) 2 2] w fun e w' => ∃ yb, e = .returned (.int .i64 0) ∧ w.grownBy w' (some kb) ∧ Coll1 w' kb cnt yb ∧ IxTwo w' yb := by
  obtain ⟨i5, hi5, hz0, hz1, hz2⟩ := info_parts AI
  obtain ⟨g, c, hK, hc, hgk⟩ := h
  obtain ⟨bp, cp, ge, gk, hI, hp⟩ := hX
  have k0 := hK.at 12
  have hch := hid_of (change2 ge gk xb gn bn bi bn' bi' bp cp _ _ w hI hp hR hn1 hI1 hn2 hI2)
  replace hK := hid_of hK
  clear hI hp hR hn1 hI1 hn2 hI2
  go_enter Tryz.func59, Tryz.ntmps59
  go_wp2_with fail
  refine wp_loop_rounds 2 ?_
  rw [rounds_succ]
  go_wp2_with fail
  refine hch.out.mono ?_
  rintro e X3 ⟨hb3, yb, e1, e2, rfl, hY⟩
  have hK3 := hK.out.keep hb3
  have hkb := hid_of (lt_of_cell (hK3.at 0))
  replace hK3 := hid_of hK3
  replace hY := hid_of hY
  replace hb3 := hid_of hb3
  clear hch k0 hc hK
  go_wp2_with (at_builtin; refine wpList_append_lies _ rfl _ _ 65 rfl X3.heap.size 68 i5 _ 1 8 Tryz.underlying65 hi5 hz0 hz1 hz2 rfl (by decide) _ 0 ([] : List Value) rfl (World.ownsRow_nil _ _ _ _) _ 1 1 [.pointer (some ⟨yb, 0, none⟩)] rfl rfl (World.news_of_block (heap_new' rfl)) (by simp [Value.oneCell']) (by decide) (by unfold maxLen; omega) (by omega) (by simp) _ rfl ?_; intro g2 cap2 X4 hown2 hgrow2 hat2 hlt2; have hb4 := ((Below.refl _ X3).alloc (Nat.le_refl _) _).trans (grown_below hgrow2 (by simp) (fun g hg => by cases hg)); have hK4 := hK3.out.keep hb4; have k4 := hK4.at 12; have kf4 := hK4.fz 12; replace hK4 := hid_of hK4; replace hb4 := hid_of hb4; have hO := hid_of hown2; clear hgrow2 hat2 hlt2 hown2 hK3)
  rw [rounds_succ]
  go_wp2_with fail
  go_ret
  have hB4 := hb3.out.trans (hb4.out.mono hb3.out.size)
  have hY4 := hY.out.keep hb4.out
  have hg1 : X3.heap.size ≤ g2 := (ownsRow_ge hO.out rfl).1
  have lkb : kb < X3.heap.size := hkb.out
  have n1 : g2 ≠ kb := by omega
  have hS := grown_set X4 kb 12 (.slice (some ⟨g2, 0, none⟩) 1 cap2)
  exact ⟨yb, rfl, grown_below_any hB4 hS, ⟨g2, cap2, coll_set hK4.out _, (World.cell?_of_block (w := X4) (a := ⟨g2, 0, none⟩) (Below.heap_setCell _ _ _ _ n1)).trans (hO.out.cellAt 0 (by simp)), n1⟩, _, bp, cp, e1, e2, ix2_grown hY4 hS hK4.out⟩
end Go.Proofs.YtdghkmgkmfnjjaaGreatDoor
