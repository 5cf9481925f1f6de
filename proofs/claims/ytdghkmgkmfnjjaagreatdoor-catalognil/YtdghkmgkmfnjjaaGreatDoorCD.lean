import Derived.Test.YtdghkmgkmfnjjaaGreatDoorQB
import Derived.Test.YtdghkmgkmfnjjaaGreatDoorCC
/-! An index is added. -/
namespace Go.Proofs.YtdghkmgkmfnjjaaGreatDoor
open Go Go.RowKit Go.Maps

theorem ownsRow_form {w : World} {lo : Nat} {e : TypeId} {size n : Nat} {v : Value} {xs : List Value} (h : w.ownsRow lo e size v n xs) : ∃ (a : Option Addr) (cap : Nat), v = .slice a n cap ∧ n ≤ cap ∧ cap ≤ maxLen ∧ (0 < n → ∃ g, a = some ⟨g, 0, none⟩) := by
  obtain ⟨h1, h2⟩ := h
  rcases h2 with ⟨hv, h0⟩ | ⟨g', cap', cur, hv, hg, hh, hc, hm, hs, hr⟩
  · subst h0
    exact ⟨none, 0, hv, by omega, by unfold maxLen; omega, fun h => by omega⟩
  · exact ⟨_, cap', hv, hc, hm, fun _ => ⟨g', rfl⟩⟩
theorem name_n : nameOk ⟨#[110]⟩ = true := by decide +kernel
theorem path_t : parseR ⟨#[116]⟩ 0 [] = ([nameA], 0, (parseR ⟨#[116]⟩ 0 []).2.2) := by decide +kernel
theorem new_nt (w : World) : Calls Tryz.prog 53 #[.agg #[.string ⟨#[110]⟩, .string ⟨#[116]⟩, .bool false]] w fun e w' => Below w.heap.size w w' ∧ ∃ xb bp cp, e = .returned (.tuple #[.pointer (some ⟨xb, 0, none⟩), .int .i64 0]) ∧ IxAt w' xb ⟨#[110]⟩ ⟨#[116]⟩ false (.slice (some ⟨bp, 0, none⟩) 1 cp) (.slice none 0 0) (.slice none 0 0) ∧ w'.cell? ⟨bp, 0, none⟩ = some (.string nameA) := by
  refine (new_any ⟨#[110]⟩ ⟨#[116]⟩ false (by decide) (by decide) w).mono ?_
  rintro e w' ⟨hB, h | h | h⟩
  · rw [name_n] at h; cases h.1
  · exact absurd (by rw [path_t]) h.2.1
  · obtain ⟨-, -, xb, pv, he, hI, hR⟩ := h
    rw [path_t] at hR
    obtain ⟨a, c, rfl, -, -, hg⟩ := ownsRow_form hR
    obtain ⟨g, rfl⟩ := hg (by decide)
    exact ⟨hB, xb, g, c, he, hI, hR.cellAt 0 (by decide)⟩
set_option maxHeartbeats 1000000 in
set_option maxRecDepth 100000 in
theorem ixfunc_none (fid vb : Nat) (w : World) : Calls Tryz.prog 40 #[.slice none 0 0, .func (.func fid) #[] #[.pointer (some ⟨vb, 0, none⟩)]] w fun e w' => e = .returned (.int .i64 (-1)) ∧ w' = w := by
  go_enter Tryz.func40, Tryz.ntmps40
  go_wp2_with fail
  refine wp_loop_rounds 1 ?_
  rw [rounds_succ]
  go_wp2_with fail
  go_ret
  exact ⟨rfl, rfl⟩
set_option maxHeartbeats 1000000 in
set_option maxRecDepth 100000 in
theorem clone_none (w : World) : Calls Tryz.prog 56 #[.slice none 0 0] w fun e w' => e = .returned (.slice none 0 0) ∧ w' = w := by
  have hq : (binOp BinOp.eql 65 (.slice none 0 0) (.slice none 0 0)).run Tryz.prog w = .ok (.bool true) w := by kernel_rfl
  go_enter Tryz.func56, Tryz.ntmps56
  go_wp2_with fail
  go_ret
  exact ⟨rfl, rfl⟩
set_option maxHeartbeats 1000000 in
set_option maxRecDepth 100000 in
theorem place_none (kb : Nat) (cnt : Int) (nm : ByteArray) (w : World) (h : CollAt w kb cnt (.slice none 0 0)) : Calls Tryz.prog 54 #[.pointer (some ⟨kb, 0, none⟩), .string nm] w fun e w' => e = .returned (.int .i64 (-1)) ∧ Below w.heap.size w w' := by
  have c := fun o => (h.keep ((Below.refl _ w).alloc (Nat.le_refl _) o)).at 12
  go_enter Tryz.func54, Tryz.ntmps54
  go_wp2_with fail
  refine (ixfunc_none _ _ _).mono ?_
  rintro e X1 ⟨rfl, hX1⟩
  have hB : Below w.heap.size w X1 := by
    rw [hX1]
    exact (Below.refl _ w).alloc (Nat.le_refl _) _
  clear hX1 c
  go_wp2_with fail
  go_ret
  exact ⟨rfl, hB⟩
theorem spec_at {w : World} {B : Nat} {c0 c1 c2 : Value} {t : TypeId} (h : w.heap[B]? = some (.cells #[c0, c1, c2] t (0, 0))) : w.cell? ⟨B, 0, none⟩ = some c0 ∧ w.cell? ⟨B, 1, none⟩ = some c1 ∧ w.cell? ⟨B, 2, none⟩ = some c2 := by
  refine ⟨?_, ?_, ?_⟩
  all_goals simp [World.cell?, h]
theorem AI : (Tryz.prog.info? 68).map (fun i => (i.zero, i.size, i.bytes)) = some (some (.pointer none), 1, 8) := by kernel_rfl
/-- A collection with one index in a row of its own. -/
def Coll1 (w : World) (kb : Nat) (cnt : Int) (xb : Nat) : Prop := ∃ g c, CollAt w kb cnt (.slice (some ⟨g, 0, none⟩) 1 c) ∧ w.cell? ⟨g, 0, none⟩ = some (.pointer (some ⟨xb, 0, none⟩)) ∧ g ≠ kb
theorem Coll1.keep {w w' : World} {kb xb : Nat} {cnt : Int} (h : Coll1 w kb cnt xb) (hb : Below w.heap.size w w') : Coll1 w' kb cnt xb := by
  obtain ⟨g, c, h1, h2, h3⟩ := h
  exact ⟨g, c, h1.keep hb, stay hb h2, h3⟩
/-- An index of no entries, of the path t. -/
def Ix0 (w : World) (xb : Nat) : Prop := ∃ bp cp ge gk, IxAt w xb ⟨#[110]⟩ ⟨#[116]⟩ false (.slice (some ⟨bp, 0, none⟩) 1 cp) (.slice (some ⟨ge, 0, none⟩) 0 0) (.slice (some ⟨gk, 0, none⟩) 0 0) ∧ w.cell? ⟨bp, 0, none⟩ = some (.string nameA)
theorem Ix0.keep {w w' : World} {xb : Nat} (h : Ix0 w xb) (hb : Below w.heap.size w w') : Ix0 w' xb := by
  obtain ⟨bp, cp, ge, gk, h1, h2⟩ := h
  exact ⟨bp, cp, ge, gk, h1.keep hb, stay hb h2⟩
theorem coll_set {w : World} {kb : Nat} {cnt : Int} {ix : Value} (h : CollAt w kb cnt ix) (v : Value) : CollAt (w.setCell ⟨kb, 12, none⟩ v) kb cnt v := by
  unfold CollAt at h ⊢
  simp [World.setCell, Array.getElem?_modify, h]
theorem CollAt.fz {w : World} {kb : Nat} {cnt : Int} {ix : Value} (h : CollAt w kb cnt ix) (j : Nat) : w.frozen? ⟨kb, j, none⟩ = false := by
  unfold CollAt at h
  simp [World.frozen?, h]
theorem grown_set (w : World) (kb j : Nat) (v : Value) : w.grownBy (w.setCell ⟨kb, j, none⟩ v) (some kb) := ⟨rfl, rfl, rfl, by simp [World.setCell], fun i _ hi => Below.heap_setCell _ _ _ _ (fun e => hi (by rw [e]))⟩
theorem grown_below_any {w w' w'' : World} {kb : Nat} (h : Below w.heap.size w w') (k : w'.grownBy w'' (some kb)) : w.grownBy w'' (some kb) := ⟨k.os.trans h.os, k.tape.trans h.tape, k.output.trans h.output, Nat.le_trans h.size k.size, fun i hi hne => (k.block i (Nat.lt_of_lt_of_le hi h.size) hne).trans (h.block i hi)⟩
set_option maxHeartbeats 4000000 in
set_option maxRecDepth 100000 in
theorem add_index (kb : Nat) (cnt : Int) (w : World) (h : CollAt w kb cnt (.slice none 0 0)) : Calls Tryz.prog 33 #[.pointer (some ⟨kb, 0, none⟩), .agg #[.string ⟨#[110]⟩, .string ⟨#[116]⟩, .bool false], .slice none 0 0] w fun e w' => ∃ xb, e = .returned (.int .i64 0) ∧ w.grownBy w' (some kb) ∧ Coll1 w' kb cnt xb ∧ Ix0 w' xb := by
  obtain ⟨i5, hi5, hz0, hz1, hz2⟩ := info_parts AI
  have hB0 := (Below.refl _ w).alloc (Nat.le_refl _) (.cells #[.string ⟨#[110]⟩, .string ⟨#[116]⟩, .bool false] 27)
  have s0 : (w.alloc (.cells #[.string ⟨#[110]⟩, .string ⟨#[116]⟩, .bool false] 27)).cell? ⟨w.heap.size, 0, none⟩ = some (.string ⟨#[110]⟩) ∧ (w.alloc (.cells #[.string ⟨#[110]⟩, .string ⟨#[116]⟩, .bool false] 27)).cell? ⟨w.heap.size, 1, none⟩ = some (.string ⟨#[116]⟩) ∧ (w.alloc (.cells #[.string ⟨#[110]⟩, .string ⟨#[116]⟩, .bool false] 27)).cell? ⟨w.heap.size, 2, none⟩ = some (.bool false) := spec_at (heap_alloc_new w _)
  obtain ⟨s0, s1, s2⟩ := s0
  have hn := hid_of (new_nt (w.alloc (.cells #[.string ⟨#[110]⟩, .string ⟨#[116]⟩, .bool false] 27)))
  replace h := hid_of h
  go_enter Tryz.func33, Tryz.ntmps33
  go_wp2_with fail
  refine hn.out.mono ?_
  rintro e X1 ⟨hb1, xb, bp, cp, rfl, hI, hp⟩
  have t0 := stay hb1 s0
  have hB1 := hB0.trans (hb1.mono hB0.size)
  have hpl := hid_of (place_none kb cnt ⟨#[110]⟩ X1 (h.out.keep hB1))
  clear hn hB0 s0 s1 s2 hb1
  replace hB1 := hid_of hB1
  replace hI := hid_of hI
  replace hp := hid_of hp
  go_wp2_with fail
  refine hpl.out.mono ?_
  rintro e X2 ⟨rfl, hb2⟩
  have hB2 := hB1.out.trans (hb2.mono hB1.out.size)
  have k2 := (h.out.keep hB2).at 12
  have hch := hid_of (change0 xb _ _ _ _ _ _ X2 (hI.out.keep hb2))
  replace hp := hid_of (stay hb2 hp.out)
  clear hpl hB1 hI t0 hb2
  replace hB2 := hid_of hB2
  go_wp2_with fail
  refine hch.out.mono ?_
  rintro e X3 ⟨hb3, yb, ge, gk, rfl, hY⟩
  have hB3 := hB2.out.trans (hb3.mono hB2.out.size)
  have hK3 := h.out.keep hB3
  have k3 := hK3.at 12
  have hkb := hid_of (lt_of_cell (hK3.at 0))
  replace hp := hid_of (stay hb3 hp.out)
  replace hY := hid_of hY
  replace hK3 := hid_of hK3
  replace hB3 := hid_of hB3
  clear hch hB2 hb3 k2 h
  go_wp2_with fail
  refine (clone_none _).mono ?_
  rintro e Z ⟨rfl, hZ⟩
  obtain rfl : X3 = Z := hZ.symm
  clear hZ
  go_wp2_with (at_builtin; refine wpList_append_lies _ rfl _ _ 65 rfl X3.heap.size 68 i5 _ 1 8 Tryz.underlying65 hi5 hz0 hz1 hz2 rfl (by decide) _ 0 ([] : List Value) rfl (World.ownsRow_nil _ _ _ _) _ 1 1 [.pointer (some ⟨yb, 0, none⟩)] rfl rfl (World.news_of_block (heap_new' rfl)) (by simp [Value.oneCell']) (by decide) (by unfold maxLen; omega) (by omega) (by simp) _ rfl ?_; intro g2 cap2 X4 hown2 hgrow2 hat2 hlt2; have hb4 := ((Below.refl _ X3).alloc (Nat.le_refl _) _).trans (grown_below hgrow2 (by simp) (fun g hg => by cases hg)); have hK4 := hK3.out.keep hb4; have k4 := hK4.at 12; have kf4 := hK4.fz 12; replace hK4 := hid_of hK4; replace hb4 := hid_of hb4; have hO := hid_of hown2; clear hgrow2 hat2 hlt2 hown2 k3 hK3)
  go_ret
  have hB4 := hB3.out.trans (hb4.out.mono hB3.out.size)
  have hY4 := hY.out.keep hb4.out
  have hp4 := stay hb4.out hp.out
  have hg1 : X3.heap.size ≤ g2 := (ownsRow_ge hO.out rfl).1
  have lkb : kb < X3.heap.size := hkb.out
  have n1 : g2 ≠ kb := by omega
  have n2 : yb ≠ kb := fun e => by
    subst e
    have h1 := hK4.out
    unfold CollAt at h1
    unfold IxAt at hY4
    rw [hY4] at h1
    cases h1
  have n3 : bp ≠ kb := fun e => by
    subst e
    have h1 := hK4.out.at 0
    rw [hp4] at h1
    cases h1
  exact ⟨yb, rfl, grown_below_any hB4 (grown_set X4 kb 12 _), ⟨g2, cap2, coll_set hK4.out _, (World.cell?_of_block (w := X4) (a := ⟨g2, 0, none⟩) (Below.heap_setCell _ _ _ _ n1)).trans (hO.out.cellAt 0 (by simp)), n1⟩, ⟨bp, cp, ge, gk, (Below.heap_setCell _ _ _ _ n2).trans hY4, (World.cell?_of_block (w := X4) (a := ⟨bp, 0, none⟩) (Below.heap_setCell _ _ _ _ n3)).trans hp4⟩⟩
end Go.Proofs.YtdghkmgkmfnjjaaGreatDoor
