import Derived.Test.YtdghkmgkmfnjjaaGreatDoorJK
import Derived.Deep.Cut
/-! A list without entries, edited by two that come. -/
namespace Go.Proofs.YtdghkmgkmfnjjaaGreatDoor
open Go Go.RowKit

theorem search_zero (f : Value) (w : World) : Calls Tryz.prog 143 #[.int .i64 0, f] w fun e w' => e = .returned (.int .i64 0) ∧ w' = w := by
  go_enter Tryz.func143, Tryz.ntmps143
  go_wp2_with fail
  refine wp_loop_rounds 1 ?_
  rw [rounds_succ]
  go_wp2_with fail
  go_ret
  exact ⟨rfl, rfl⟩
theorem mk_list (w : World) : (Instr.makeSlice 103 (.int .i64 0) (.int .i64 2)).run Tryz.prog w = .ok (.slice (some ⟨w.heap.size, 0, none⟩) 0 2) (w.alloc (.cells #[.pointer none, .pointer none] 128)) := by kernel_rfl
theorem made_list (w : World) (B n : Nat) (hn : n = w.heap.size) (hB : B ≤ w.heap.size) : (w.alloc (.cells #[.pointer none, .pointer none] 128)).ownsRow B 128 1 (.slice (some ⟨n, 0, none⟩) 0 2) 0 [] := ⟨rfl, .inr ⟨n, 2, _, rfl, by rw [hn]; exact hB, heap_new' hn, by omega, by unfold maxLen; omega, rfl, by simp⟩⟩
theorem ap_none {P : Program} (w : World) (t ty e : TypeId) (i : TypeInfo) (ht : P.underlying t = some (.slice e)) (hi : P.info? e = some i) (ge g n cap : Nat) (hn : n ≤ cap) :
    (Builtin.append_ #[t, t] ty #[.slice (some ⟨g, 0, none⟩) n cap, .slice (some ⟨ge, 0, none⟩) 0 0]).run P w = .ok (.slice (some ⟨g, 0, none⟩) n cap) w := by
  have hst : ∀ a, (storeCells a []).run P w = .ok () w := fun _ => rfl
  have hld : (loadCells ⟨ge, 0, none⟩ 0).run P w = .ok #[] w := rfl
  simp [Builtin.append_, run_underlying ht, sizeOf, typeInfo, hi, Builtin.lenOf, Builtin.firstCells, hn, hld, hst]
theorem same_box {W : World} {lb ge : Nat} (h : W.heap[lb]? = some (.cells #[.slice (some ⟨ge, 0, none⟩) 0 0] 103 (0, 0))) : Below W.heap.size W (W.setCell ⟨lb, 0, none⟩ (.slice (some ⟨ge, 0, none⟩) 0 0)) := by
  refine ⟨by simp [World.setCell], by simp [World.setCell], by simp [World.setCell], by simp [World.setCell], fun k hk => ?_⟩
  by_cases e : k = lb
  · subst e
    simp [World.setCell, Array.getElem?_modify, h]
  · exact Below.heap_setCell _ _ _ _ e
set_option maxHeartbeats 4000000 in
set_option maxRecDepth 100000 in
theorem edited2V (ge g cap e1 e2 : Nat) (x1 x2 : Int) (k1 k2 : ByteArray) (w : World) (h1 : EntAt w e1 x1 k1) (h2 : EntAt w e2 x2 k2) (c0 : w.cell? ⟨g, 0, none⟩ = some (.pointer (some ⟨e1, 0, none⟩))) (c1 : w.cell? ⟨g, 1, none⟩ = some (.pointer (some ⟨e2, 0, none⟩))) (hlt : decide (cmpI x2 x1 < 0) = false) (hne : (cmpI x2 x1 != 0) = true) :
    Calls Tryz.prog 132 #[.slice (some ⟨ge, 0, none⟩) 0 0, .slice none 0 0, .slice (some ⟨g, 0, none⟩) 2 cap, .func (.func 133) #[] #[]] w fun e w' => Below w.heap.size w w' ∧ ∃ rb cp, e = .returned (.slice (some ⟨rb, 0, none⟩) 2 cp) ∧ w'.ownsRow w.heap.size 128 1 (.slice (some ⟨rb, 0, none⟩) 2 cp) 2 [.pointer (some ⟨e1, 0, none⟩), .pointer (some ⟨e2, 0, none⟩)] := by
  obtain ⟨i5, hi5, hz0, hz1, hz2⟩ := info_parts AE
  have Q0 : Below w.heap.size w ((w.alloc (.cells #[.slice (some ⟨ge, 0, none⟩) 0 0] 103)).alloc (.cells #[.func (.func 133) #[] #[]] 205)) := ((Below.refl _ w).alloc (Nat.le_refl _) _).alloc (by simp) _
  have hmk := mk_list ((w.alloc (.cells #[.slice (some ⟨ge, 0, none⟩) 0 0] 103)).alloc (.cells #[.func (.func 133) #[] #[]] 205))
  have bl0 : ((w.alloc (.cells #[.slice (some ⟨ge, 0, none⟩) 0 0] 103)).alloc (.cells #[.func (.func 133) #[] #[]] 205)).heap[w.heap.size]? = some (.cells #[.slice (some ⟨ge, 0, none⟩) 0 0] 103 (0, 0)) := new1 w _ _
  have bf0 : ((w.alloc (.cells #[.slice (some ⟨ge, 0, none⟩) 0 0] 103)).alloc (.cells #[.func (.func 133) #[] #[]] 205)).heap[w.heap.size + 1]? = some (.cells #[.func (.func 133) #[] #[]] 205 (0, 0)) := new2 w _ _
  have hsz := hid_of (show w.heap.size + 1 + 1 = ((w.alloc (.cells #[.slice (some ⟨ge, 0, none⟩) 0 0] 103)).alloc (.cells #[.func (.func 133) #[] #[]] 205)).heap.size by simp)
  go_enter Tryz.func132, Tryz.ntmps132
  go_wp2_with fail
  generalize (w.alloc (.cells #[.slice (some ⟨ge, 0, none⟩) 0 0] 103)).alloc (.cells #[.func (.func 133) #[] #[]] 205) = X0 at hmk Q0 bl0 bf0 hsz ⊢
  have q1 := (Below.refl _ X0).alloc (Nat.le_refl _) (.cells #[.pointer none, .pointer none] 128)
  have O := made_list X0 X0.heap.size _ hsz.out (Nat.le_refl _)
  have hl : w.heap.size + 1 + 1 < (X0.alloc (.cells #[.pointer none, .pointer none] 128)).heap.size := by rw [hsz.out]; simp
  clear hmk
  generalize X0.alloc (.cells #[.pointer none, .pointer none] 128) = X1 at q1 O hl ⊢
  have hq := Q0.trans (q1.mono Q0.size)
  have hed := hid_of (edits2V g cap e1 e2 x1 x2 k1 k2 X1 (h1.keep hq) (h2.keep hq) (stay hq c0) (stay hq c1) hlt hne)
  clear h1 h2 c0 c1 hlt hne
  refine hed.out.mono ?_
  rintro e Y0 ⟨hb, rb, cp, rfl, hrb, s0, s1, s2, s3⟩
  clear hed
  have O0 := hid_of (ownsRow_below O hb)
  have bl0 := block_keep (block_keep bl0 q1) hb
  have HB0 := hid_of (hq.trans (hb.mono hq.size))
  have Q0' := hid_of (Nat.le_trans q1.size hb.size)
  have hne : w.heap.size + 1 + 1 ≠ rb := by omega
  have hlb : w.heap.size ≠ w.heap.size + 1 + 1 := by omega
  have hXs := hid_of Q0.size
  replace hne := hid_of hne
  replace hlb := hid_of hlb
  clear O hb hq q1 Q0 hl hrb bf0
  obtain ⟨ga0, hga⟩ : ∃ q, q = w.heap.size + 1 + 1 := ⟨_, rfl⟩
  rw [← hga] at O0 hne hlb ⊢
  replace hga := hid_of hga
  replace hsz := hid_of (hga.out.trans hsz.out)
  go_wp2_with fail
  refine wp_loop_rounds 3 ?_
  have f0 : Below Y0.heap.size Y0 (Y0.alloc (.cells #[.pointer (some ⟨e1, 0, none⟩), .bool true] 248)) := (Below.refl _ _).alloc (Nat.le_refl _) _
  have x0 := heap_alloc_new Y0 (.cells #[.pointer (some ⟨e1, 0, none⟩), .bool true] 248)
  have hap0 : ∀ W : World, (Builtin.append_ #[103, 103] 103 #[.slice (some ⟨ga0, 0, none⟩) 0 2, .slice (some ⟨ge, 0, none⟩) 0 0]).run Tryz.prog W = .ok (.slice (some ⟨ga0, 0, none⟩) 0 2) W := fun W => ap_none W _ _ _ i5 Tryz.underlying103 hi5 _ _ _ _ (by omega)
  have b0 := block_keep bl0 f0
  rw [rounds_succ]
  go_upto_region 5 with fail
  generalize Y0.alloc (.cells #[.pointer (some ⟨e1, 0, none⟩), .bool true] 248) = Z0 at f0 x0 b0 ⊢
  have lc0 : Z0.cell? ⟨w.heap.size, 0, none⟩ = some (.slice (some ⟨ge, 0, none⟩) 0 0) := cell_of_one b0
  have lf0 : Z0.frozen? ⟨w.heap.size, 0, none⟩ = false := by simp [World.frozen?, b0]
  go_wp2_with (go_at_call 143; refine (search_zero _ _).mono ?_; rintro e W ⟨rfl, hw⟩; have hw := hw.symm; subst hw)
  go_region
  have g0 := hid_of (f0.trans ((same_box b0).mono f0.size))
  have xx0 := block_keep x0 (same_box b0)
  generalize Z0.setCell ⟨w.heap.size, 0, none⟩ (.slice (some ⟨ge, 0, none⟩) 0 0) = V0 at g0 xx0 ⊢
  have xc0 : V0.cell? ⟨Y0.heap.size, 0, none⟩ = some (.pointer (some ⟨e1, 0, none⟩)) := by simp [World.cell?, xx0]
  have xd0 : V0.cell? ⟨Y0.heap.size, 1, none⟩ = some (.bool true) := by simp [World.cell?, xx0]
  clear lc0 lf0 b0 x0 f0 xx0 hap0
  go_wp2_with (at_builtin; refine wpList_append_lies _ rfl _ _ 103 rfl X0.heap.size 128 i5 _ 1 8 Tryz.underlying103 hi5 hz0 hz1 hz2 rfl (by decide) _ 0 ([] : List Value) rfl (ownsRow_below (ownsRow_below O0.out (below_drew g0.out)) ((Below.refl _ _).alloc (Nat.le_refl _) _)) _ 1 1 [.pointer (some ⟨e1, 0, none⟩)] rfl rfl (World.news_of_block (heap_new' rfl)) (by simp [Value.oneCell']) (by decide) (by unfold maxLen; omega) (by omega) (by simp; have := g0.out.size; have := Q0'.out; omega) _ rfl ?_; intro ga1 ca1 Y1 hown hgrow hat hlt; have O1 := hid_of hown; have G1 : Hid (Y0.grownBy Y1 (some ga0)) := hid_of (grown_trans (grown_of_below ((below_drew g0.out).trans (((Below.refl _ _).alloc (Nat.le_refl _) _).mono g0.out.size))) hgrow); have hat1 := hid_of hat; clear hgrow hat hlt hown xc0 xd0)
  have s2 := grown_cell G1.out s2 (fun r hr => by cases hr; exact fun e => hne.out e.symm)
  have s3 := grown_cell G1.out s3 (fun r hr => by cases hr; exact fun e => hne.out e.symm)
  have bl1 : Y1.heap[w.heap.size]? = some (.cells #[.slice (some ⟨ge, 0, none⟩) 0 0] 103 (0, 0)) := (G1.out.block _ (Array.getElem?_eq_some_iff.1 bl0).1 (fun e => hlb.out (by cases e; rfl))).trans bl0
  have hc1 : 1 ≤ ca1 := by
    rcases O1.out.2 with ⟨h, _⟩ | ⟨q, c, cur, h, _, _, h5, _⟩
    · cases h
    · cases h; exact h5
  have Q1' := hid_of (Nat.le_trans Q0'.out G1.out.size)
  have HB1 := hid_of (HB0.out.trans (grown_below G1.out HB0.out.size (fun q hq => by cases hq; have := hga.out; omega)))
  clear s0 s1 bl0
  have f1 : Below Y1.heap.size Y1 (Y1.alloc (.cells #[.pointer (some ⟨e2, 0, none⟩), .bool true] 248)) := (Below.refl _ _).alloc (Nat.le_refl _) _
  have x1 := heap_alloc_new Y1 (.cells #[.pointer (some ⟨e2, 0, none⟩), .bool true] 248)
  have hap1 : ∀ W : World, (Builtin.append_ #[103, 103] 103 #[.slice (some ⟨ga1, 0, none⟩) 1 ca1, .slice (some ⟨ge, 0, none⟩) 0 0]).run Tryz.prog W = .ok (.slice (some ⟨ga1, 0, none⟩) 1 ca1) W := fun W => ap_none W _ _ _ i5 Tryz.underlying103 hi5 _ _ _ _ hc1
  have b1 := block_keep bl1 f1
  rw [rounds_succ]
  go_upto_region 5 with fail
  generalize Y1.alloc (.cells #[.pointer (some ⟨e2, 0, none⟩), .bool true] 248) = Z1 at f1 x1 b1 ⊢
  have lc1 : Z1.cell? ⟨w.heap.size, 0, none⟩ = some (.slice (some ⟨ge, 0, none⟩) 0 0) := cell_of_one b1
  have lf1 : Z1.frozen? ⟨w.heap.size, 0, none⟩ = false := by simp [World.frozen?, b1]
  go_wp2_with (go_at_call 143; refine (search_zero _ _).mono ?_; rintro e W ⟨rfl, hw⟩; have hw := hw.symm; subst hw)
  go_region
  have g1 := hid_of (f1.trans ((same_box b1).mono f1.size))
  have xx1 := block_keep x1 (same_box b1)
  generalize Z1.setCell ⟨w.heap.size, 0, none⟩ (.slice (some ⟨ge, 0, none⟩) 0 0) = V1 at g1 xx1 ⊢
  have xc1 : V1.cell? ⟨Y1.heap.size, 0, none⟩ = some (.pointer (some ⟨e2, 0, none⟩)) := by simp [World.cell?, xx1]
  have xd1 : V1.cell? ⟨Y1.heap.size, 1, none⟩ = some (.bool true) := by simp [World.cell?, xx1]
  clear lc1 lf1 b1 x1 f1 xx1 hap1
  go_wp2_with (at_builtin; refine wpList_append_lies _ rfl _ _ 103 rfl X0.heap.size 128 i5 _ 1 8 Tryz.underlying103 hi5 hz0 hz1 hz2 rfl (by decide) _ 1 [.pointer (some ⟨e1, 0, none⟩)] rfl (ownsRow_below (ownsRow_below O1.out (below_drew g1.out)) ((Below.refl _ _).alloc (Nat.le_refl _) _)) _ 1 1 [.pointer (some ⟨e2, 0, none⟩)] rfl rfl (World.news_of_block (heap_new' rfl)) (by simp [Value.oneCell']) (by decide) (by unfold maxLen; omega) (by omega) (by simp; have := g1.out.size; have := Q1'.out; omega) _ rfl ?_; intro ga2 ca2 Y2 hown hgrow hat hlt; have O2 := hid_of hown; have G2 : Hid (Y1.grownBy Y2 (some ga1)) := hid_of (grown_trans (grown_of_below ((below_drew g1.out).trans (((Below.refl _ _).alloc (Nat.le_refl _) _).mono g1.out.size))) hgrow); have hat2 := hid_of hat; clear hgrow hat hlt hown xc1 xd1)
  have hlb1 : w.heap.size ≠ ga1 := by
    have h1 : X0.heap.size ≤ ga1 := (ownsRow_ge O1.out rfl).1
    have h2 := hsz.out
    have h3 := hga.out
    omega
  have bl2 : Y2.heap[w.heap.size]? = some (.cells #[.slice (some ⟨ge, 0, none⟩) 0 0] 103 (0, 0)) := (G2.out.block _ (Array.getElem?_eq_some_iff.1 bl1).1 (fun e => hlb1 (by cases e; rfl))).trans bl1
  have hc2 : 2 ≤ ca2 := by
    rcases O2.out.2 with ⟨h, _⟩ | ⟨q, c, cur, h, _, _, h5, _⟩
    · cases h
    · cases h; exact h5
  have HB2 := hid_of (HB1.out.trans (grown_below G2.out HB1.out.size (fun q hq => by cases hq; have h1 : X0.heap.size ≤ ga1 := (ownsRow_ge O1.out rfl).1; have h2 := hsz.out; have h3 := hga.out; omega)))
  have hap2 : ∀ W : World, (Builtin.append_ #[103, 103] 103 #[.slice (some ⟨ga2, 0, none⟩) 2 ca2, .slice (some ⟨ge, 0, none⟩) 0 0]).run Tryz.prog W = .ok (.slice (some ⟨ga2, 0, none⟩) 2 ca2) W := fun W => ap_none W _ _ _ i5 Tryz.underlying103 hi5 _ _ _ _ hc2
  have lc2 : Y2.cell? ⟨w.heap.size, 0, none⟩ = some (.slice (some ⟨ge, 0, none⟩) 0 0) := cell_of_one bl2
  replace hlb1 := hid_of hlb1
  rw [rounds_succ]
  go_wp2_with fail
  go_ret
  exact ⟨HB2.out, ga2, ca2, rfl, ownsRow_lo O2.out hXs.out⟩
set_option maxHeartbeats 4000000 in
set_option maxRecDepth 100000 in
theorem edited2K (ge g cap e1 e2 : Nat) (x1 x2 : Int) (k1 k2 : ByteArray) (w : World) (h1 : EntAt w e1 x1 k1) (h2 : EntAt w e2 x2 k2) (c0 : w.cell? ⟨g, 0, none⟩ = some (.pointer (some ⟨e1, 0, none⟩))) (c1 : w.cell? ⟨g, 1, none⟩ = some (.pointer (some ⟨e2, 0, none⟩))) (hlt : decide (cmpS k2 k1 < 0) = true) :
    Calls Tryz.prog 132 #[.slice (some ⟨ge, 0, none⟩) 0 0, .slice none 0 0, .slice (some ⟨g, 0, none⟩) 2 cap, .func (.func 134) #[] #[]] w fun e w' => Below w.heap.size w w' ∧ ∃ rb cp, e = .returned (.slice (some ⟨rb, 0, none⟩) 2 cp) ∧ w'.ownsRow w.heap.size 128 1 (.slice (some ⟨rb, 0, none⟩) 2 cp) 2 [.pointer (some ⟨e2, 0, none⟩), .pointer (some ⟨e1, 0, none⟩)] := by
  obtain ⟨i5, hi5, hz0, hz1, hz2⟩ := info_parts AE
  have Q0 : Below w.heap.size w ((w.alloc (.cells #[.slice (some ⟨ge, 0, none⟩) 0 0] 103)).alloc (.cells #[.func (.func 134) #[] #[]] 205)) := ((Below.refl _ w).alloc (Nat.le_refl _) _).alloc (by simp) _
  have hmk := mk_list ((w.alloc (.cells #[.slice (some ⟨ge, 0, none⟩) 0 0] 103)).alloc (.cells #[.func (.func 134) #[] #[]] 205))
  have bl0 : ((w.alloc (.cells #[.slice (some ⟨ge, 0, none⟩) 0 0] 103)).alloc (.cells #[.func (.func 134) #[] #[]] 205)).heap[w.heap.size]? = some (.cells #[.slice (some ⟨ge, 0, none⟩) 0 0] 103 (0, 0)) := new1 w _ _
  have bf0 : ((w.alloc (.cells #[.slice (some ⟨ge, 0, none⟩) 0 0] 103)).alloc (.cells #[.func (.func 134) #[] #[]] 205)).heap[w.heap.size + 1]? = some (.cells #[.func (.func 134) #[] #[]] 205 (0, 0)) := new2 w _ _
  have hsz := hid_of (show w.heap.size + 1 + 1 = ((w.alloc (.cells #[.slice (some ⟨ge, 0, none⟩) 0 0] 103)).alloc (.cells #[.func (.func 134) #[] #[]] 205)).heap.size by simp)
  go_enter Tryz.func132, Tryz.ntmps132
  go_wp2_with fail
  generalize (w.alloc (.cells #[.slice (some ⟨ge, 0, none⟩) 0 0] 103)).alloc (.cells #[.func (.func 134) #[] #[]] 205) = X0 at hmk Q0 bl0 bf0 hsz ⊢
  have q1 := (Below.refl _ X0).alloc (Nat.le_refl _) (.cells #[.pointer none, .pointer none] 128)
  have O := made_list X0 X0.heap.size _ hsz.out (Nat.le_refl _)
  have hl : w.heap.size + 1 + 1 < (X0.alloc (.cells #[.pointer none, .pointer none] 128)).heap.size := by rw [hsz.out]; simp
  clear hmk
  generalize X0.alloc (.cells #[.pointer none, .pointer none] 128) = X1 at q1 O hl ⊢
  have hq := Q0.trans (q1.mono Q0.size)
  have hed := hid_of (edits2K g cap e1 e2 x1 x2 k1 k2 X1 (h1.keep hq) (h2.keep hq) (stay hq c0) (stay hq c1) hlt)
  clear h1 h2 c0 c1 hlt
  refine hed.out.mono ?_
  rintro e Y0 ⟨hb, rb, cp, rfl, hrb, s0, s1, s2, s3⟩
  clear hed
  have O0 := hid_of (ownsRow_below O hb)
  have bl0 := block_keep (block_keep bl0 q1) hb
  have HB0 := hid_of (hq.trans (hb.mono hq.size))
  have Q0' := hid_of (Nat.le_trans q1.size hb.size)
  have hne : w.heap.size + 1 + 1 ≠ rb := by omega
  have hlb : w.heap.size ≠ w.heap.size + 1 + 1 := by omega
  have hXs := hid_of Q0.size
  replace hne := hid_of hne
  replace hlb := hid_of hlb
  clear O hb hq q1 Q0 hl hrb bf0
  obtain ⟨ga0, hga⟩ : ∃ q, q = w.heap.size + 1 + 1 := ⟨_, rfl⟩
  rw [← hga] at O0 hne hlb ⊢
  replace hga := hid_of hga
  replace hsz := hid_of (hga.out.trans hsz.out)
  go_wp2_with fail
  refine wp_loop_rounds 3 ?_
  have f0 : Below Y0.heap.size Y0 (Y0.alloc (.cells #[.pointer (some ⟨e2, 0, none⟩), .bool true] 248)) := (Below.refl _ _).alloc (Nat.le_refl _) _
  have x0 := heap_alloc_new Y0 (.cells #[.pointer (some ⟨e2, 0, none⟩), .bool true] 248)
  have hap0 : ∀ W : World, (Builtin.append_ #[103, 103] 103 #[.slice (some ⟨ga0, 0, none⟩) 0 2, .slice (some ⟨ge, 0, none⟩) 0 0]).run Tryz.prog W = .ok (.slice (some ⟨ga0, 0, none⟩) 0 2) W := fun W => ap_none W _ _ _ i5 Tryz.underlying103 hi5 _ _ _ _ (by omega)
  have b0 := block_keep bl0 f0
  rw [rounds_succ]
  go_upto_region 5 with fail
  generalize Y0.alloc (.cells #[.pointer (some ⟨e2, 0, none⟩), .bool true] 248) = Z0 at f0 x0 b0 ⊢
  have lc0 : Z0.cell? ⟨w.heap.size, 0, none⟩ = some (.slice (some ⟨ge, 0, none⟩) 0 0) := cell_of_one b0
  have lf0 : Z0.frozen? ⟨w.heap.size, 0, none⟩ = false := by simp [World.frozen?, b0]
  go_wp2_with (go_at_call 143; refine (search_zero _ _).mono ?_; rintro e W ⟨rfl, hw⟩; have hw := hw.symm; subst hw)
  go_region
  have g0 := hid_of (f0.trans ((same_box b0).mono f0.size))
  have xx0 := block_keep x0 (same_box b0)
  generalize Z0.setCell ⟨w.heap.size, 0, none⟩ (.slice (some ⟨ge, 0, none⟩) 0 0) = V0 at g0 xx0 ⊢
  have xc0 : V0.cell? ⟨Y0.heap.size, 0, none⟩ = some (.pointer (some ⟨e2, 0, none⟩)) := by simp [World.cell?, xx0]
  have xd0 : V0.cell? ⟨Y0.heap.size, 1, none⟩ = some (.bool true) := by simp [World.cell?, xx0]
  clear lc0 lf0 b0 x0 f0 xx0 hap0
  go_wp2_with (at_builtin; refine wpList_append_lies _ rfl _ _ 103 rfl X0.heap.size 128 i5 _ 1 8 Tryz.underlying103 hi5 hz0 hz1 hz2 rfl (by decide) _ 0 ([] : List Value) rfl (ownsRow_below (ownsRow_below O0.out (below_drew g0.out)) ((Below.refl _ _).alloc (Nat.le_refl _) _)) _ 1 1 [.pointer (some ⟨e2, 0, none⟩)] rfl rfl (World.news_of_block (heap_new' rfl)) (by simp [Value.oneCell']) (by decide) (by unfold maxLen; omega) (by omega) (by simp; have := g0.out.size; have := Q0'.out; omega) _ rfl ?_; intro ga1 ca1 Y1 hown hgrow hat hlt; have O1 := hid_of hown; have G1 : Hid (Y0.grownBy Y1 (some ga0)) := hid_of (grown_trans (grown_of_below ((below_drew g0.out).trans (((Below.refl _ _).alloc (Nat.le_refl _) _).mono g0.out.size))) hgrow); have hat1 := hid_of hat; clear hgrow hat hlt hown xc0 xd0)
  have s2 := grown_cell G1.out s2 (fun r hr => by cases hr; exact fun e => hne.out e.symm)
  have s3 := grown_cell G1.out s3 (fun r hr => by cases hr; exact fun e => hne.out e.symm)
  have bl1 : Y1.heap[w.heap.size]? = some (.cells #[.slice (some ⟨ge, 0, none⟩) 0 0] 103 (0, 0)) := (G1.out.block _ (Array.getElem?_eq_some_iff.1 bl0).1 (fun e => hlb.out (by cases e; rfl))).trans bl0
  have hc1 : 1 ≤ ca1 := by
    rcases O1.out.2 with ⟨h, _⟩ | ⟨q, c, cur, h, _, _, h5, _⟩
    · cases h
    · cases h; exact h5
  have Q1' := hid_of (Nat.le_trans Q0'.out G1.out.size)
  have HB1 := hid_of (HB0.out.trans (grown_below G1.out HB0.out.size (fun q hq => by cases hq; have := hga.out; omega)))
  clear s0 s1 bl0
  have f1 : Below Y1.heap.size Y1 (Y1.alloc (.cells #[.pointer (some ⟨e1, 0, none⟩), .bool true] 248)) := (Below.refl _ _).alloc (Nat.le_refl _) _
  have x1 := heap_alloc_new Y1 (.cells #[.pointer (some ⟨e1, 0, none⟩), .bool true] 248)
  have hap1 : ∀ W : World, (Builtin.append_ #[103, 103] 103 #[.slice (some ⟨ga1, 0, none⟩) 1 ca1, .slice (some ⟨ge, 0, none⟩) 0 0]).run Tryz.prog W = .ok (.slice (some ⟨ga1, 0, none⟩) 1 ca1) W := fun W => ap_none W _ _ _ i5 Tryz.underlying103 hi5 _ _ _ _ hc1
  have b1 := block_keep bl1 f1
  rw [rounds_succ]
  go_upto_region 5 with fail
  generalize Y1.alloc (.cells #[.pointer (some ⟨e1, 0, none⟩), .bool true] 248) = Z1 at f1 x1 b1 ⊢
  have lc1 : Z1.cell? ⟨w.heap.size, 0, none⟩ = some (.slice (some ⟨ge, 0, none⟩) 0 0) := cell_of_one b1
  have lf1 : Z1.frozen? ⟨w.heap.size, 0, none⟩ = false := by simp [World.frozen?, b1]
  go_wp2_with (go_at_call 143; refine (search_zero _ _).mono ?_; rintro e W ⟨rfl, hw⟩; have hw := hw.symm; subst hw)
  go_region
  have g1 := hid_of (f1.trans ((same_box b1).mono f1.size))
  have xx1 := block_keep x1 (same_box b1)
  generalize Z1.setCell ⟨w.heap.size, 0, none⟩ (.slice (some ⟨ge, 0, none⟩) 0 0) = V1 at g1 xx1 ⊢
  have xc1 : V1.cell? ⟨Y1.heap.size, 0, none⟩ = some (.pointer (some ⟨e1, 0, none⟩)) := by simp [World.cell?, xx1]
  have xd1 : V1.cell? ⟨Y1.heap.size, 1, none⟩ = some (.bool true) := by simp [World.cell?, xx1]
  clear lc1 lf1 b1 x1 f1 xx1 hap1
  go_wp2_with (at_builtin; refine wpList_append_lies _ rfl _ _ 103 rfl X0.heap.size 128 i5 _ 1 8 Tryz.underlying103 hi5 hz0 hz1 hz2 rfl (by decide) _ 1 [.pointer (some ⟨e2, 0, none⟩)] rfl (ownsRow_below (ownsRow_below O1.out (below_drew g1.out)) ((Below.refl _ _).alloc (Nat.le_refl _) _)) _ 1 1 [.pointer (some ⟨e1, 0, none⟩)] rfl rfl (World.news_of_block (heap_new' rfl)) (by simp [Value.oneCell']) (by decide) (by unfold maxLen; omega) (by omega) (by simp; have := g1.out.size; have := Q1'.out; omega) _ rfl ?_; intro ga2 ca2 Y2 hown hgrow hat hlt; have O2 := hid_of hown; have G2 : Hid (Y1.grownBy Y2 (some ga1)) := hid_of (grown_trans (grown_of_below ((below_drew g1.out).trans (((Below.refl _ _).alloc (Nat.le_refl _) _).mono g1.out.size))) hgrow); have hat2 := hid_of hat; clear hgrow hat hlt hown xc1 xd1)
  have hlb1 : w.heap.size ≠ ga1 := by
    have h1 : X0.heap.size ≤ ga1 := (ownsRow_ge O1.out rfl).1
    have h2 := hsz.out
    have h3 := hga.out
    omega
  have bl2 : Y2.heap[w.heap.size]? = some (.cells #[.slice (some ⟨ge, 0, none⟩) 0 0] 103 (0, 0)) := (G2.out.block _ (Array.getElem?_eq_some_iff.1 bl1).1 (fun e => hlb1 (by cases e; rfl))).trans bl1
  have hc2 : 2 ≤ ca2 := by
    rcases O2.out.2 with ⟨h, _⟩ | ⟨q, c, cur, h, _, _, h5, _⟩
    · cases h
    · cases h; exact h5
  have HB2 := hid_of (HB1.out.trans (grown_below G2.out HB1.out.size (fun q hq => by cases hq; have h1 : X0.heap.size ≤ ga1 := (ownsRow_ge O1.out rfl).1; have h2 := hsz.out; have h3 := hga.out; omega)))
  have hap2 : ∀ W : World, (Builtin.append_ #[103, 103] 103 #[.slice (some ⟨ga2, 0, none⟩) 2 ca2, .slice (some ⟨ge, 0, none⟩) 0 0]).run Tryz.prog W = .ok (.slice (some ⟨ga2, 0, none⟩) 2 ca2) W := fun W => ap_none W _ _ _ i5 Tryz.underlying103 hi5 _ _ _ _ hc2
  have lc2 : Y2.cell? ⟨w.heap.size, 0, none⟩ = some (.slice (some ⟨ge, 0, none⟩) 0 0) := cell_of_one bl2
  replace hlb1 := hid_of hlb1
  rw [rounds_succ]
  go_wp2_with fail
  go_ret
  exact ⟨HB2.out, ga2, ca2, rfl, ownsRow_lo O2.out hXs.out⟩
end Go.Proofs.YtdghkmgkmfnjjaaGreatDoor
