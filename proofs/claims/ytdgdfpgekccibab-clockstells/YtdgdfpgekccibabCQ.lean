import Derived.Test.YtdgdfpgekccibabCP
/-! clocks: use. -/
namespace Go.Proofs.Ytdgdfpgekccibab
open Go Go.RowKit
def bumpU (x : Usr) (u : Nat × Nat) (wb : Bool) : Usr := ⟨x.c, x.all ++ [u], if wb then x.wr ++ [u] else x.wr⟩
/-- A use is noted. -/
def useU : List Usr → Nat → Nat × Nat → Bool → List Usr
  | [], c, u, wb => [bumpU ⟨c, [], []⟩ u wb]
  | x :: us, c, u, wb => if x.c = c then bumpU x u wb :: us else x :: useU us c u wb
theorem useU_cases : (us : List Usr) → (c : Nat) → (∃ i x, us[i]? = some x ∧ x.c = c ∧ (∀ j v, j < i → us[j]? = some v → v.c ≠ c) ∧ ∀ u wb, useU us c u wb = us.set i (bumpU x u wb)) ∨ ((∀ v ∈ us, v.c ≠ c) ∧ ∀ u wb, useU us c u wb = (us ++ [(⟨c, [], []⟩ : Usr)]).set us.length (bumpU ⟨c, [], []⟩ u wb))
  | [], c => .inr ⟨fun v hv => by simp at hv, fun u wb => rfl⟩
  | y :: us, c => by
    by_cases hy : y.c = c
    · exact .inl ⟨0, y, rfl, hy, fun j v hj => by omega, fun u wb => by simp [useU, hy]⟩
    · rcases useU_cases us c with ⟨i, x, h1, h2, h3, h4⟩ | ⟨h1, h2⟩
      · refine .inl ⟨i + 1, x, by simpa using h1, h2, fun j v hj hv => ?_, fun u wb => by simp [useU, hy, h4]⟩
        cases j with
        | zero => simp at hv; subst hv; exact hy
        | succ j => exact h3 j v (by omega) (by simpa using hv)
      · refine .inr ⟨fun v hv => ?_, fun u wb => by simp [useU, hy, h2]⟩
        rcases List.mem_cons.1 hv with rfl | hv
        · exact hy
        · exact h1 v hv
/-- What userOf answers. -/
def UserPost (w : World) (cb : Nat) (us : List Usr) (P : Nat → Prop) (c : Nat) (e : Ending) (w' : World) : Prop :=
  ∃ g cap i xs va vw P' x us1, e = .returned (.pointer (some ⟨g, i * 3, none⟩)) ∧ CellV w' cb us1 P' (.slice (some ⟨g, 0, none⟩) us1.length cap) xs va vw ∧ us1[i]? = some x ∧ (x ∈ us ∨ (x.all = [] ∧ x.wr = [])) ∧ (∀ u wb, useU us c u wb = us1.set i (bumpU x u wb)) ∧ (∀ b, P' b → P b ∨ w.heap.size ≤ b) ∧ Fr P w w'
theorem userof_any (cb : Nat) (us : List Usr) (P : Nat → Prop) (c : Nat) (w : World) (hC : CellAt w cb us P) (hn : us.length ≤ 1048576) :
    Calls Try.prog 43 #[.pointer (some ⟨cb, 0, none⟩), .int .i64 (c : Nat)] w (UserPost w cb us P c) := by
  rcases useU_cases us c with ⟨i, x, h1, h2, h3, h4⟩ | ⟨h1, h2⟩
  · obtain ⟨sv, xs, va, vw, hV⟩ := hC
    refine (userof_old cb us P sv xs va vw c i x w hV h1 h2 h3).mono ?_
    rintro e w' ⟨⟨g, cap, rfl, rfl⟩, rfl⟩
    exact ⟨g, cap, i, xs, va, vw, P, x, us, rfl, hV, h1, .inl (List.mem_of_getElem? h1), h4, fun b hb => .inl hb, Fr.refl _ _⟩
  · refine (userof_new cb us P c w hC h1 hn).mono ?_
    rintro e w' ⟨g, cap, xs, va, vw, P', rfl, hV, hP, hF⟩
    refine ⟨g, cap, us.length, xs, va, vw, P', ⟨c, [], []⟩, us ++ [⟨c, [], []⟩], rfl, ?_, by simp, .inr ⟨rfl, rfl⟩, h2, hP, hF⟩
    rw [List.length_append]
    exact hV
theorem use_i : (Try.prog.info? 78).map (fun i => (i.zero, i.size, i.bytes)) = some (some (.agg #[.int .i64 0, .int .i32 0]), 2, 16) := by kernel_rfl
/-- What use leaves. -/
def UsePost (w : World) (cb : Nat) (us' : List Usr) (P : Nat → Prop) (e : Ending) (w' : World) : Prop :=
  ∃ P', e = .returned (.tuple #[]) ∧ CellAt w' cb us' P' ∧ (∀ b, P' b → P b ∨ w.heap.size ≤ b) ∧ Fr P w w'
set_option maxHeartbeats 4000000 in
set_option maxRecDepth 100000 in
theorem use_any (cb : Nat) (us : List Usr) (P : Nat → Prop) (c : Nat) (u : Nat × Nat) (wb : Bool) (w : World) (hC : CellAt w cb us P) (hn : us.length ≤ 1048576) (hl : ∀ v ∈ us, v.all.length ≤ 1048576 ∧ v.wr.length ≤ 1048576) :
    Calls Try.prog 28 #[.pointer (some ⟨cb, 0, none⟩), .int .i64 (c : Nat), .agg #[.int .i64 (u.1 : Nat), .int .i32 (u.2 : Nat)], .bool wb] w (UsePost w cb (useU us c u wb) P) := by
  obtain ⟨W0, hW0⟩ : ∃ W0, Hid (w.alloc (.cells #[.int .i64 (u.1 : Nat), .int .i32 (u.2 : Nat)] 78) = W0) := ⟨_, rfl⟩
  have hB0 : Below w.heap.size w W0 := by rw [← hW0.out]; exact (Below.refl _ w).alloc (Nat.le_refl _) _
  have z0 : W0.heap[w.heap.size]? = some (.cells #[.int .i64 (u.1 : Nat), .int .i32 (u.2 : Nat)] 78 (0, 0)) := by rw [← hW0.out]; exact heap_alloc_new w _
  have hW0s : Hid (w.heap.size < W0.heap.size) := (Array.getElem?_eq_some_iff.1 z0).1
  have hC0 := hC.keep hB0.size (fun b hb => hB0.block b (hC.lt b hb))
  have hPlt := hid_of (hC.lt)
  have hu := hid_of (userof_any cb us P c W0 hC0 hn)
  clear hC hC0
  obtain ⟨i2, hi2, hz0, hz1, hz2⟩ := info_parts use_i
  go_enter Try.func28, Try.ntmps28
  go_wp2_with (rw [hW0.out])
  refine hu.out.mono ?_
  rintro e W1 ⟨g, cap, i, xs, va, vw, P1, x, us1, rfl, hV, hx, hxm, huse, hP1, hF1⟩
  clear hu hW0
  have z1 := (hF1.block _ (Array.getElem?_eq_some_iff.1 z0).1 (fun e => by have := hPlt.out _ e; omega)).trans z0
  have v0 : W1.cell? ⟨w.heap.size, 0, none⟩ = some (.int .i64 (u.1 : Nat)) := by simp [World.cell?, z1]
  have v1 : W1.cell? ⟨w.heap.size, 1, none⟩ = some (.int .i32 (u.2 : Nat)) := by simp [World.cell?, z1]
  have hxl : x.all.length ≤ 1048576 ∧ x.wr.length ≤ 1048576 := by
    rcases hxm with h | ⟨h1, h2⟩
    · exact hl x h
    · rw [h1, h2]; simp
  obtain ⟨la, lw⟩ := hxl
  have hra := hV.ra i x hx
  obtain ⟨aa, ca, hva, -, -, -⟩ := ownsRow_form hra
  have y1 : W1.cell? ⟨g, i * 3 + 1, none⟩ = some (.slice aa x.all.length ca) := by rw [← hva]; exact ownsRow_cell hV.row (hV.cel i x hx).2.1
  have hone : ∀ v ∈ [(.int .i64 (u.1 : Nat) : Value), .int .i32 (u.2 : Nat)], v.oneCell' = true := by
    intro v hv
    simp at hv
    rcases hv with rfl | rfl <;> rfl
  have hap : Hid (∀ w0 g4 c4 w4, Below W1.heap.size W1 w0 → w4.ownsRow 0 78 2 (.slice (some ⟨g4, 0, none⟩) (x.all.length + 1) c4) (x.all.length + 1) (flatU x.all ++ [.int .i64 (u.1 : Nat), .int .i32 (u.2 : Nat)]) → w0.grownBy w4 (Value.slice aa x.all.length ca).ownBlock → ((Value.slice aa x.all.length ca).ownBlock = some g4 ∨ g4 = w0.heap.size) → g4 < w4.heap.size → (w4.cell? ⟨g, i * 3 + 1, none⟩ = some (.slice aa x.all.length ca) ∧ w4.frozen? ⟨g, i * 3 + 1, none⟩ = false) ∧ ∃ P', CellV (w4.setCell ⟨g, i * 3 + 1, none⟩ (.slice (some ⟨g4, 0, none⟩) (x.all.length + 1) c4)) cb (us1.set i ⟨x.c, x.all ++ [u], x.wr⟩) P' (.slice (some ⟨g, 0, none⟩) us1.length cap) (xs.set (i * 3 + 1) (.slice (some ⟨g4, 0, none⟩) (x.all.length + 1) c4)) (upd va i (.slice (some ⟨g4, 0, none⟩) (x.all.length + 1) c4)) vw ∧ (∀ b, P' b → P1 b ∨ W1.heap.size ≤ b) ∧ Fr P1 W1 (w4.setCell ⟨g, i * 3 + 1, none⟩ (.slice (some ⟨g4, 0, none⟩) (x.all.length + 1) c4))) := fun w0 g4 c4 w4 h1 h2 h3 h4 h5 => by
    rw [← hva] at h3 h4 ⊢
    exact set_all hV hx h1 h2 h3 h4 h5
  rw [hva] at hra
  replace hra := hid_of hra
  replace hV := hid_of hV
  have y1a : ∀ o, (W1.alloc o).cell? ⟨g, i * 3 + 1, none⟩ = some (.slice aa x.all.length ca) := fun o => by rw [World.cell?_alloc_lt _ _ _ (World.block_lt_of_cell? W1 _ y1)]; exact y1
  have hE : Hid (useU us c u wb = us1.set i (bumpU x u wb)) := huse u wb
  have hbox := hid_of z1
  clear hva z0 z1 huse
  go_wp2_with fail
  go_region_law (refine step_append_lies _ (by rfl) _ _ 93 (by rfl) 0 78 i2 _ 2 16 use_u hi2 hz0 hz1 hz2 (by rfl) (by decide) _ x.all.length (flatU x.all) (by rfl) (by exact World.ownsRow.alloc hra.out _) _ 1 1 [.int .i64 (u.1 : Nat), .int .i32 (u.2 : Nat)] (by rfl) (by rfl) (World.news_of_block (heap_alloc_new W1 _)) hone (by decide) (by unfold maxLen; omega) (by omega) (by omega) _ rfl ?_; intro g4 c4 w4 hown4 hgrow4 hat4 hlt4; obtain ⟨⟨u1, u2⟩, P2, hV2, hP2, hF2⟩ := hap.out _ g4 c4 w4 (below_drew ((Below.refl _ W1).alloc (Nat.le_refl _) _)) hown4 hgrow4 hat4 hlt4; obtain ⟨W2, hW2⟩ : ∃ W2, Hid (w4.setCell ⟨g, i * 3 + 1, none⟩ (.slice (some ⟨g4, 0, none⟩) (x.all.length + 1) c4) = W2) := ⟨_, rfl⟩; rw [hW2.out] at hV2 hF2; replace hV2 := hid_of hV2; replace hP2 := hid_of hP2; replace hF2 := hid_of hF2; clear hown4 hgrow4 hat4 hlt4)
  all_goals
    rw [hW2.out]
    clear hap hra hV y1 y1a u1 u2 hW2 v0 v1
    have hil : i < us1.length := (List.getElem?_eq_some_iff.1 hx).1
    have hW01 : w.heap.size < W0.heap.size := hW0s.out
    have hP1w : ∀ b, P1 b → P b ∨ W0.heap.size ≤ b := hP1
    have hP2w : ∀ b, P2 b → P b ∨ w.heap.size ≤ b := fun b hb => by
      rcases hP2.out b hb with h | h
      · rcases hP1w b h with h | h
        · exact .inl h
        · exact .inr (by omega)
      · exact .inr (by have := hF1.size; omega)
    have hF1w : Fr P w W1 := (Fr.of_below hB0).trans hF1
    have hF2w : Fr P w W2 := hF1w.next hF2.out (fun b hb => (hP1w b hb).imp id (fun h => by omega))
    cases wb with
    | false =>
      have hfin := hid_of (show UsePost w cb (useU us c u false) P (.returned (.tuple #[])) W2 from ⟨P2, rfl, by rw [hE.out]; exact ⟨_, _, _, _, by rw [show bumpU x u false = ⟨x.c, x.all ++ [u], x.wr⟩ from rfl]; exact hV2.out⟩, hP2w, hF2w⟩)
      clear hF1 hF1w hF2w hP2w hP1w hB0 hx hxm hP1
      go_wp2_with fail
      go_end0
      exact hfin.out
    | true =>
      have hbn : ¬ P1 w.heap.size := fun e => by
        rcases hP1w _ e with h | h
        · have := hPlt.out _ h; omega
        · omega
      have z2 := (hF2.out.block _ (Array.getElem?_eq_some_iff.1 hbox.out).1 hbn).trans hbox.out
      have v0 : W2.cell? ⟨w.heap.size, 0, none⟩ = some (.int .i64 (u.1 : Nat)) := by simp [World.cell?, z2]
      have v1 : W2.cell? ⟨w.heap.size, 1, none⟩ = some (.int .i32 (u.2 : Nat)) := by simp [World.cell?, z2]
      have hx2 : (us1.set i ⟨x.c, x.all ++ [u], x.wr⟩)[i]? = some (⟨x.c, x.all ++ [u], x.wr⟩ : Usr) := List.getElem?_set_self hil
      have hrv := hV2.out.rv i _ hx2
      obtain ⟨ab, cb2, hvb, -, -, -⟩ := ownsRow_form hrv
      simp only at hvb hrv
      have y2 : W2.cell? ⟨g, i * 3 + 2, none⟩ = some (.slice ab x.wr.length cb2) := by rw [← hvb]; exact ownsRow_cell (by have := hV2.out.row; rw [List.length_set] at this; exact this) (hV2.out.cel i _ hx2).2.2
      have y2a : ∀ o, (W2.alloc o).cell? ⟨g, i * 3 + 2, none⟩ = some (.slice ab x.wr.length cb2) := fun o => by rw [World.cell?_alloc_lt _ _ _ (World.block_lt_of_cell? W2 _ y2)]; exact y2
      have hap : Hid (∀ w0 g4 c4 w4, Below W2.heap.size W2 w0 → w4.ownsRow 0 78 2 (.slice (some ⟨g4, 0, none⟩) (x.wr.length + 1) c4) (x.wr.length + 1) (flatU x.wr ++ [.int .i64 (u.1 : Nat), .int .i32 (u.2 : Nat)]) → w0.grownBy w4 (Value.slice ab x.wr.length cb2).ownBlock → ((Value.slice ab x.wr.length cb2).ownBlock = some g4 ∨ g4 = w0.heap.size) → g4 < w4.heap.size → (w4.cell? ⟨g, i * 3 + 2, none⟩ = some (.slice ab x.wr.length cb2) ∧ w4.frozen? ⟨g, i * 3 + 2, none⟩ = false) ∧ UsePost w cb (useU us c u true) P (.returned (.tuple #[])) (w4.setCell ⟨g, i * 3 + 2, none⟩ (.slice (some ⟨g4, 0, none⟩) (x.wr.length + 1) c4))) := fun w0 g4 c4 w4 h1 h2 h3 h4 h5 => by
        rw [← hvb] at h3 h4 ⊢
        have hV2' := hV2.out
        rw [show us1.length = (us1.set i (⟨x.c, x.all ++ [u], x.wr⟩ : Usr)).length by simp] at hV2'
        obtain ⟨q1, P3, q2, q3, q4⟩ := set_wr (u := u) hV2' hx2 h1 h2 h3 h4 h5
        refine ⟨q1, P3, rfl, ?_, fun b hb => ?_, hF2w.next q4 hP2w⟩
        · rw [hE.out]
          rw [List.set_set] at q2
          exact ⟨_, _, _, _, q2⟩
        · rcases q3 b hb with h | h
          · exact hP2w b h
          · exact .inr (by have := hF2w.size; omega)
      rw [hvb] at hrv
      replace hrv := hid_of hrv
      clear hF1 hF1w hF2w hP2w hP1w hB0 hx hxm hP1 hx2 hvb z2
      go_wp2_with fail
      go_region_law (refine step_append_lies _ (by rfl) _ _ 93 (by rfl) 0 78 i2 _ 2 16 use_u hi2 hz0 hz1 hz2 (by rfl) (by decide) _ x.wr.length (flatU x.wr) (by rfl) (by exact World.ownsRow.alloc hrv.out _) _ 1 1 [.int .i64 (u.1 : Nat), .int .i32 (u.2 : Nat)] (by rfl) (by rfl) (World.news_of_block (heap_alloc_new W2 _)) hone (by decide) (by unfold maxLen; omega) (by omega) (by omega) _ rfl ?_; intro g5 c5 w5 hown5 hgrow5 hat5 hlt5; obtain ⟨⟨u1, u2⟩, hfin⟩ := hap.out _ g5 c5 w5 (below_drew ((Below.refl _ W2).alloc (Nat.le_refl _) _)) hown5 hgrow5 hat5 hlt5; replace hfin := hid_of hfin; clear hown5 hgrow5 hat5 hlt5)
      all_goals
        go_wp2_with fail
        go_end0
        exact hfin.out
end Go.Proofs.Ytdgdfpgekccibab
