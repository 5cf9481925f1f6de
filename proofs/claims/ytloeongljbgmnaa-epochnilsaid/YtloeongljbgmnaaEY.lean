import Derived.Test.YtloeongljbgmnaaEX
/-! epoch: the second change of the law's run. -/
namespace Go.Proofs.Ytloeongljbgmnaa
open Go Go.RowKit
theorem ap_nil (w : World) : (Builtin.append_ #[26, 26] 26 #[.slice none 0 0, .slice none 0 0]).run Try.prog w = .ok (.slice none 0 0) w := by kernel_rfl
/-- Blocks of Refs and of roots that were there stay. -/
def RefK (w W : World) : Prop := (∀ (b : Nat) vs, w.heap[b]? = some (.cells vs 82 (0, 0)) → W.heap[b]? = some (.cells vs 82 (0, 0))) ∧ ∀ (b : Nat) vs, w.heap[b]? = some (.cells vs 28 (0, 0)) → W.heap[b]? = some (.cells vs 28 (0, 0))
def rt2 : Array Value := #[.int .i64 2, .slice none 0 0, .int .i64 0]
def vP (gn nc : Nat) : Kv := ⟨1, some ⟨gn, 0, none⟩, 1, nc, 0, 2, 0, 0, none, 0, 0⟩
def vQ (la : Option Addr) : Kv := ⟨2, none, 0, 0, 0, 2, 0, 1, la, 1, 1⟩
/-- Behind the new root. -/
structure RB (lo : Nat) (w : World) (wl cb : Nat) (x : Kx) (v : Kv) (n : Nat) (xs : List Value) (log : Value) (gd g cc : Nat) (W : World) : Prop where
  refs : RefK w W
  out : W.ownsRow (w.heap.size + 3) 82 2 (.slice (some ⟨g, 0, none⟩) 1 cc) 1 [.int .i64 1, .int .i64 1]
  sa : SA lo w wl cb x v [⟨1, true, 7⟩] n xs log (opB gd) rt2 W
theorem RB.under {lo : Nat} {w W W' : World} {wl cb : Nat} {x : Kx} {v : Kv} {n : Nat} {xs : List Value} {log : Value} {gd g cc : Nat} (h : RB lo w wl cb x v n xs log gd g cc W) (hB : Below W.heap.size W W') : RB lo w wl cb x v n xs log gd g cc W' :=
  ⟨⟨fun b vs e => up_below hB (h.refs.1 b vs e), fun b vs e => up_below hB (h.refs.2 b vs e)⟩, ownsRow_keep h.out (fun g _ e => hB.block g (Array.getElem?_eq_some_iff.1 e).1), h.sa.under hB⟩
/-- While the log grows, blocks of other types stay. -/
theorem SA.grownA {lo : Nat} {w W : World} {wl cb n : Nat} {x : Kx} {v : Kv} {ns : List Nd} {xs : List Value} {log : Value} {op rt : Array Value} (h : SA lo w wl cb x v ns n xs log op rt W) {o : Obj} {Z : World} (r2 : (W.alloc o).grownBy Z log.ownBlock) {b : Nat} {us : Array Value} {t : TypeId} (e : W.heap[b]? = some (.cells us t (0, 0))) (ht : t ≠ 130) : Z.heap[b]? = some (.cells us t (0, 0)) := by
  have hbk : ∀ g', log.ownBlock = some g' → ∃ cs, W.heap[g']? = some (.cells cs 130 (0, 0)) := fun g' e => by
    obtain ⟨-, h2⟩ := h.cl.row
    rcases h2 with ⟨hv, -⟩ | ⟨g2, cap', cur, hv, hg, hh, -⟩
    · rw [hv] at e; cases e
    · rw [hv] at e; cases e; exact ⟨cur, hh⟩
  have hB : Below W.heap.size W (W.alloc o) := (Below.refl _ W).alloc (Nat.le_refl _) _
  have hFZ : Fr (fun i => log.ownBlock = some i) W Z := (Fr.of_below hB).grown r2 (fun g e => .inl e)
  exact (hFZ.block b (Array.getElem?_eq_some_iff.1 e).1 (fun hb => by obtain ⟨cs, hc⟩ := hbk b hb; exact ne_of_types e hc ht rfl)).trans e
/-- Behind the Publish. -/
structure RC (lo : Nat) (w : World) (wl cb : Nat) (x : Kx) (n : Nat) (xs : List Value) (log : Value) (gd g cc : Nat) (la : Option Addr) (gr : Nat) (W : World) : Prop where
  rb : RB lo w wl cb x (vQ la) n xs log gd g cc W
  one : One W la gr 1 1 3
  lt : g < gr
theorem out_block {W : World} {lo g cc : Nat} {xs : List Value} (h : W.ownsRow lo 82 2 (.slice (some ⟨g, 0, none⟩) 1 cc) 1 xs) : lo ≤ g ∧ ∃ cur, W.heap[g]? = some (.cells cur 82 (0, 0)) ∧ 2 ≤ cur.size := by
  obtain ⟨-, h2⟩ := h
  rcases h2 with ⟨hv, -⟩ | ⟨g2, cap', cur, hv, hg, hh, h1, -, h3, -⟩
  · cases hv
  · cases hv
    exact ⟨hg, cur, hh, by omega⟩
theorem there2 {W : World} {g : Nat} {cur : Array Value} {t : TypeId} (h : W.heap[g]? = some (.cells cur t (0, 0))) (hs : 2 ≤ cur.size) : W.there g 0 2 := fun i hi => by
  refine ⟨?_, warm h⟩
  have hi' : i < cur.size := by omega
  simp [World.cell?, h, hi']
theorem ref0_one : (#[.int .i64 0, .int .i64 0] : Array Value).all (·.oneCell') = true := by simp [Value.oneCell']
set_option maxRecDepth 100000 in
set_option maxHeartbeats 8000000 in
theorem does_b (lo wl cb gd gn nc : Nat) (x : Kx) (log : Value) (w : World) (hlo : lo ≤ w.heap.size) (hL : LW w wl cb x) (hC : Cl lo w cb 1 ansL log) (hK : KS lo w x (vP gn nc)) (hH : HeapS lo w x.hb 5 1048576 [⟨1, true, 7⟩] []) (hd : w.cell? ⟨gd, 0, none⟩ = some (.int .i64 0)) (h0 : w.cell? ⟨gn, 0, none⟩ = some (.int .i64 1)) (h1 : w.cell? ⟨gn, 1, none⟩ = some (.int .i64 1)) :
    Calls Try.prog 30 #[.pointer (some ⟨wl, 0, none⟩), .pointer none, .pointer (some ⟨cb, 0, none⟩), .agg (opB gd), .agg #[.int .i64 1, .slice (some ⟨gn, 0, none⟩) 1 nc, .int .i64 0]] w fun e w' => e = .returned (.agg rt2) ∧ Below lo w w' ∧ RefK w w' ∧ LW w' wl cb x ∧ HeapS lo w' x.hb 5 1048576 [⟨1, true, 7⟩] [] ∧ ∃ la gr, One w' la gr 1 1 3 ∧ KS lo w' x (vQ la) := by
  obtain ⟨ai, hai, hai1, hai2, hai3⟩ := ans_info
  obtain ⟨W3, hW3⟩ : ∃ W3, Hid (((w.alloc (.cells (opB gd) 78)).alloc (.cells #[.int .i64 1, .slice (some ⟨gn, 0, none⟩) 1 nc, .int .i64 0] 28)).alloc (.cells #[.int .i64 0, .slice none 0 0, .int .i64 0] 28) = W3) := ⟨_, rfl⟩
  obtain ⟨z0, z1, z2⟩ := heap_alloc3 w (.cells (opB gd) 78) (.cells #[.int .i64 1, .slice (some ⟨gn, 0, none⟩) 1 nc, .int .i64 0] 28) (.cells #[.int .i64 0, .slice none 0 0, .int .i64 0] 28)
  have hB3 : Below w.heap.size w W3 := by rw [← hW3.out]; exact (((Below.refl _ w).alloc (Nat.le_refl _) _).alloc (by simp) _).alloc (by simp; omega) _
  rw [hW3.out] at z0 z1 z2
  have hS : SA lo w wl cb x (vP gn nc) [⟨1, true, 7⟩] 1 ansL log (opB gd) #[.int .i64 1, .slice (some ⟨gn, 0, none⟩) 1 nc, .int .i64 0] W3 := ⟨hB3.mono hlo, (Array.getElem?_eq_some_iff.1 z2).1, hL.under hB3, hC.under hB3, hK.under hB3, hH.under hB3, z0, z1, z2, hlo⟩
  obtain ⟨vr, rr1, rr2⟩ := hK.r
  have hvr : Hid (vr < w.heap.size) := (Array.getElem?_eq_some_iff.1 rr2).1
  have hr3 : Hid (RbAt x vr W3) := up_below hB3 rr1
  have hrk : Hid (RefK w W3) := ⟨fun _ _ e => up_below hB3 e, fun _ _ e => up_below hB3 e⟩
  have o0 : W3.cell? ⟨w.heap.size, 0, none⟩ = some (.int .i64 1) := cell_of z0 rfl
  have o1 : W3.cell? ⟨w.heap.size, 1, none⟩ = some (.int .i64 0) := cell_of z0 rfl
  have o2 : W3.cell? ⟨w.heap.size, 2, none⟩ = some (.int .i64 0) := cell_of z0 rfl
  have o3 : W3.cell? ⟨w.heap.size, 3, none⟩ = some (.slice (some ⟨gd, 0, none⟩) 1 1) := cell_of z0 rfl
  have o4 : W3.cell? ⟨w.heap.size, 4, none⟩ = some (.int .i64 1) := cell_of z0 rfl
  have o5 : W3.cell? ⟨w.heap.size, 5, none⟩ = some (.int .i64 0) := cell_of z0 rfl
  have o6 : W3.cell? ⟨w.heap.size, 6, none⟩ = some (.int .i64 0) := cell_of z0 rfl
  obtain ⟨d0, d1, d2⟩ := cells3 z1
  have hsp := hid_of (split_b gd gn nc 1 1 W3 (stay hB3 hd) (stay hB3 h0) (stay hB3 h1))
  have hs3 : Hid (w.heap.size + 3 ≤ W3.heap.size) := hS.size
  replace hS := hid_of hS
  clear hL hC hK hH hd h0 h1 rr1 rr2 z0 z1 z2 hB3
  unfold opB at hW3 hsp ⊢
  go_enter Try.func30, Try.ntmps30
  go_upto_region 1 with (rw [hW3.out])
  go_wp2_with fail
  refine wp_loop_rounds 1 ?_
  rw [rounds_succ]
  go_wp2_with fail
  refine hsp.out.mono ?_
  rintro e X3 ⟨hB3, g, cc, rfl, hout⟩
  have hS3 := hS.out.under hB3
  have e4 : X3.cell? ⟨w.heap.size, 4, none⟩ = some (.int .i64 1) := cell_of hS3.op rfl
  obtain ⟨d0, d1, d2⟩ := cells3 hS3.rt
  have df : ∀ k, X3.frozen? ⟨w.heap.size + 1, k, none⟩ = false := fun k => warm hS3.rt
  have hap := ap_nil
  have hend : Hid (RB lo w wl cb x (vP gn nc) 1 ansL log gd g cc (((X3.setCell ⟨w.heap.size + 1, 0, none⟩ (.int .i64 2)).setCell ⟨w.heap.size + 1, 1, none⟩ (.slice none 0 0)).setCell ⟨w.heap.size + 1, 2, none⟩ (.int .i64 0)).drew) := by
    have hF : Fr (· = w.heap.size + 1) X3 (((X3.setCell ⟨w.heap.size + 1, 0, none⟩ (.int .i64 2)).setCell ⟨w.heap.size + 1, 1, none⟩ (.slice none 0 0)).setCell ⟨w.heap.size + 1, 2, none⟩ (.int .i64 0)) := Fr.set (S := (· = w.heap.size + 1)) (Fr.set (S := (· = w.heap.size + 1)) (Fr.set (S := (· = w.heap.size + 1)) (Fr.refl _ X3) ⟨w.heap.size + 1, 0, none⟩ _ (.inl rfl)) ⟨w.heap.size + 1, 1, none⟩ _ (.inl rfl)) ⟨w.heap.size + 1, 2, none⟩ _ (.inl rfl)
    have kp : ∀ {b : Nat} {us : Array Value} {t : TypeId}, X3.heap[b]? = some (.cells us t (0, 0)) → t ≠ 28 → (((X3.setCell ⟨w.heap.size + 1, 0, none⟩ (.int .i64 2)).setCell ⟨w.heap.size + 1, 1, none⟩ (.slice none 0 0)).setCell ⟨w.heap.size + 1, 2, none⟩ (.int .i64 0)).heap[b]? = some (.cells us t (0, 0)) := fun {b us t} e ht => (hF.block b (Array.getElem?_eq_some_iff.1 e).1 (ne_of_types e hS3.rt ht)).trans e
    have hrb : RB lo w wl cb x (vP gn nc) 1 ansL log gd g cc (((X3.setCell ⟨w.heap.size + 1, 0, none⟩ (.int .i64 2)).setCell ⟨w.heap.size + 1, 1, none⟩ (.slice none 0 0)).setCell ⟨w.heap.size + 1, 2, none⟩ (.int .i64 0)) := by
      refine ⟨⟨fun b vs e => (hF.block b (Array.getElem?_eq_some_iff.1 (up_below hB3 (hrk.out.1 b vs e))).1 (by have := (Array.getElem?_eq_some_iff.1 e).1; show b ≠ w.heap.size + 1; omega)).trans (up_below hB3 (hrk.out.1 b vs e)), fun b vs e => (hF.block b (Array.getElem?_eq_some_iff.1 (up_below hB3 (hrk.out.2 b vs e))).1 (by have := (Array.getElem?_eq_some_iff.1 e).1; show b ≠ w.heap.size + 1; omega)).trans (up_below hB3 (hrk.out.2 b vs e))⟩, ?_, hS3.root (fun vb e => ?_) hF ?_⟩
      · have h2 := ownsRow_keep hout (fun g _ e => (kp e (by decide)).trans e.symm)
        obtain ⟨a1, a2⟩ := h2
        refine ⟨a1, ?_⟩
        rcases a2 with a2 | ⟨g', cap', cur, hv, hg, r⟩
        · exact .inl a2
        · exact .inr ⟨g', cap', cur, hv, Nat.le_trans hs3.out hg, r⟩
      · have e' : X3.heap[x.rb]? = _ := up_below hB3 hr3.out
        rw [e'] at e
        cases e
        have := hvr.out
        omega
      · exact heap_setCell_same _ (w.heap.size + 1) 2 _ _ _ (heap_setCell_same _ (w.heap.size + 1) 1 _ _ _ (heap_setCell_same X3 (w.heap.size + 1) 0 _ _ _ hS3.rt))
    exact hrb.under (below_drew (Below.refl _ _))
  clear hsp hB3 hout hS3 hS hr3 hrk o0 o1 o2 o3 o4 o5 o6 hW3
  go_upto_region 10 with fail
  go_cut [] from 55 (fun wx => Hid (RB lo w wl cb x (vP gn nc) 1 ansL log gd g cc wx))
  case first =>
    go_region_law (fail)
    all_goals
      rw [show IntKind.i64.wrap 2 = 2 from by decide]
      generalize (((X3.setCell ⟨w.heap.size + 1, 0, none⟩ (.int .i64 2)).setCell ⟨w.heap.size + 1, 1, none⟩ (.slice none 0 0)).setCell ⟨w.heap.size + 1, 2, none⟩ (.int .i64 0)).drew = Y at hend ⊢
      go_wp2_with fail
      go_meet
      exact hend
  case rest =>
    obtain ⟨Y, hYe⟩ : ∃ Y : World, Y = wc := ⟨_, rfl⟩
    subst hYe
    have hR := hcut.out
    obtain ⟨cg, cc0, cur, hwl, hcg, hcu⟩ := hR.sa.lw.at_
    have w1 : Y.cell? ⟨wl, 1, none⟩ = some (.pointer (some ⟨x.kb, 0, none⟩)) := cell_of hwl rfl
    have c3 : Y.cell? ⟨cb, 3, none⟩ = some log := cell_of hR.sa.cl.blk rfl
    have d0 : Y.cell? ⟨w.heap.size + 1, 0, none⟩ = some (.int .i64 2) := cell_of hR.sa.rt rfl
    have d1 : Y.cell? ⟨w.heap.size + 1, 1, none⟩ = some (.slice none 0 0) := cell_of hR.sa.rt rfl
    have d2 : Y.cell? ⟨w.heap.size + 1, 2, none⟩ = some (.int .i64 0) := cell_of hR.sa.rt rfl
    have hRd := hR.under (below_drew (Below.refl _ Y))
    have g0 : Y.drew.cell? ⟨g, 0, none⟩ = some (.int .i64 1) := hRd.out.cellAt 0 (by omega)
    have g1 : Y.drew.cell? ⟨g, 1, none⟩ = some (.int .i64 1) := hRd.out.cellAt 1 (by omega)
    have hgY : Hid (g < Y.drew.heap.size) := lt_of_cell g0
    have hpub := hid_of (publish_one hRd.sa.ks hRd.sa.los rfl rfl rfl rfl rfl rfl 2 none 0 0 0 (by decide) g cc 1 1 g0 g1)
    have hone5 : Hid (∀ u ∈ ansL, u.oneCell' = true) := by unfold Hid ansL; simp [Value.oneCell']
    have hm2 : Hid (1 + 1 ≤ maxLen) := by unfold Hid maxLen; omega
    replace hRd := hid_of hRd
    clear hwl hcg hcu hcut hR e4 df hap hend g0 g1
    go_upto_region 11 with fail
    go_cut [] from 64 (fun wx => ∃ (log' : Value) (la : Option Addr) (gr : Nat), Hid (RC lo w wl cb x 2 (ansL ++ ansL) log' gd g cc la gr wx))
    case first =>
      go_region_law (first
        | (go_simp; go_at_call 9; refine hpub.out.mono ?_; rintro e Z ⟨rfl, hT, la, gr, hge, hon, hk⟩; simp only; have hSZ := hRd.out.sa.hot3 hT hk; have hRZ : Hid (RefK w Z) := ⟨fun b vs e => hT.cold _ _ _ (hRd.out.refs.1 b vs e) rfl, fun b vs e => hT.cold _ _ _ (hRd.out.refs.2 b vs e) rfl⟩; have c3z : Z.cell? ⟨cb, 3, none⟩ = some log := cell_of hSZ.cl.blk rfl; have c3a : ∀ o, (Z.alloc o).cell? ⟨cb, 3, none⟩ = some log := fun o => cell_al c3z; have hownZ := hid_of (ownsRow_keep hRd.out.out (fun g _ e => (hT.cold g _ _ e rfl).trans e.symm)); have hbsZ : Hid (∀ o, lo ≤ (Z.alloc o).heap.size) := fun o => Nat.le_trans hSZ.los ((Below.refl _ Z).alloc (Nat.le_refl _) o).size; have hltZ : Hid (g < gr) := Nat.lt_of_lt_of_le hgY.out hge; replace hon := hid_of hon; replace hSZ := hid_of hSZ; clear hT hk hge)
        | (refine step_append_lies _ (by rfl) _ _ 122 (by rfl) lo 130 ai _ 5 40 ans_u hai hai1 hai2 hai3 (by rfl) (by decide) log 1 ansL (by rfl) (hSZ.out.cl.row.alloc _) _ 1 1 ansL (by rfl) (by rfl) (World.news_of_block (heap_alloc_new Z _)) hone5.out (by decide) hm2.out (by decide) (hbsZ.out _) _ rfl ?_; intro ga ca V r1 r2 r3 r4; have cv := hSZ.out.grownA r2 hSZ.out.cl.blk (by decide); have c3v : V.cell? ⟨cb, 3, none⟩ = some log := cell_of cv rfl; have c3f : V.frozen? ⟨cb, 3, none⟩ = false := warm cv; have hkV : Hid (∀ (b : Nat) (us : Array Value) (t : TypeId), Z.heap[b]? = some (.cells us t (0, 0)) → t ≠ 130 → V.heap[b]? = some (.cells us t (0, 0))) := fun b us t e ht => hSZ.out.grownA r2 e ht; have hlg := hid_of (hSZ.out.logged (c := ca) r1 r2); replace cv := hid_of cv; clear r1 r2 r3 r4))
      all_goals
        have hend : Hid (RC lo w wl cb x 2 (ansL ++ ansL) (.slice (some ⟨ga, 0, none⟩) 2 ca) gd g cc la gr (V.setCell ⟨cb, 3, none⟩ (.slice (some ⟨ga, 0, none⟩) 2 ca))) := by
          have kp : ∀ {b : Nat} {us : Array Value} {t : TypeId}, Z.heap[b]? = some (.cells us t (0, 0)) → t ≠ 130 → t ≠ 124 → (V.setCell ⟨cb, 3, none⟩ (.slice (some ⟨ga, 0, none⟩) 2 ca)).heap[b]? = some (.cells us t (0, 0)) := fun {b us t} e h1 h2 => (Below.heap_setCell _ _ _ _ (ne_of_types (hkV.out b us t e h1) cv.out h2)).trans (hkV.out b us t e h1)
          obtain ⟨gk, gb, o1, o2, o3, o4⟩ := hon.out.at_
          exact ⟨⟨⟨fun b vs e => kp (hRZ.out.1 b vs e) (by decide) (by decide), fun b vs e => kp (hRZ.out.2 b vs e) (by decide) (by decide)⟩, ownsRow_keep hownZ.out (fun g _ e => (kp e (by decide) (by decide)).trans e.symm), hlg.out⟩, ⟨gk, gb, o1, kp o2 (by decide) (by decide), kp o3 (by decide) (by decide), kp o4 (by decide) (by decide)⟩, hltZ.out⟩
        generalize V.setCell ⟨cb, 3, none⟩ (.slice (some ⟨ga, 0, none⟩) 2 ca) = U at hend ⊢
        clear hSZ c3z c3a hownZ hbsZ cv c3v c3f hkV hlg hRZ hltZ hon
        go_wp2_with fail
        go_meet
        exact ⟨_, _, _, hend⟩
    case rest =>
      obtain ⟨log', la, gr, hR⟩ := hcut
      obtain ⟨U, hUe⟩ : ∃ U : World, U = wc := ⟨_, rfl⟩
      subst hUe
      have hC := hR.out
      obtain ⟨hg3, curo, ho1, ho2⟩ := out_block hC.rb.out
      have hth := there2 ho1 ho2
      obtain ⟨V, hV⟩ : ∃ V, Hid (U.setCells g 0 [.int .i64 0, .int .i64 0] = V) := ⟨_, rfl⟩
      have hFV : Fr (· = g) U V := by rw [← hV.out]; exact (Fr.refl _ U).sets g 0 _ (.inl rfl)
      have hsaV := hC.rb.sa.ref ho1 (Nat.le_trans hlo (by omega)) hFV
      have d0 : V.cell? ⟨w.heap.size + 1, 0, none⟩ = some (.int .i64 2) := cell_of hsaV.rt rfl
      have d1 : V.cell? ⟨w.heap.size + 1, 1, none⟩ = some (.slice none 0 0) := cell_of hsaV.rt rfl
      have d2 : V.cell? ⟨w.heap.size + 1, 2, none⟩ = some (.int .i64 0) := cell_of hsaV.rt rfl
      have kres := hsaV.res
      have kk := setRow_heap V (w.heap.size + 2) _ #[.int .i64 2, .slice none 0 0, .int .i64 0] _ _ kres
      obtain ⟨t0, t1, t2⟩ := cells3 kk
      have hF : Fr (· = w.heap.size + 2) V (V.setRow (w.heap.size + 2) #[.int .i64 2, .slice none 0 0, .int .i64 0]) := ⟨rfl, rfl, rfl, by rw [size_setRow']; exact Nat.le_refl _, fun k _ hs => setRow_other V (w.heap.size + 2) k _ hs⟩
      have hfin : Hid (Below lo w (V.setRow (w.heap.size + 2) #[.int .i64 2, .slice none 0 0, .int .i64 0]) ∧ RefK w (V.setRow (w.heap.size + 2) #[.int .i64 2, .slice none 0 0, .int .i64 0]) ∧ LW (V.setRow (w.heap.size + 2) #[.int .i64 2, .slice none 0 0, .int .i64 0]) wl cb x ∧ HeapS lo (V.setRow (w.heap.size + 2) #[.int .i64 2, .slice none 0 0, .int .i64 0]) x.hb 5 1048576 [⟨1, true, 7⟩] [] ∧ ∃ la gr, One (V.setRow (w.heap.size + 2) #[.int .i64 2, .slice none 0 0, .int .i64 0]) la gr 1 1 3 ∧ KS lo (V.setRow (w.heap.size + 2) #[.int .i64 2, .slice none 0 0, .int .i64 0]) x (vQ la)) := by
        obtain ⟨f1, f2, f3, f4, f5⟩ := hsaV.last (show (2 : Int) ≠ 0 by decide) hF
        have kp : ∀ {b : Nat} {us : Array Value} {t : TypeId}, U.heap[b]? = some (.cells us t (0, 0)) → b ≠ g → t ≠ 28 → (V.setRow (w.heap.size + 2) #[.int .i64 2, .slice none 0 0, .int .i64 0]).heap[b]? = some (.cells us t (0, 0)) := fun {b us t} e h1 h2 => by
          have e1 := (hFV.block b (Array.getElem?_eq_some_iff.1 e).1 h1).trans e
          exact (hF.block b (Array.getElem?_eq_some_iff.1 e1).1 (ne_of_types e1 kres h2)).trans e1
        obtain ⟨gk, gb, p1, p2, p3, p4⟩ := hC.one.at_
        have hlt := hC.lt
        refine ⟨f1, ⟨fun b vs e => kp (hC.rb.refs.1 b vs e) (by have := (Array.getElem?_eq_some_iff.1 e).1; omega) (by decide), fun b vs e => ?_⟩, f2, f5, la, gr, ⟨gk, gb, p1, kp p2 (ne_of_types p2 ho1 (by decide)) (by decide), kp p3 (ne_of_types p3 ho1 (by decide)) (by decide), kp p4 (by omega) (by decide)⟩, f4⟩
        have hb := (Array.getElem?_eq_some_iff.1 e).1
        have e1 := (hFV.block b (Array.getElem?_eq_some_iff.1 (hC.rb.refs.2 b vs e)).1 (by show b ≠ g; omega)).trans (hC.rb.refs.2 b vs e)
        exact (hF.block b (Array.getElem?_eq_some_iff.1 e1).1 (by show b ≠ w.heap.size + 2; omega)).trans e1
      clear hR hC hpub hRd kk hF hFV hsaV ho1 ho2
      go_wp2_with fail
      refine wp_loop_rounds 2 ?_
      rw [rounds_succ]
      go_wp2_with (first | rw [hV.out] | (refine wpList_store_mid rfl 82 _ _ rfl g 0 _ rfl rfl hth ref_i ref0_one ?_))
      rw [rounds_succ]
      go_wp2_with (first | rw [hV.out] | (refine wpList_store_row rfl 28 _ _ rfl (w.heap.size + 2) _ rfl rfl _ _ kres r_i rfl (row3_one _ _ _ _ _) ?_))
      go_wp2_with fail
      exact bodyPost_ret (v := .agg #[.int .i64 2, .slice none 0 0, .int .i64 0]) (by simp [results, Try.results30, go_sem, t0, t1, t2]) rfl ⟨rfl, hfin.out⟩
end Go.Proofs.Ytloeongljbgmnaa
