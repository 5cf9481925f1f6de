import Derived.Test.YtloeongljbgmnaaEW
import Derived.Deep.CutRange
/-! epoch: the first change of the law's run. -/
namespace Go.Proofs.Ytloeongljbgmnaa
open Go Go.RowKit
def zeroV : Kv := ⟨0, none, 0, 0, 0, 0, 0, 0, none, 0, 0⟩
def rt0 : Array Value := #[.int .i64 0, .slice none 0 0, .int .i64 0]
/-- Behind the Alloc: the new Ref's box. -/
def RbAt (x : Kx) (vr : Nat) (W : World) : Prop := W.heap[x.rb]? = some (.cells (rCs 4 0 vr) 94 (0, 0))
def Got (lo : Nat) (w : World) (wl cb : Nat) (x : Kx) (vr br : Nat) (W : World) : Prop := RbAt x vr W ∧ W.heap[br]? = some (.cells #[.int .i64 1, .int .i64 1] 82 (0, 0)) ∧ SA lo w wl cb x zeroV [⟨1, true, 7⟩] 0 [] (.slice none 0 0) opA rt0 W
def rt1 (gn nc : Nat) : Array Value := #[.int .i64 1, .slice (some ⟨gn, 0, none⟩) 1 nc, .int .i64 0]
def Rooted (lo : Nat) (w : World) (wl cb : Nat) (x : Kx) (v : Kv) (n : Nat) (xs : List Value) (log : Value) (gn nc : Nat) (W : World) : Prop := W.ownsRow lo 82 2 (.slice (some ⟨gn, 0, none⟩) 1 nc) 1 [.int .i64 1, .int .i64 1] ∧ SA lo w wl cb x v [⟨1, true, 7⟩] n xs log opA (rt1 gn nc) W
/-- What the first change leaves. -/
def Fin (lo : Nat) (w : World) (wl cb : Nat) (x : Kx) (gn nc : Nat) (log : Value) (w' : World) : Prop := Below lo w w' ∧ w'.ownsRow lo 82 2 (.slice (some ⟨gn, 0, none⟩) 1 nc) 1 [.int .i64 1, .int .i64 1] ∧ LW w' wl cb x ∧ Cl lo w' cb 1 ansL log ∧ KS lo w' x ⟨1, some ⟨gn, 0, none⟩, 1, nc, 0, 0, 0, 0, none, 0, 0⟩ ∧ HeapS lo w' x.hb 5 1048576 [⟨1, true, 7⟩] []
/-- The result's own box is written last. -/
theorem SA.last {lo : Nat} {w W W' : World} {wl cb n : Nat} {x : Kx} {v : Kv} {ns : List Nd} {xs : List Value} {log : Value} {op rt : Array Value} (h : SA lo w wl cb x v ns n xs log op rt W) (hs : v.s ≠ 0) (hF : Fr (· = w.heap.size + 2) W W') : Below lo w W' ∧ LW W' wl cb x ∧ Cl lo W' cb n xs log ∧ KS lo W' x v ∧ HeapS lo W' x.hb 5 1048576 ns [] := by
  have k : ∀ {b : Nat} {us : Array Value} {t : TypeId}, W.heap[b]? = some (.cells us t (0, 0)) → t ≠ 28 → W'.heap[b]? = some (.cells us t (0, 0)) := fun {b us t} e ht => (hF.block b (Array.getElem?_eq_some_iff.1 e).1 (ne_of_types e h.res ht)).trans e
  obtain ⟨cg, cc, cur, l1, l2, l3⟩ := h.lw.at_
  obtain ⟨vr, r1, r2⟩ := h.ks.r
  obtain ⟨v0, a1, a2⟩ := h.ks.p0
  obtain ⟨v1, b1, b2⟩ := h.ks.p1
  obtain ⟨c, cs, p, e1, e2, e3⟩ := h.hs
  have hl := h.lo_
  have hv : vr ≠ w.heap.size + 2 := fun e => by
    rw [e, h.res] at r2
    have := congrArg (fun o => match o with | some (Obj.cells cs _ _) => cs[0]? | _ => none) r2
    simp at this
    exact hs this.symm
  exact ⟨h.below.trans (hF.below h.los (fun i hi => by have hi' : i = w.heap.size + 2 := hi; omega)), ⟨cg, cc, cur, k l1 (by decide), k l2 (by decide), l3⟩, ⟨k h.cl.blk (by decide), ownsRow_keep h.cl.row (fun g cs e => (k e (by decide)).trans e.symm), h.cl.lc⟩,
    ⟨k h.ks.k (by decide), k h.ks.p (by decide), ⟨vr, k r1 (by decide), (hF.block _ (Array.getElem?_eq_some_iff.1 r2).1 hv).trans r2⟩, ⟨v0, k a1 (by decide), k a2 (by decide)⟩, ⟨v1, k b1 (by decide), k b2 (by decide)⟩, k h.ks.l (by decide), h.ks.lr, h.ks.l0, h.ks.l1, h.ks.ll, h.ks.ne⟩,
    ⟨c, cs, p, e1, ⟨k e2.hbk (by decide), k e2.wbk (by decide), k e2.pbk (by decide), e2.pool.keep (fun b cs hb => hb.elim (fun e => (k e (by decide)).trans e.symm) (fun e => (k e (by decide)).trans e.symm)), k e2.mbk (by decide), ownsRow_keep e2.row (fun g cs e => (k e (by decide)).trans e.symm), fun i x hx => k (e2.nd i x hx) (by decide), e2.inj, e2.lh, e2.lp, e2.ln⟩, e3⟩⟩
theorem fin_of {lo : Nat} {w W W' : World} {wl cb : Nat} {x : Kx} {gn nc : Nat} {log : Value} (hown : W.ownsRow lo 82 2 (.slice (some ⟨gn, 0, none⟩) 1 nc) 1 [.int .i64 1, .int .i64 1]) (h : SA lo w wl cb x ⟨1, some ⟨gn, 0, none⟩, 1, nc, 0, 0, 0, 0, none, 0, 0⟩ [⟨1, true, 7⟩] 1 ansL log opA (rt1 gn nc) W) (hF : Fr (· = w.heap.size + 2) W W') : Fin lo w wl cb x gn nc log W' := by
  obtain ⟨f1, f2, f3, f4, f5⟩ := h.last (show (1 : Int) ≠ 0 by decide) hF
  exact ⟨f1, ownsRow_keep hown (fun g cs e => hF.block g (Array.getElem?_eq_some_iff.1 e).1 (ne_of_types e h.res (by decide))), f2, f3, f4, f5⟩
set_option maxRecDepth 100000 in
set_option maxHeartbeats 8000000 in
theorem does_a (lo wl cb : Nat) (x : Kx) (w : World) (hlo : lo ≤ w.heap.size) (hL : LW w wl cb x) (hcb : lo ≤ cb) (hC : w.heap[cb]? = some (.cells clientZ 124 (0, 0))) (hK : KS lo w x zeroV) (hH : HeapS lo w x.hb 5 1048576 [] []) :
    Calls Try.prog 30 #[.pointer (some ⟨wl, 0, none⟩), .pointer none, .pointer (some ⟨cb, 0, none⟩), .agg opA, .agg #[.int .i64 0, .slice none 0 0, .int .i64 0]] w fun e w' => ∃ gn nc log, e = .returned (.agg #[.int .i64 1, .slice (some ⟨gn, 0, none⟩) 1 nc, .int .i64 0]) ∧ Below lo w w' ∧ w'.ownsRow lo 82 2 (.slice (some ⟨gn, 0, none⟩) 1 nc) 1 [.int .i64 1, .int .i64 1] ∧ LW w' wl cb x ∧ Cl lo w' cb 1 ansL log ∧ KS lo w' x ⟨1, some ⟨gn, 0, none⟩, 1, nc, 0, 0, 0, 0, none, 0, 0⟩ ∧ HeapS lo w' x.hb 5 1048576 [⟨1, true, 7⟩] [] := by
  obtain ⟨ri, hri, hri1, hri2, hri3⟩ := ref_info
  obtain ⟨ai, hai, hai1, hai2, hai3⟩ := ans_info
  obtain ⟨W3, hW3⟩ : ∃ W3, Hid (((w.alloc (.cells opA 78)).alloc (.cells #[.int .i64 0, .slice none 0 0, .int .i64 0] 28)).alloc (.cells #[.int .i64 0, .slice none 0 0, .int .i64 0] 28) = W3) := ⟨_, rfl⟩
  obtain ⟨z0, z1, z2⟩ := heap_alloc3 w (.cells opA 78) (.cells #[.int .i64 0, .slice none 0 0, .int .i64 0] 28) (.cells #[.int .i64 0, .slice none 0 0, .int .i64 0] 28)
  have hB3 : Below w.heap.size w W3 := by rw [← hW3.out]; exact (((Below.refl _ w).alloc (Nat.le_refl _) _).alloc (by simp) _).alloc (by simp; omega) _
  rw [hW3.out] at z0 z1 z2
  have hS : SA lo w wl cb x zeroV [] 0 [] (.slice none 0 0) opA rt0 W3 := ⟨hB3.mono hlo, (Array.getElem?_eq_some_iff.1 z2).1, hL.under hB3, ⟨up_below hB3 hC, World.ownsRow_nil _ _ _ _, hcb⟩, hK.under hB3, hH.under hB3, z0, z1, z2, hlo⟩
  obtain ⟨vr, rr1, rr2⟩ := hK.r
  have hvr : Hid (vr < w.heap.size) := (Array.getElem?_eq_some_iff.1 rr2).1
  have hr3 := hid_of (up_below hB3 rr1)
  clear rr1 rr2
  obtain ⟨cg, cc0, cur, hwl, hcg, hcu⟩ := hS.lw.at_
  have w0 : W3.cell? ⟨wl, 0, none⟩ = some (.pointer (some ⟨x.hb, 0, none⟩)) := cell_of hwl rfl
  have o0 : W3.cell? ⟨w.heap.size, 0, none⟩ = some (.int .i64 1) := cell_of z0 rfl
  have o1 : W3.cell? ⟨w.heap.size, 1, none⟩ = some (.int .i64 1) := cell_of z0 rfl
  have o2 : W3.cell? ⟨w.heap.size, 2, none⟩ = some (.int .i64 7) := cell_of z0 rfl
  have hal := hid_of (fun W (hW : Below W3.heap.size W3 W) => live_a1 (hS.hs.under hW) (Nat.le_trans hS.los hW.size))
  have hwl3 := hid_of hwl
  replace hS := hid_of hS
  replace z0 := hid_of z0
  clear hL hC hK hH hwl hcg hcu z1 z2 hB3
  unfold opA at hW3 ⊢
  go_enter Try.func30, Try.ntmps30
  go_upto_region 1 with (rw [hW3.out])
  go_wp2_with fail
  refine wp_loop_rounds 2 ?_
  rw [rounds_succ]
  go_upto_region 7 with fail
  go_cut [13] from 26 to 48 (fun s13 wx => ∃ br : Nat, s13 = .pointer (some ⟨br, 0, none⟩) ∧ Hid (Got lo w wl cb x vr br wx))
  case first =>
    go_region_held3 (fun w' => w'.cell? ⟨wl, 0, none⟩ = some (.pointer (some ⟨x.hb, 0, none⟩)) ∧ w'.cell? ⟨w.heap.size, 2, none⟩ = some (.int .i64 7)) (first | (go_keep; done) | (refine ⟨?_, ?_⟩ <;> (first | exact cell_far (cell_far q0 nf) nf | exact cell_far (cell_far q1 no) no | exact cell_far (cell_far (cell_al q0) nf') nf' | exact cell_far (cell_far (cell_al q1) no') no'))) (first
      | (go_at_call 52; refine (hal.out W3.drew (below_drew (Below.refl _ W3))).mono ?_; rintro e W4 ⟨rfl, hT4, hH4⟩; have q0 : W4.cell? ⟨wl, 0, none⟩ = some (.pointer (some ⟨x.hb, 0, none⟩)) := cell_of (hT4.cold _ _ hwl3.out rfl) rfl; have q1 : W4.cell? ⟨w.heap.size, 2, none⟩ = some (.int .i64 7) := cell_of (hT4.cold _ _ z0.out rfl) rfl; have hr4 : Hid (RbAt x vr W4) := hT4.cold _ _ hr3.out rfl; have nf' : wl ≠ W4.heap.size := Nat.ne_of_lt (lt_of_cell q0); have no' : w.heap.size ≠ W4.heap.size := Nat.ne_of_lt (lt_of_cell q1); have hS4 := hid_of ((hS.out.under (below_drew (Below.refl _ W3))).ft hT4 hH4); clear hT4 hH4)
      | (go_at_call 52; refine (hal.out (W3.drew.alloc (.cells #[.int .i64 0, .int .i64 0] 82)) ((below_drew (Below.refl _ W3)).alloc (Nat.le_refl _) _)).mono ?_; rintro e W4 ⟨rfl, hT4, hH4⟩; have q0 : W4.cell? ⟨wl, 0, none⟩ = some (.pointer (some ⟨x.hb, 0, none⟩)) := cell_of (hT4.cold _ _ (up_alloc hwl3.out) rfl) rfl; have q1 : W4.cell? ⟨w.heap.size, 2, none⟩ = some (.int .i64 7) := cell_of (hT4.cold _ _ (up_alloc z0.out) rfl) rfl; have rz := hT4.cold _ _ (heap_alloc_new W3.drew (.cells #[.int .i64 0, .int .i64 0] 82)) rfl; have rz0 : W4.cell? ⟨W3.heap.size, 0, none⟩ = some (.int .i64 0) := cell_of rz rfl; have rz1 : W4.cell? ⟨W3.heap.size, 1, none⟩ = some (.int .i64 0) := cell_of rz rfl; have rzf : ∀ k, W4.frozen? ⟨W3.heap.size, k, none⟩ = false := fun k => warm rz; have hr4 : Hid (RbAt x vr W4) := hT4.cold _ _ (up_alloc hr3.out) rfl; have nf : wl ≠ W3.heap.size := Nat.ne_of_lt (Array.getElem?_eq_some_iff.1 hwl3.out).1; have no : w.heap.size ≠ W3.heap.size := Nat.ne_of_lt (Array.getElem?_eq_some_iff.1 z0.out).1; have hS4 := hid_of ((hS.out.under ((below_drew (Below.refl _ W3)).alloc (Nat.le_refl _) _)).ft hT4 hH4); replace rz := hid_of rz; clear hT4 hH4))
    · have hend : Hid (Got lo w wl cb x vr W4.heap.size (W4.alloc (.cells #[.int .i64 1, .int .i64 1] 82))) := ⟨up_alloc hr4.out, heap_alloc_new W4 _, hS4.out.under ((Below.refl _ W4).alloc (Nat.le_refl _) _)⟩
      generalize W4.alloc (.cells #[.int .i64 1, .int .i64 1] 82) = Y at hend ⊢
      clear hS4 q0 q1 nf' no' hal hS
      go_wp2_with fail
      go_meet
      exact ⟨_, rfl, hend⟩
    · have hend : Hid (Got lo w wl cb x vr W3.heap.size ((W4.setCell ⟨W3.heap.size, 0, none⟩ (.int .i64 1)).setCell ⟨W3.heap.size, 1, none⟩ (.int .i64 1))) := ⟨(Below.heap_setCell _ _ _ _ (ne_of_types hr4.out rz.out (by decide))).trans ((Below.heap_setCell _ _ _ _ (ne_of_types hr4.out rz.out (by decide))).trans hr4.out), heap_setCell_same _ W3.heap.size 1 _ _ (.int .i64 1) (heap_setCell_same W4 W3.heap.size 0 _ _ (.int .i64 1) rz.out), hS4.out.ref rz.out hS.out.los ((Fr.set (S := (· = W3.heap.size)) (Fr.set (S := (· = W3.heap.size)) (Fr.refl _ W4) ⟨W3.heap.size, 0, none⟩ _ (.inl rfl)) ⟨W3.heap.size, 1, none⟩ _ (.inl rfl)))⟩
      generalize (W4.setCell ⟨W3.heap.size, 0, none⟩ (.int .i64 1)).setCell ⟨W3.heap.size, 1, none⟩ (.int .i64 1) = Y at hend ⊢
      clear hS4 q0 q1 nf no hal rz rz0 rz1 rzf
      go_wp2_with fail
      go_meet
      exact ⟨_, rfl, hend⟩
  case rest =>
    obtain ⟨br, rfl, hG⟩ := hcut
    obtain ⟨X, hXe⟩ : ∃ X : World, X = wc := ⟨_, rfl⟩
    subst hXe
    obtain ⟨hrX, kb, hSX⟩ := hG.out
    obtain ⟨b0, b1⟩ := cells2 kb
    obtain ⟨X1, hX1⟩ : ∃ X1, Hid (X.alloc (.cells #[.int .i64 1, .int .i64 1] 82) = X1) := ⟨_, rfl⟩
    have hB1 : Below X.heap.size X X1 := by rw [← hX1.out]; exact (Below.refl _ X).alloc (Nat.le_refl _) _
    have k1 : X1.heap[X.heap.size]? = some (.cells #[.int .i64 1, .int .i64 1] 82 (0, 0)) := by rw [← hX1.out]; exact heap_alloc_new X _
    have hm1 : Hid (0 + 1 ≤ maxLen) := by unfold Hid maxLen; omega
    have hone : Hid (∀ u ∈ [Value.int .i64 1, .int .i64 1], u.oneCell' = true) := by unfold Hid; simp [Value.oneCell']
    have hbs : Hid (lo ≤ X1.heap.size) := Nat.le_trans hSX.los hB1.size
    replace hrX := hid_of hrX
    replace hSX := hid_of hSX
    replace k1 := hid_of k1
    replace hB1 := hid_of hB1
    clear kb hG hal hS hwl3 z0 w0 o0 o1 o2 hr3 hW3
    go_wp2_with (first | rw [hX1.out] | (at_builtin; refine wpList_append_lies _ rfl _ _ 26 rfl lo 82 ri _ 2 16 refs_u hri hri1 hri2 hri3 rfl (by decide) _ 0 [] rfl (World.ownsRow_nil _ _ _ _) _ 1 1 [.int .i64 1, .int .i64 1] rfl rfl (World.news_of_block k1.out) hone.out (by decide) hm1.out (by decide) hbs.out _ rfl ?_; intro g8 c8 X2 r1 r2 r3 r4; replace r1 := hid_of r1; replace r2 := hid_of r2; clear r3 r4))
    have r2' : X1.grownBy X2 none := r2.out
    have r1' : X2.ownsRow lo 82 2 (.slice (some ⟨g8, 0, none⟩) 1 c8) 1 [.int .i64 1, .int .i64 1] := r1.out
    have hF2 : Fr (fun _ => False) X X2 := (Fr.of_below hB1.out).grown r2' (fun g e => by cases e)
    have hB2 : Below X.heap.size X X2 := hF2.below (Nat.le_refl _) (fun _ h => h.elim)
    have hS2 := hSX.out.under hB2
    have o0 : X2.cell? ⟨w.heap.size, 0, none⟩ = some (.int .i64 1) := cell_of hS2.op rfl
    have o1 : X2.cell? ⟨w.heap.size, 1, none⟩ = some (.int .i64 1) := cell_of hS2.op rfl
    have o2 : X2.cell? ⟨w.heap.size, 2, none⟩ = some (.int .i64 7) := cell_of hS2.op rfl
    have o3 : X2.cell? ⟨w.heap.size, 3, none⟩ = some (.slice none 0 0) := cell_of hS2.op rfl
    have o4 : X2.cell? ⟨w.heap.size, 4, none⟩ = some (.int .i64 1) := cell_of hS2.op rfl
    have o5 : X2.cell? ⟨w.heap.size, 5, none⟩ = some (.int .i64 0) := cell_of hS2.op rfl
    have o6 : X2.cell? ⟨w.heap.size, 6, none⟩ = some (.int .i64 0) := cell_of hS2.op rfl
    obtain ⟨d0, d1, d2⟩ := cells3 hS2.rt
    have hsp := hid_of (split_a X2)
    replace hS2 := hid_of hS2
    have hr2 : Hid (RbAt x vr X2) := up_below hB2 hrX.out
    replace r1' := hid_of r1'
    clear r1 r2 r2' hF2 k1 hB1 hX1 hm1 hbs b0 b1 hB2 hrX hSX
    rw [rounds_succ]
    go_wp2_with fail
    refine hsp.out.mono ?_
    rintro e X3 ⟨rfl, hB3⟩
    have hS3 := hS2.out.under hB3
    have hown3 := (ownsRow_keep r1'.out (fun g cs e => (hB3.block g (Array.getElem?_eq_some_iff.1 e).1)))
    have n0 : X3.cell? ⟨g8, 0, none⟩ = some (.int .i64 1) := hown3.cellAt 0 (by omega)
    have n1 : X3.cell? ⟨g8, 1, none⟩ = some (.int .i64 1) := hown3.cellAt 1 (by omega)
    have e4 : X3.cell? ⟨w.heap.size, 4, none⟩ = some (.int .i64 1) := cell_of hS3.op rfl
    obtain ⟨d0, d1, d2⟩ := cells3 hS3.rt
    have hm1 : Hid (0 + 1 ≤ maxLen) := by unfold Hid maxLen; omega
    have hbs : Hid (lo ≤ X3.drew.heap.size) := hS3.los
    have hr3 : Hid (RbAt x vr X3) := up_below hB3 hr2.out
    replace hS3 := hid_of hS3
    clear hsp hB3 hown3 r1' o0 o1 o2 o3 o4 o5 o6 hS2 hr2
    go_upto_region 10 with fail
    go_cut [] from 55 (fun wx => ∃ gn nc : Nat, Hid (Rooted lo w wl cb x zeroV 0 [] (.slice none 0 0) gn nc wx))
    case first =>
      go_region_law (refine step_append_lies _ (by rfl) _ _ 26 (by rfl) lo 82 ri _ 2 16 refs_u hri hri1 hri2 hri3 (by rfl) (by decide) _ 0 [] (by rfl) (World.ownsRow_nil _ _ _ _) _ 1 c8 [.int .i64 1, .int .i64 1] (by rfl) (by rfl) (news2 n0 n1) hone.out (by decide) hm1.out (by decide) hbs.out _ rfl ?_; intro gn nc X4 r1 r2 r3 r4; have hF4 : Fr (fun _ => False) X3.drew X4 := (Fr.refl _ _).grown (b := none) r2 (fun g e => by cases e); have hB4 : Below X3.heap.size X3 X4 := (below_drew (Below.refl _ X3)).trans (hF4.below (Nat.le_refl _) (fun _ h => h.elim)); have hS4 := hS3.out.under hB4; have d0' : X4.cell? ⟨w.heap.size + 1, 0, none⟩ = some (.int .i64 0) := cell_of hS4.rt rfl; have d1' : X4.cell? ⟨w.heap.size + 1, 1, none⟩ = some (.slice none 0 0) := cell_of hS4.rt rfl; have d2' : X4.cell? ⟨w.heap.size + 1, 2, none⟩ = some (.int .i64 0) := cell_of hS4.rt rfl; have df' : ∀ k, X4.frozen? ⟨w.heap.size + 1, k, none⟩ = false := fun k => warm hS4.rt; have e4' : X4.cell? ⟨w.heap.size, 4, none⟩ = some (.int .i64 1) := cell_of hS4.op rfl; have hr4 : Hid (RbAt x vr X4) := up_below hB4 hr3.out; replace r1 := hid_of r1; replace hS4 := hid_of hS4; clear r2 r3 r4 hF4 hB4)
      all_goals
        rw [show IntKind.i64.wrap 1 = 1 from by decide]
        have hend : Hid (Rooted lo w wl cb x zeroV 0 [] (.slice none 0 0) gn nc (((X4.setCell ⟨w.heap.size + 1, 0, none⟩ (.int .i64 1)).setCell ⟨w.heap.size + 1, 1, none⟩ (.slice (some ⟨gn, 0, none⟩) 1 nc)).setCell ⟨w.heap.size + 1, 2, none⟩ (.int .i64 0))) := by
          have hF : Fr (· = w.heap.size + 1) X4 (((X4.setCell ⟨w.heap.size + 1, 0, none⟩ (.int .i64 1)).setCell ⟨w.heap.size + 1, 1, none⟩ (.slice (some ⟨gn, 0, none⟩) 1 nc)).setCell ⟨w.heap.size + 1, 2, none⟩ (.int .i64 0)) := Fr.set (S := (· = w.heap.size + 1)) (Fr.set (S := (· = w.heap.size + 1)) (Fr.set (S := (· = w.heap.size + 1)) (Fr.refl _ X4) ⟨w.heap.size + 1, 0, none⟩ _ (.inl rfl)) ⟨w.heap.size + 1, 1, none⟩ _ (.inl rfl)) ⟨w.heap.size + 1, 2, none⟩ _ (.inl rfl)
          have r1' : X4.ownsRow lo 82 2 (.slice (some ⟨gn, 0, none⟩) 1 nc) 1 [.int .i64 1, .int .i64 1] := r1.out
          refine ⟨ownsRow_keep r1' (fun g cs e => hF.block g (Array.getElem?_eq_some_iff.1 e).1 (ne_of_types e hS4.out.rt (by decide))), hS4.out.root (fun vb e => ?_) hF ?_⟩
          · have e' := hr4.out
            unfold RbAt at e'
            rw [e'] at e
            cases e
            have := hvr.out
            omega
          · exact heap_setCell_same _ (w.heap.size + 1) 2 _ _ _ (heap_setCell_same _ (w.heap.size + 1) 1 _ _ _ (heap_setCell_same X4 (w.heap.size + 1) 0 _ _ _ hS4.out.rt))
        generalize ((X4.setCell ⟨w.heap.size + 1, 0, none⟩ (.int .i64 1)).setCell ⟨w.heap.size + 1, 1, none⟩ (.slice (some ⟨gn, 0, none⟩) 1 nc)).setCell ⟨w.heap.size + 1, 2, none⟩ (.int .i64 0) = Y at hend ⊢
        clear hS4 hr4 d0' d1' d2' df' e4' r1 hS3 hr3
        go_wp2_with fail
        go_meet
        exact ⟨_, _, hend⟩
    case rest =>
      obtain ⟨gn, nc, hR⟩ := hcut
      obtain ⟨Y, hYe⟩ : ∃ Y : World, Y = wc := ⟨_, rfl⟩
      subst hYe
      obtain ⟨hown, hSY⟩ := hR.out
      obtain ⟨cg, cc0, cur, hwl, hcg, hcu⟩ := hSY.lw.at_
      have w1 : Y.cell? ⟨wl, 1, none⟩ = some (.pointer (some ⟨x.kb, 0, none⟩)) := cell_of hwl rfl
      have c3 : Y.cell? ⟨cb, 3, none⟩ = some (.slice none 0 0) := cell_of hSY.cl.blk rfl
      have d0 : Y.cell? ⟨w.heap.size + 1, 0, none⟩ = some (.int .i64 1) := cell_of hSY.rt rfl
      have d1 : Y.cell? ⟨w.heap.size + 1, 1, none⟩ = some (.slice (some ⟨gn, 0, none⟩) 1 nc) := cell_of hSY.rt rfl
      have d2 : Y.cell? ⟨w.heap.size + 1, 2, none⟩ = some (.int .i64 0) := cell_of hSY.rt rfl
      have hdr : Below Y.heap.size Y Y.drew := below_drew (Below.refl _ Y)
      have hSd := hSY.under hdr
      have hpub := hid_of (publish_nil hSd.ks hSd.los rfl 1 (some ⟨gn, 0, none⟩) 1 nc 0 none 0)
      have hone5 : Hid (∀ u ∈ ansL, u.oneCell' = true) := by unfold Hid ansL; simp [Value.oneCell']
      replace hown := hid_of hown
      replace hSd := hid_of hSd
      have hwlY := hid_of hwl
      clear hwl hcg hcu hR hdr hSY hS3 hr3 n0 n1 e4 hbs hone
      go_upto_region 11 with fail
      go_cut [] from 64 (fun wx => ∃ log : Value, Hid (Rooted lo w wl cb x ⟨1, some ⟨gn, 0, none⟩, 1, nc, 0, 0, 0, 0, none, 0, 0⟩ 1 ansL log gn nc wx))
      case first =>
        go_region_law (first
          | (go_simp; go_at_call 9; refine hpub.out.mono ?_; rintro e Z ⟨rfl, hT, hk⟩; simp only; have hSZ := hSd.out.hot3 hT hk; have c3z : Z.cell? ⟨cb, 3, none⟩ = some (.slice none 0 0) := cell_of hSZ.cl.blk rfl; have c3a : ∀ o, (Z.alloc o).cell? ⟨cb, 3, none⟩ = some (.slice none 0 0) := fun o => cell_al c3z; have hownZ := hid_of (ownsRow_keep hown.out (fun g cs e => (hT.cold g _ _ e rfl).trans e.symm)); have hbsZ : Hid (∀ o, lo ≤ (Z.alloc o).heap.size) := fun o => Nat.le_trans hSZ.los ((Below.refl _ Z).alloc (Nat.le_refl _) o).size; have sq0 : Z.cell? ⟨wl, 1, none⟩ = some (.pointer (some ⟨x.kb, 0, none⟩)) := cell_of (hT.cold _ _ _ hwlY.out rfl) rfl; have sq1 : Z.cell? ⟨w.heap.size + 1, 0, none⟩ = some (.int .i64 1) := cell_of hSZ.rt rfl; have sq2 : Z.cell? ⟨w.heap.size + 1, 1, none⟩ = some (.slice (some ⟨gn, 0, none⟩) 1 nc) := cell_of hSZ.rt rfl; have sq3 : Z.cell? ⟨w.heap.size + 1, 2, none⟩ = some (.int .i64 0) := cell_of hSZ.rt rfl; have hwlZ := hid_of (hT.cold _ _ _ hwlY.out rfl); replace hSZ := hid_of hSZ; clear hT hk)
          | (refine step_append_lies _ (by rfl) _ _ 122 (by rfl) lo 130 ai _ 5 40 ans_u hai hai1 hai2 hai3 (by rfl) (by decide) _ 0 [] (by rfl) (World.ownsRow_nil _ _ _ _) _ 1 1 ansL (by rfl) (by rfl) (World.news_of_block (heap_alloc_new Z _)) hone5.out (by decide) hm1.out (by decide) (hbsZ.out _) _ rfl ?_; intro ga ca V r1 r2 r3 r4; have hF5 : Fr (fun _ => False) Z V := (Fr.of_below ((Below.refl _ Z).alloc (Nat.le_refl _) _)).grown (b := none) r2 (fun g e => by cases e); have hBV : Below Z.heap.size Z V := hF5.below (Nat.le_refl _) (fun _ h => h.elim); have cv := up_below hBV hSZ.out.cl.blk; have c3v : V.cell? ⟨cb, 3, none⟩ = some (.slice none 0 0) := cell_of cv rfl; have c3f : V.frozen? ⟨cb, 3, none⟩ = false := warm cv; have hownV := hid_of (ownsRow_keep hownZ.out (fun g cs e => hBV.block g (Array.getElem?_eq_some_iff.1 e).1)); have hlg := hid_of (hSZ.out.logged (c := ca) r1 r2); have vq0 : V.cell? ⟨wl, 1, none⟩ = some (.pointer (some ⟨x.kb, 0, none⟩)) := cell_of (up_below hBV hwlZ.out) rfl; have vrt := up_below hBV hSZ.out.rt; have vq1 : V.cell? ⟨w.heap.size + 1, 0, none⟩ = some (.int .i64 1) := cell_of vrt rfl; have vq2 : V.cell? ⟨w.heap.size + 1, 1, none⟩ = some (.slice (some ⟨gn, 0, none⟩) 1 nc) := cell_of vrt rfl; have vq3 : V.cell? ⟨w.heap.size + 1, 2, none⟩ = some (.int .i64 0) := cell_of vrt rfl; have nw : wl ≠ cb := ne_of_types (up_below hBV hwlZ.out) cv (by decide); have nr : w.heap.size + 1 ≠ cb := ne_of_types vrt cv (by decide); clear vrt; replace cv := hid_of cv; clear r1 r2 r3 r4 hF5 hBV))
        all_goals
          have hend : Hid (Rooted lo w wl cb x ⟨1, some ⟨gn, 0, none⟩, 1, nc, 0, 0, 0, 0, none, 0, 0⟩ 1 ansL (.slice (some ⟨ga, 0, none⟩) 1 ca) gn nc (V.setCell ⟨cb, 3, none⟩ (.slice (some ⟨ga, 0, none⟩) 1 ca))) := ⟨ownsRow_keep hownV.out (fun g cs e => Below.heap_setCell _ _ _ _ (ne_of_types e cv.out (by decide))), hlg.out⟩
          generalize V.setCell ⟨cb, 3, none⟩ (.slice (some ⟨ga, 0, none⟩) 1 ca) = U at hend ⊢
          clear hSZ c3z c3a hownZ hbsZ cv c3v c3f hownV hlg sq0 sq1 sq2 sq3 vq0 vq1 vq2 vq3 nw nr hwlZ
          go_wp2_with fail
          go_meet
          exact ⟨_, hend⟩
      case rest =>
        obtain ⟨log, hR⟩ := hcut
        obtain ⟨U, hUe⟩ : ∃ U : World, U = wc := ⟨_, rfl⟩
        subst hUe
        obtain ⟨hown, hSU⟩ := hR.out
        have d0 : U.cell? ⟨w.heap.size + 1, 0, none⟩ = some (.int .i64 1) := cell_of hSU.rt rfl
        have d1 : U.cell? ⟨w.heap.size + 1, 1, none⟩ = some (.slice (some ⟨gn, 0, none⟩) 1 nc) := cell_of hSU.rt rfl
        have d2 : U.cell? ⟨w.heap.size + 1, 2, none⟩ = some (.int .i64 0) := cell_of hSU.rt rfl
        have kres := hSU.res
        have kk := setRow_heap U (w.heap.size + 2) _ #[.int .i64 1, .slice (some ⟨gn, 0, none⟩) 1 nc, .int .i64 0] _ _ kres
        obtain ⟨t0, t1, t2⟩ := cells3 kk
        have hF : Fr (· = w.heap.size + 2) U (U.setRow (w.heap.size + 2) #[.int .i64 1, .slice (some ⟨gn, 0, none⟩) 1 nc, .int .i64 0]) := ⟨rfl, rfl, rfl, by rw [size_setRow']; exact Nat.le_refl _, fun k _ hs => setRow_other U (w.heap.size + 2) k _ hs⟩
        have hfin : Hid (Fin lo w wl cb x gn nc log (U.setRow (w.heap.size + 2) #[.int .i64 1, .slice (some ⟨gn, 0, none⟩) 1 nc, .int .i64 0])) := fin_of hown hSU hF
        clear hown hSU hR hpub hSd hwlY w1 c3 kk hF
        go_wp2_with fail
        refine wp_loop_rounds 1 ?_
        rw [rounds_succ]
        go_wp2_with (refine wpList_store_row rfl 28 _ _ rfl (w.heap.size + 2) _ rfl rfl _ _ kres r_i rfl (row3_one _ _ _ _ _) ?_)
        go_wp2_with fail
        exact bodyPost_ret (v := .agg #[.int .i64 1, .slice (some ⟨gn, 0, none⟩) 1 nc, .int .i64 0]) (by simp [results, Try.results30, go_sem, t0, t1, t2]) rfl ⟨gn, nc, log, rfl, hfin.out⟩
end Go.Proofs.Ytloeongljbgmnaa
