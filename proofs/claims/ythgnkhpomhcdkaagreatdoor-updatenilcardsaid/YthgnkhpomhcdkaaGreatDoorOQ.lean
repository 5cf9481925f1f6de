import Derived.Test.YthgnkhpomhcdkaaGreatDoorOK
/-! update: changed, where the change finds a fault. -/
namespace Go.Proofs.YthgnkhpomhcdkaaGreatDoor
open Go Go.RowKit Dp

set_option maxHeartbeats 8000000 in
set_option maxRecDepth 100000 in
theorem changed_err (z : Int) (f : Nat) (p1 p2 : Value) (ub g c : Nat) (tv mv : Value) (s : ByteArray) (h1 : 1 ≤ s.size) (h2 : Dp.byteAt s 0 ≠ 36) (u : V5) (w : World)
    (eg : ∀ args w, (callFunc f args).run Tryz.prog w = .ok (.enter f args) w)
    (hub : w.heap[ub]? = some (.cells #[tv, mv] 53)) (hp : w.cell? ⟨g, 0, none⟩ = some (.string s))
    (hf : Hid (∀ W pv, Below w.heap.size w W → Reads W pv [s] → Calls Tryz.prog f #[u.v, pv, p1, p2] W fun e w' => e = .returned (.tuple #[u.v, .iface 69 (.int .i64 z)]) ∧ Below W.heap.size W w')) :
    Calls Tryz.prog 60 #[.pointer (some ⟨ub, 0, none⟩), anyV g c (.func (.func f) #[] #[p1, p2]), u.v] w fun e w' => e = .returned (.tuple #[u.v, .iface 69 (.int .i64 z)]) ∧ Below w.heap.size w w' := by
  have hB3 : Below w.heap.size w (((w.alloc (.cells #[pathV g c, .func (.func f) #[] #[p1, p2]] 79)).alloc (u.obj 28)).alloc (.cells #[.int .i64 0, .int .i64 0, .string ⟨#[]⟩, .slice none 0 0, .slice none 0 0] 28)) := (((Below.refl _ w).alloc (Nat.le_refl _) _).alloc (by simp) _).alloc (by simp; omega) _
  have X0 : (((w.alloc (.cells #[pathV g c, .func (.func f) #[] #[p1, p2]] 79)).alloc (u.obj 28)).alloc (.cells #[.int .i64 0, .int .i64 0, .string ⟨#[]⟩, .slice none 0 0, .slice none 0 0] 28)).heap[w.heap.size]? = some (.cells #[pathV g c, .func (.func f) #[] #[p1, p2]] 79) := al_lt (by simp; omega) (al_lt (by simp) (al_eq rfl))
  have X1 : (((w.alloc (.cells #[pathV g c, .func (.func f) #[] #[p1, p2]] 79)).alloc (u.obj 28)).alloc (.cells #[.int .i64 0, .int .i64 0, .string ⟨#[]⟩, .slice none 0 0, .slice none 0 0] 28)).heap[w.heap.size + 1]? = some (u.obj 28) := al_lt (by simp) (al_eq (by simp))
  have X2 : (((w.alloc (.cells #[pathV g c, .func (.func f) #[] #[p1, p2]] 79)).alloc (u.obj 28)).alloc (.cells #[.int .i64 0, .int .i64 0, .string ⟨#[]⟩, .slice none 0 0, .slice none 0 0] 28)).heap[w.heap.size + 1 + 1]? = some (.cells #[.int .i64 0, .int .i64 0, .string ⟨#[]⟩, .slice none 0 0, .slice none 0 0] 28) := al_eq (by simp)
  have hpl := hid_of (fun W (hbw : Below w.heap.size w W) => places_one mv g c s h1 h2 u W (stay hbw hp))
  have ym := (cell_of (block_keep hub hB3) 1)
  simp only [List.getElem?_toArray, List.getElem?_cons_zero, List.getElem?_cons_succ] at ym
  have y0 := cell_of X0 0
  have y1 := cell_of X0 1
  simp only [List.getElem?_toArray, List.getElem?_cons_zero, List.getElem?_cons_succ] at y0 y1
  obtain ⟨z0, z1, z2, z3, z4⟩ := box_five X1 (Below.refl _ _)
  replace hB3 := hid_of hB3; replace X0 := hid_of X0; replace X1 := hid_of X1; replace X2 := hid_of X2
  clear h1 h2 hub hp
  unfold V5.v V5.obj at *
  go_enter Tryz.func60, Tryz.ntmps60
  go_wp2_with fail
  generalize ((w.alloc (.cells #[pathV g c, .func (.func f) #[] #[p1, p2]] 79)).alloc (.cells #[.int .i64 u.k, .int .i64 u.x, .string u.s, .slice u.an u.ln u.cn, .slice u.ai u.li u.ci] 28)).alloc (.cells #[.int .i64 0, .int .i64 0, .string ⟨#[]⟩, .slice none 0 0, .slice none 0 0] 28) = wq at *
  have hp1 := hid_of (hpl.out wq.drew (below_drew hB3.out))
  clear hpl
  go_region_held3 (fun W => W.cell? ⟨ub, 1, none⟩ = some mv ∧ W.cell? ⟨w.heap.size, 0, none⟩ = some (pathV g c) ∧ W.cell? ⟨w.heap.size + 1, 0, none⟩ = some (.int .i64 u.k) ∧ W.cell? ⟨w.heap.size + 1, 1, none⟩ = some (.int .i64 u.x) ∧ W.cell? ⟨w.heap.size + 1, 2, none⟩ = some (.string u.s) ∧ W.cell? ⟨w.heap.size + 1, 3, none⟩ = some (.slice u.an u.ln u.cn) ∧ W.cell? ⟨w.heap.size + 1, 4, none⟩ = some (.slice u.ai u.li u.ci)) (go_keep) ((go_at_call 112; refine hp1.out.mono ?_; rintro e W1 ⟨hb1', gp, cp, gs, cs, rfl, hgp, hcs, hgs⟩; have hb1 : Below wq.heap.size wq W1 := ⟨hb1'.os, hb1'.tape, hb1'.output, hb1'.size, hb1'.block⟩; have HB1 := hid_of (hB3.out.trans (hb1.mono hB3.out.size)); have C0 := hid_of (block_keep X0.out hb1); have C1 := hid_of (block_keep X1.out hb1); have C2 := hid_of (block_keep X2.out hb1); have jm := stay hb1 ym; have i0 := stay hb1 y0; obtain ⟨j0, j1, j2, j3, j4, -⟩ := row_cells C1.out; clear hb1 hb1'))
  clear ym y0 y1 z0 z1 z2 z3 z4 jm i0 X0 X1 X2 hp1
  have i1 := cell_of C0.out 1
  simp only [List.getElem?_toArray, List.getElem?_cons_zero, List.getElem?_cons_succ] at i1
  have hfc := hid_of (hf.out W1 _ HB1.out (reads_one hgs hcs))
  have hw1 : w.heap.size + 1 + 1 < W1.heap.size := (Array.getElem?_eq_some_iff.1 C2.out).1
  replace hgs := hid_of hgs; replace hcs := hid_of hcs
  clear hf hB3
  go_wp2_with fail
  refine wp_loop_rounds 2 ?_
  rw [rounds_succ]
  go_wp2_with fail
  refine hfc.out.mono ?_
  rintro e W2 ⟨rfl, hb2⟩
  have HB2 := hid_of (HB1.out.trans (hb2.mono HB1.out.size))
  have D1 := hid_of (block_keep C1.out hb2)
  have D2 := hid_of (block_keep C2.out hb2)
  clear hb2 hfc hgp j0 j1 j2 j3 j4 i1 C0 C1 C2
  obtain ⟨t0, t1, t2, t3, t4, tf⟩ := row_cells D1.out
  have tf0 := tf 0; have tf1 := tf 1; have tf2 := tf 2; have tf3 := tf 3; have tf4 := tf 4
  clear tf
  go_upto_region 8 with fail
  rw [← put5_def]
  have hr := put5_at D1.out (.int .i64 u.k) (.int .i64 u.x) (.string u.s) (.slice u.an u.ln u.cn) (.slice u.ai u.li u.ci)
  have hr2 := (put5_far (w := W2) (g := w.heap.size + 1) (.int .i64 u.k) (.int .i64 u.x) (.string u.s) (.slice u.an u.ln u.cn) (.slice u.ai u.li u.ci) (show w.heap.size + 1 + 1 ≠ w.heap.size + 1 by omega)).trans D2.out
  have hB4 := hid_of (HB2.out.trans (put5_below (w := W2) (g := w.heap.size + 1) (by omega) (.int .i64 u.k) (.int .i64 u.x) (.string u.s) (.slice u.an u.ln u.cn) (.slice u.ai u.li u.ci)))
  clear t0 t1 t2 t3 t4 tf0 tf1 tf2 tf3 tf4 D1 D2 HB2
  generalize put5 W2 (w.heap.size + 1) (.int .i64 u.k) (.int .i64 u.x) (.string u.s) (.slice u.an u.ln u.cn) (.slice u.ai u.li u.ci) = W3 at hr hr2 hB4 ⊢
  obtain ⟨q0, q1, q2, q3, q4, -⟩ := row_cells hr
  obtain ⟨t0, t1, t2, t3, t4, tf⟩ := row_cells hr2
  have tf0 := tf 0; have tf1 := tf 1; have tf2 := tf 2; have tf3 := tf 3; have tf4 := tf 4
  replace hr2 := hid_of hr2; replace hr := hid_of hr
  clear tf
  go_wp2_with fail
  rw [← put5_def]
  have hr5 := put5_at hr2.out (.int .i64 u.k) (.int .i64 u.x) (.string u.s) (.slice u.an u.ln u.cn) (.slice u.ai u.li u.ci)
  have hB5 := hid_of (hB4.out.trans (put5_below (w := W3) (g := w.heap.size + 1 + 1) (by omega) (.int .i64 u.k) (.int .i64 u.x) (.string u.s) (.slice u.an u.ln u.cn) (.slice u.ai u.li u.ci)))
  clear q0 q1 q2 q3 q4 t0 t1 t2 t3 t4 tf0 tf1 tf2 tf3 tf4 hr hr2 hB4
  generalize put5 W3 (w.heap.size + 1 + 1) (.int .i64 u.k) (.int .i64 u.x) (.string u.s) (.slice u.an u.ln u.cn) (.slice u.ai u.li u.ci) = w9 at hr5 hB5 ⊢
  have q0 : w9.cell? ⟨w.heap.size + 1 + 1, 0, none⟩ = some (.int .i64 u.k) := cell_of hr5 0
  have q1 : w9.cell? ⟨w.heap.size + 1 + 1, 1, none⟩ = some (.int .i64 u.x) := cell_of hr5 1
  have q2 : w9.cell? ⟨w.heap.size + 1 + 1, 2, none⟩ = some (.string u.s) := cell_of hr5 2
  have q3 : w9.cell? ⟨w.heap.size + 1 + 1, 3, none⟩ = some (.slice u.an u.ln u.cn) := cell_of hr5 3
  have q4 : w9.cell? ⟨w.heap.size + 1 + 1, 4, none⟩ = some (.slice u.ai u.li u.ci) := cell_of hr5 4
  refine bodyPost_ret (v := .tuple #[.agg #[.int .i64 u.k, .int .i64 u.x, .string u.s, .slice u.an u.ln u.cn, .slice u.ai u.li u.ci], .iface 69 (.int .i64 z)]) (by simp [results, Tryz.results60, go_sem, q0, q1, q2, q3, q4]) rfl ?_
  exact ⟨rfl, hB5.out⟩
end Go.Proofs.YthgnkhpomhcdkaaGreatDoor
/-! update: behind one term. -/
namespace Go.Proofs.YthgnkhpomhcdkaaGreatDoor
open Go Go.RowKit Dp

theorem kind_of {w : World} {R : Tr} {y : V5} (h : VRep w R y.cs) : y.k = R.kind := by
  obtain ⟨k, x, s, ns, its⟩ := R
  unfold VRep V5.cs five at h
  obtain ⟨nm, a, c, h, -⟩ := h
  simp only [List.cons.injEq, Value.int.injEq] at h
  exact h.1.2
set_option maxHeartbeats 8000000 in
set_option maxRecDepth 100000 in
theorem behind_ok (R : Tr) (B : Nat) (hBB : B ≤ 16384) (f : Nat) (caps : Array Value) (ub g c : Nat) (fr : Bool) (u : V5) (S0 : Nat → Prop) (w : World) (hSw0 : ∀ k, S0 k → k < w.heap.size)
    (hk : R.kind = 6) (hS : SmallT R) (hc : checkT 0 R = 0) (hsh : Sh B R) (hE : EnvU w)
    (hf : Hid (∀ W, Below w.heap.size w W → Calls Tryz.prog 60 #[.pointer (some ⟨ub, 0, none⟩), anyV g c (.func (.func f) #[] caps), u.v] W (Laid S0 W R))) :
    Calls Tryz.prog 28 #[.pointer (some ⟨ub, 0, none⟩), termV g c (.func (.func f) #[] caps), u.v, .bool fr] w (Laid S0 w R) := by
  have hta : ∀ w, (Instr.typeAssert (termV g c (.func (.func f) #[] caps)) 55 79 true).run Tryz.prog w = .ok (.tuple #[.agg #[pathV g c, .func (.func f) #[] caps], .bool true]) w := fun w => by kernel_rfl
  have hB3 : Below w.heap.size w (((w.alloc (u.obj 28)).alloc (.cells #[.int .i64 0, .int .i64 0, .string ⟨#[]⟩, .slice none 0 0, .slice none 0 0] 28)).alloc (.cells #[pathV g c, .func (.func f) #[] caps] 79)) := (((Below.refl _ w).alloc (Nat.le_refl _) _).alloc (by simp) _).alloc (by simp; omega) _
  have X0 : (((w.alloc (u.obj 28)).alloc (.cells #[.int .i64 0, .int .i64 0, .string ⟨#[]⟩, .slice none 0 0, .slice none 0 0] 28)).alloc (.cells #[pathV g c, .func (.func f) #[] caps] 79)).heap[w.heap.size]? = some (u.obj 28) := al_lt (by simp; omega) (al_lt (by simp) (al_eq rfl))
  have X1 : (((w.alloc (u.obj 28)).alloc (.cells #[.int .i64 0, .int .i64 0, .string ⟨#[]⟩, .slice none 0 0, .slice none 0 0] 28)).alloc (.cells #[pathV g c, .func (.func f) #[] caps] 79)).heap[w.heap.size + 1]? = some (.cells #[.int .i64 0, .int .i64 0, .string ⟨#[]⟩, .slice none 0 0, .slice none 0 0] 28) := al_lt (by simp) (al_eq (by simp))
  have X2 : (((w.alloc (u.obj 28)).alloc (.cells #[.int .i64 0, .int .i64 0, .string ⟨#[]⟩, .slice none 0 0, .slice none 0 0] 28)).alloc (.cells #[pathV g c, .func (.func f) #[] caps] 79)).heap[w.heap.size + 1 + 1]? = some (.cells #[pathV g c, .func (.func f) #[] caps] 79) := al_eq (by simp)
  have XN := heap_alloc_new ((w.alloc (u.obj 28)).alloc (.cells #[.int .i64 0, .int .i64 0, .string ⟨#[]⟩, .slice none 0 0, .slice none 0 0] 28)) (.cells #[.slice (some ⟨g, 0, none⟩) 1 c, .nilFunc] 79)
  simp only [World.size_alloc] at XN
  have n1 := cell_of XN 1
  have nf1 := frozen_of XN 1
  simp only [List.getElem?_toArray, List.getElem?_cons_zero, List.getElem?_cons_succ] at n1
  clear XN
  obtain ⟨z0, z1, z2, z3, z4⟩ := box_five X0 (Below.refl _ _)
  have y0 := cell_of X2 0
  have y1 := cell_of X2 1
  simp only [List.getElem?_toArray, List.getElem?_cons_zero, List.getElem?_cons_succ] at y0 y1
  have hch := hid_of (hf.out _ hB3)
  have hEW := hid_of (fun W (hb : Below w.heap.size w W) => hE.keep hb)
  have hdoc := hid_of (fun (y : V5) W (hb : Below w.heap.size w W) (hV : VRep W R y.cs) => doc_ok R B hBB y W (by rw [kind_of hV, hk]) hV hS hc hsh (hEW.out W hb))
  replace hB3 := hid_of hB3; replace X0 := hid_of X0; replace X1 := hid_of X1
  clear X2 hS hc hsh hE hf hk hEW
  unfold V5.v V5.obj at *
  go_enter Tryz.func28, Tryz.ntmps28
  go_wp2_with fail
  rw [run_store _ _ _ _ _ (by rfl), n1]
  simp only [nf1]
  clear n1 nf1
  go_wp2_with fail
  generalize ((w.alloc (.cells #[.int .i64 u.k, .int .i64 u.x, .string u.s, .slice u.an u.ln u.cn, .slice u.ai u.li u.ci] 28)).alloc (.cells #[.int .i64 0, .int .i64 0, .string ⟨#[]⟩, .slice none 0 0, .slice none 0 0] 28)).alloc (.cells #[pathV g c, .func (.func f) #[] caps] 79) = wq at *
  refine hch.out.mono ?_
  rintro e W1 ⟨hb1, ⟨k2, x2, s2, an2, ln2, cn2, ai2, li2, ci2⟩, rfl, hy⟩
  unfold V5.v
  dsimp only
  have hwq : w.heap.size + 1 < wq.heap.size := (Array.getElem?_eq_some_iff.1 X1.out).1
  have HB1 := hid_of (hB3.out.trans (hb1.mono hB3.out.size))
  have C0 := hid_of (block_keep X0.out hb1)
  have C1 := hid_of (block_keep X1.out hb1)
  replace hy := hid_of hy
  clear hb1 z0 z1 z2 z3 z4 y0 y1 X0 X1 hch hB3
  obtain ⟨t0, t1, t2, t3, t4, tf⟩ := row_cells C0.out
  have tf0 := tf 0; have tf1 := tf 1; have tf2 := tf 2; have tf3 := tf 3; have tf4 := tf 4
  clear tf
  go_upto_region 13 with fail
  rw [← put5_def]
  have hr := put5_at C0.out (.int .i64 k2) (.int .i64 x2) (.string s2) (.slice an2 ln2 cn2) (.slice ai2 li2 ci2)
  have hr2 := (put5_far (w := W1) (g := w.heap.size) (.int .i64 k2) (.int .i64 x2) (.string s2) (.slice an2 ln2 cn2) (.slice ai2 li2 ci2) (show w.heap.size + 1 ≠ w.heap.size by omega)).trans C1.out
  have hB4 := hid_of (HB1.out.trans (put5_below (w := W1) (g := w.heap.size) (Nat.le_refl _) (.int .i64 k2) (.int .i64 x2) (.string s2) (.slice an2 ln2 cn2) (.slice ai2 li2 ci2)))
  have hfin := hid_of (hy.out.agree (W' := put5 W1 w.heap.size (.int .i64 k2) (.int .i64 x2) (.string s2) (.slice an2 ln2 cn2) (.slice ai2 li2 ci2)) ⟨Nat.le_of_eq (put5_size _ _ _ _ _ _ _).symm, fun p u hp hc => (World.cell?_of_block (w := W1) (put5_far (.int .i64 k2) (.int .i64 x2) (.string s2) (.slice an2 ln2 cn2) (.slice ai2 li2 ci2) (show p.block ≠ w.heap.size from fun e => by
    have hp' : S0 p.block ∨ wq.heap.size ≤ p.block := hp
    have hp2 := hSw0 p.block
    rcases hp' with h | h
    · have := hp2 h; omega
    · omega))).trans hc⟩)
  clear t0 t1 t2 t3 t4 tf0 tf1 tf2 tf3 tf4 C0 C1 HB1 hy
  generalize put5 W1 w.heap.size (.int .i64 k2) (.int .i64 x2) (.string s2) (.slice an2 ln2 cn2) (.slice ai2 li2 ci2) = W2 at hr hr2 hB4 hfin ⊢
  obtain ⟨q0, q1, q2, q3, q4, -⟩ := row_cells hr
  replace hr2 := hid_of hr2; replace hr := hid_of hr
  have hd1 := hid_of (hdoc.out ⟨k2, x2, s2, an2, ln2, cn2, ai2, li2, ci2⟩ W2.drew (below_drew hB4.out) (VRep.keep (below_drew (Below.refl _ W2)) _ _ hfin.out.rep))
  dsimp only at hd1
  go_wp2_with fail
  go_region_held3 (fun W => W.cell? ⟨w.heap.size, 0, none⟩ = some (.int .i64 k2) ∧ W.cell? ⟨w.heap.size, 1, none⟩ = some (.int .i64 x2) ∧ W.cell? ⟨w.heap.size, 2, none⟩ = some (.string s2) ∧ W.cell? ⟨w.heap.size, 3, none⟩ = some (.slice an2 ln2 cn2) ∧ W.cell? ⟨w.heap.size, 4, none⟩ = some (.slice ai2 li2 ci2)) (go_keep) (first
    | (go_at_call 27; refine hd1.out.mono ?_; rintro e W3 ⟨rfl, hb3'⟩; have hb3 : Below W2.heap.size W2 W3 := ⟨hb3'.os, hb3'.tape, hb3'.output, hb3'.size, hb3'.block⟩; have HB3 := hid_of (hB4.out.trans (hb3.mono hB4.out.size)); have E0 := hid_of (block_keep hr.out hb3); have E1 := hid_of (block_keep hr2.out hb3); have hf3 := hid_of (hfin.out.keep hb3); obtain ⟨j0, j1, j2, j3, j4, -⟩ := row_cells E0.out; obtain ⟨t0, t1, t2, t3, t4, tf⟩ := row_cells E1.out; have tf0 := tf 0; have tf1 := tf 1; have tf2 := tf 2; have tf3 := tf 3; have tf4 := tf 4; clear hb3 hb3' tf)
    | (go_at_call 62; refine (failed_ok _).mono ?_; rintro e W4 ⟨rfl, rfl⟩))
  rw [← put5_def]
  have hr5 := put5_at E1.out (.int .i64 k2) (.int .i64 x2) (.string s2) (.slice an2 ln2 cn2) (.slice ai2 li2 ci2)
  have hB5 := hid_of (HB3.out.trans (put5_below (w := W4) (g := w.heap.size + 1) (by omega) (.int .i64 k2) (.int .i64 x2) (.string s2) (.slice an2 ln2 cn2) (.slice ai2 li2 ci2)))
  have hfin2 := hid_of (Seen.wide (S' := fun k => S0 k ∨ w.heap.size ≤ k) (hf3.out.agree (W' := put5 W4 (w.heap.size + 1) (.int .i64 k2) (.int .i64 x2) (.string s2) (.slice an2 ln2 cn2) (.slice ai2 li2 ci2)) ⟨Nat.le_of_eq (put5_size _ _ _ _ _ _ _).symm, fun p u hp hc => (World.cell?_of_block (w := W4) (put5_far (.int .i64 k2) (.int .i64 x2) (.string s2) (.slice an2 ln2 cn2) (.slice ai2 li2 ci2) (show p.block ≠ w.heap.size + 1 from fun e => by
    have hp' : S0 p.block ∨ wq.heap.size ≤ p.block := hp
    have hp2 := hSw0 p.block
    rcases hp' with h | h
    · have := hp2 h; omega
    · omega))).trans hc⟩) (fun k hk => by
      rcases hk with h | h
      · exact .inl h
      · exact .inr (by omega)))
  clear q0 q1 q2 q3 q4 j0 j1 j2 j3 j4 t0 t1 t2 t3 t4 tf0 tf1 tf2 tf3 tf4 hr hr2 hB4 hfin E0 E1 HB3 hf3 hd1 hdoc
  generalize put5 W4 (w.heap.size + 1) (.int .i64 k2) (.int .i64 x2) (.string s2) (.slice an2 ln2 cn2) (.slice ai2 li2 ci2) = w9 at hr5 hB5 hfin2 ⊢
  have q0 : w9.cell? ⟨w.heap.size + 1, 0, none⟩ = some (.int .i64 k2) := cell_of hr5 0
  have q1 : w9.cell? ⟨w.heap.size + 1, 1, none⟩ = some (.int .i64 x2) := cell_of hr5 1
  have q2 : w9.cell? ⟨w.heap.size + 1, 2, none⟩ = some (.string s2) := cell_of hr5 2
  have q3 : w9.cell? ⟨w.heap.size + 1, 3, none⟩ = some (.slice an2 ln2 cn2) := cell_of hr5 3
  have q4 : w9.cell? ⟨w.heap.size + 1, 4, none⟩ = some (.slice ai2 li2 ci2) := cell_of hr5 4
  go_wp2_with fail
  refine bodyPost_ret (v := .tuple #[.agg #[.int .i64 k2, .int .i64 x2, .string s2, .slice an2 ln2 cn2, .slice ai2 li2 ci2], .nilIface]) (by simp [results, Tryz.results28, go_sem, q0, q1, q2, q3, q4]) rfl ?_
  exact ⟨hB5.out, ⟨k2, x2, s2, an2, ln2, cn2, ai2, li2, ci2⟩, rfl, hfin2.out⟩
end Go.Proofs.YthgnkhpomhcdkaaGreatDoor
/-! update: behind one term, where a fault is found. -/
namespace Go.Proofs.YthgnkhpomhcdkaaGreatDoor
open Go Go.RowKit Dp

set_option maxHeartbeats 8000000 in
set_option maxRecDepth 100000 in
theorem behind_err (z : Int) (f : Nat) (caps : Array Value) (ub g c : Nat) (fr : Bool) (u : V5) (w : World)
    (hf : Hid (∀ W, Below w.heap.size w W → Calls Tryz.prog 60 #[.pointer (some ⟨ub, 0, none⟩), anyV g c (.func (.func f) #[] caps), u.v] W fun e w' => e = .returned (.tuple #[u.v, .iface 69 (.int .i64 z)]) ∧ Below W.heap.size W w')) :
    Calls Tryz.prog 28 #[.pointer (some ⟨ub, 0, none⟩), termV g c (.func (.func f) #[] caps), u.v, .bool fr] w fun e w' => e = .returned (.tuple #[u.v, .iface 69 (.int .i64 z)]) ∧ Below w.heap.size w w' := by
  have hta : ∀ w, (Instr.typeAssert (termV g c (.func (.func f) #[] caps)) 55 79 true).run Tryz.prog w = .ok (.tuple #[.agg #[pathV g c, .func (.func f) #[] caps], .bool true]) w := fun w => by kernel_rfl
  have hB3 : Below w.heap.size w (((w.alloc (u.obj 28)).alloc (.cells #[.int .i64 0, .int .i64 0, .string ⟨#[]⟩, .slice none 0 0, .slice none 0 0] 28)).alloc (.cells #[pathV g c, .func (.func f) #[] caps] 79)) := (((Below.refl _ w).alloc (Nat.le_refl _) _).alloc (by simp) _).alloc (by simp; omega) _
  have X0 : (((w.alloc (u.obj 28)).alloc (.cells #[.int .i64 0, .int .i64 0, .string ⟨#[]⟩, .slice none 0 0, .slice none 0 0] 28)).alloc (.cells #[pathV g c, .func (.func f) #[] caps] 79)).heap[w.heap.size]? = some (u.obj 28) := al_lt (by simp; omega) (al_lt (by simp) (al_eq rfl))
  have X1 : (((w.alloc (u.obj 28)).alloc (.cells #[.int .i64 0, .int .i64 0, .string ⟨#[]⟩, .slice none 0 0, .slice none 0 0] 28)).alloc (.cells #[pathV g c, .func (.func f) #[] caps] 79)).heap[w.heap.size + 1]? = some (.cells #[.int .i64 0, .int .i64 0, .string ⟨#[]⟩, .slice none 0 0, .slice none 0 0] 28) := al_lt (by simp) (al_eq (by simp))
  have X2 : (((w.alloc (u.obj 28)).alloc (.cells #[.int .i64 0, .int .i64 0, .string ⟨#[]⟩, .slice none 0 0, .slice none 0 0] 28)).alloc (.cells #[pathV g c, .func (.func f) #[] caps] 79)).heap[w.heap.size + 1 + 1]? = some (.cells #[pathV g c, .func (.func f) #[] caps] 79) := al_eq (by simp)
  have XN := heap_alloc_new ((w.alloc (u.obj 28)).alloc (.cells #[.int .i64 0, .int .i64 0, .string ⟨#[]⟩, .slice none 0 0, .slice none 0 0] 28)) (.cells #[.slice (some ⟨g, 0, none⟩) 1 c, .nilFunc] 79)
  simp only [World.size_alloc] at XN
  have n1 := cell_of XN 1
  have nf1 := frozen_of XN 1
  simp only [List.getElem?_toArray, List.getElem?_cons_zero, List.getElem?_cons_succ] at n1
  clear XN
  obtain ⟨z0, z1, z2, z3, z4⟩ := box_five X0 (Below.refl _ _)
  have y0 := cell_of X2 0
  have y1 := cell_of X2 1
  simp only [List.getElem?_toArray, List.getElem?_cons_zero, List.getElem?_cons_succ] at y0 y1
  have hch := hid_of (hf.out _ hB3)
  replace hB3 := hid_of hB3; replace X0 := hid_of X0; replace X1 := hid_of X1
  clear X2 hf
  unfold V5.v V5.obj at *
  go_enter Tryz.func28, Tryz.ntmps28
  go_wp2_with fail
  rw [run_store _ _ _ _ _ (by rfl), n1]
  simp only [nf1]
  clear n1 nf1
  go_wp2_with fail
  generalize ((w.alloc (.cells #[.int .i64 u.k, .int .i64 u.x, .string u.s, .slice u.an u.ln u.cn, .slice u.ai u.li u.ci] 28)).alloc (.cells #[.int .i64 0, .int .i64 0, .string ⟨#[]⟩, .slice none 0 0, .slice none 0 0] 28)).alloc (.cells #[pathV g c, .func (.func f) #[] caps] 79) = wq at *
  refine hch.out.mono ?_
  rintro e W1 ⟨rfl, hb1⟩
  have HB1 := hid_of (hB3.out.trans (hb1.mono hB3.out.size))
  have C0 := hid_of (block_keep X0.out hb1)
  have C1 := hid_of (block_keep X1.out hb1)
  clear hb1 z0 z1 z2 z3 z4 y0 y1 X0 X1 hch hB3
  obtain ⟨t0, t1, t2, t3, t4, tf⟩ := row_cells C0.out
  have tf0 := tf 0; have tf1 := tf 1; have tf2 := tf 2; have tf3 := tf 3; have tf4 := tf 4
  clear tf
  go_upto_region 13 with fail
  rw [← put5_def]
  have hr := put5_at C0.out (.int .i64 u.k) (.int .i64 u.x) (.string u.s) (.slice u.an u.ln u.cn) (.slice u.ai u.li u.ci)
  have hr2 := (put5_far (w := W1) (g := w.heap.size) (.int .i64 u.k) (.int .i64 u.x) (.string u.s) (.slice u.an u.ln u.cn) (.slice u.ai u.li u.ci) (show w.heap.size + 1 ≠ w.heap.size by omega)).trans C1.out
  have hB4 := hid_of (HB1.out.trans (put5_below (w := W1) (g := w.heap.size) (Nat.le_refl _) (.int .i64 u.k) (.int .i64 u.x) (.string u.s) (.slice u.an u.ln u.cn) (.slice u.ai u.li u.ci)))
  clear t0 t1 t2 t3 t4 tf0 tf1 tf2 tf3 tf4 C0 C1 HB1
  generalize put5 W1 w.heap.size (.int .i64 u.k) (.int .i64 u.x) (.string u.s) (.slice u.an u.ln u.cn) (.slice u.ai u.li u.ci) = W2 at hr hr2 hB4 ⊢
  obtain ⟨q0, q1, q2, q3, q4, -⟩ := row_cells hr
  obtain ⟨t0, t1, t2, t3, t4, tf⟩ := row_cells hr2
  have tf0 := tf 0; have tf1 := tf 1; have tf2 := tf 2; have tf3 := tf 3; have tf4 := tf 4
  replace hr2 := hid_of hr2; replace hr := hid_of hr
  clear tf
  go_wp2_with fail
  rw [← put5_def]
  have hr5 := put5_at hr2.out (.int .i64 u.k) (.int .i64 u.x) (.string u.s) (.slice u.an u.ln u.cn) (.slice u.ai u.li u.ci)
  have hB5 := hid_of (hB4.out.trans (put5_below (w := W2) (g := w.heap.size + 1) (by omega) (.int .i64 u.k) (.int .i64 u.x) (.string u.s) (.slice u.an u.ln u.cn) (.slice u.ai u.li u.ci)))
  clear q0 q1 q2 q3 q4 t0 t1 t2 t3 t4 tf0 tf1 tf2 tf3 tf4 hr hr2 hB4
  generalize put5 W2 (w.heap.size + 1) (.int .i64 u.k) (.int .i64 u.x) (.string u.s) (.slice u.an u.ln u.cn) (.slice u.ai u.li u.ci) = w9 at hr5 hB5 ⊢
  have q0 : w9.cell? ⟨w.heap.size + 1, 0, none⟩ = some (.int .i64 u.k) := cell_of hr5 0
  have q1 : w9.cell? ⟨w.heap.size + 1, 1, none⟩ = some (.int .i64 u.x) := cell_of hr5 1
  have q2 : w9.cell? ⟨w.heap.size + 1, 2, none⟩ = some (.string u.s) := cell_of hr5 2
  have q3 : w9.cell? ⟨w.heap.size + 1, 3, none⟩ = some (.slice u.an u.ln u.cn) := cell_of hr5 3
  have q4 : w9.cell? ⟨w.heap.size + 1, 4, none⟩ = some (.slice u.ai u.li u.ci) := cell_of hr5 4
  refine bodyPost_ret (v := .tuple #[.agg #[.int .i64 u.k, .int .i64 u.x, .string u.s, .slice u.an u.ln u.cn, .slice u.ai u.li u.ci], .iface 69 (.int .i64 z)]) (by simp [results, Tryz.results28, go_sem, q0, q1, q2, q3, q4]) rfl ?_
  exact ⟨rfl, hB5.out⟩
end Go.Proofs.YthgnkhpomhcdkaaGreatDoor
/-! update: behind all terms. -/
namespace Go.Proofs.YthgnkhpomhcdkaaGreatDoor
open Go Go.RowKit Dp

theorem seen_lt {W : World} {S : Nat → Prop} {t : Tr} {cs : List Value} (h : Seen W S t cs) : Seen W (fun k => S k ∧ k < W.heap.size) t cs := fun W' a => h W' ⟨a.1, fun p u hp hc => a.2 p u ⟨hp, cell_lt hc⟩ hc⟩
set_option maxHeartbeats 8000000 in
set_option maxRecDepth 100000 in
theorem behindAll_ok (R1 R2 : Tr) (ub lo : Nat) (g1 c1 m1 g2 c2 m2 : Nat) (k1 k2 : Array Value) (tv mv : Value) (fr : Bool) (u : V5) (S0 : Nat → Prop) (w : World) (hSw0 : ∀ k, S0 k → k < w.heap.size)
    (hub : w.heap[ub]? = some (.cells #[tv, mv] 53)) (hts : w.ownsRow lo 55 1 tv 2 [termV g1 c1 (.func (.func m1) #[] k1), termV g2 c2 (.func (.func m2) #[] k2)])
    (hdoc : Hid (∀ W, Below w.heap.size w W → Calls Tryz.prog 27 #[u.v] W fun e w' => e = .returned (.int .i64 0) ∧ Below W.heap.size W w'))
    (hb1 : Hid (∀ W, Below w.heap.size w W → Calls Tryz.prog 28 #[.pointer (some ⟨ub, 0, none⟩), termV g1 c1 (.func (.func m1) #[] k1), u.v, .bool fr] W (Laid S0 W R1)))
    (hb2 : Hid (∀ W (y : V5) S1, Below w.heap.size w W → (∀ k, S1 k → k < W.heap.size) → Seen W S1 R1 y.cs → Calls Tryz.prog 28 #[.pointer (some ⟨ub, 0, none⟩), termV g2 c2 (.func (.func m2) #[] k2), y.v, .bool fr] W (Laid S1 W R2))) :
    Calls Tryz.prog 19 #[.pointer (some ⟨ub, 0, none⟩), u.v, .bool fr] w (Laid S0 w R2) := by
  obtain ⟨hxl, hx | ⟨gt, cap, cur, htv, hge, hcur, hle, hmx, hsz, htk⟩⟩ := id hts
  · exact absurd hx.2 (by simp)
  subst htv
  have d0 : cur[0]? = some (termV g1 c1 (.func (.func m1) #[] k1)) := by
    have := congrArg (fun l => l[0]?) htk
    simpa using this
  have d1 : cur[1]? = some (termV g2 c2 (.func (.func m2) #[] k2)) := by
    have := congrArg (fun l => l[1]?) htk
    simpa using this
  have c0 : w.cell? ⟨gt, 0, none⟩ = some (termV g1 c1 (.func (.func m1) #[] k1)) := (cell_of hcur 0).trans d0
  have c1' : w.cell? ⟨gt, 1, none⟩ = some (termV g2 c2 (.func (.func m2) #[] k2)) := (cell_of hcur 1).trans d1
  have cu : w.cell? ⟨ub, 0, none⟩ = some (.slice (some ⟨gt, 0, none⟩) 2 cap) := cell_of hub 0
  clear hxl hge hcur hle hmx hsz htk hts d0 d1 hub
  have hB2 : Below w.heap.size w ((w.alloc (u.obj 28)).alloc (.cells #[.int .i64 0, .int .i64 0, .string ⟨#[]⟩, .slice none 0 0, .slice none 0 0] 28)) := ((Below.refl _ w).alloc (Nat.le_refl _) _).alloc (by simp) _
  have X0 : ((w.alloc (u.obj 28)).alloc (.cells #[.int .i64 0, .int .i64 0, .string ⟨#[]⟩, .slice none 0 0, .slice none 0 0] 28)).heap[w.heap.size]? = some (u.obj 28) := al_lt (by simp) (al_eq rfl)
  have X1 : ((w.alloc (u.obj 28)).alloc (.cells #[.int .i64 0, .int .i64 0, .string ⟨#[]⟩, .slice none 0 0, .slice none 0 0] 28)).heap[w.heap.size + 1]? = some (.cells #[.int .i64 0, .int .i64 0, .string ⟨#[]⟩, .slice none 0 0, .slice none 0 0] 28) := al_eq (by simp)
  obtain ⟨z0, z1, z2, z3, z4⟩ := box_five X0 (Below.refl _ _)
  replace hB2 := hid_of hB2; replace X0 := hid_of X0; replace X1 := hid_of X1; replace c0 := hid_of c0; replace c1' := hid_of c1'; replace cu := hid_of cu
  unfold V5.v V5.obj at *
  go_enter Tryz.func19, Tryz.ntmps19
  go_wp2_with fail
  generalize (w.alloc (.cells #[.int .i64 u.k, .int .i64 u.x, .string u.s, .slice u.an u.ln u.cn, .slice u.ai u.li u.ci] 28)).alloc (.cells #[.int .i64 0, .int .i64 0, .string ⟨#[]⟩, .slice none 0 0, .slice none 0 0] 28) = wq at *
  refine (hdoc.out wq hB2.out).mono ?_
  rintro e W1 ⟨rfl, hb1'⟩
  have HB1 := hid_of (hB2.out.trans (hb1'.mono hB2.out.size))
  have C0 := hid_of (block_keep X0.out hb1')
  have C1 := hid_of (block_keep X1.out hb1')
  have hw1 : w.heap.size + 1 < W1.heap.size := (Array.getElem?_eq_some_iff.1 C1.out).1
  clear z0 z1 z2 z3 z4 hb1' hB2 X0 X1 hdoc
  obtain ⟨z0, z1, z2, z3, z4, -⟩ := row_cells C0.out
  have e0 := stay HB1.out c0.out
  have eu := stay HB1.out cu.out
  have hch := hid_of (hb1.out W1 HB1.out)
  clear hb1
  go_wp2_with fail
  refine wp_loop_rounds 3 ?_
  rw [rounds_succ]
  go_wp2_with fail
  refine hch.out.mono ?_
  rintro e W2 ⟨hb2', ⟨ka, xa, sa, ana, lna, cna, aia, lia, cia⟩, rfl, hy⟩
  unfold V5.v
  dsimp only
  have HB2 := hid_of (HB1.out.trans (hb2'.mono HB1.out.size))
  have D0 := hid_of (block_keep C0.out hb2')
  have D1 := hid_of (block_keep C1.out hb2')
  replace hy := hid_of hy
  clear hb2' z0 z1 z2 z3 z4 e0 eu hch C0 C1
  obtain ⟨t0, t1, t2, t3, t4, tf⟩ := row_cells D0.out
  have tf0 := tf 0; have tf1 := tf 1; have tf2 := tf 2; have tf3 := tf 3; have tf4 := tf 4
  clear tf
  go_wp2_with fail
  rw [← put5_def]
  have hr := put5_at D0.out (.int .i64 ka) (.int .i64 xa) (.string sa) (.slice ana lna cna) (.slice aia lia cia)
  have hr2 := (put5_far (w := W2) (g := w.heap.size) (.int .i64 ka) (.int .i64 xa) (.string sa) (.slice ana lna cna) (.slice aia lia cia) (show w.heap.size + 1 ≠ w.heap.size by omega)).trans D1.out
  have hB4 := hid_of (HB2.out.trans (put5_below (w := W2) (g := w.heap.size) (Nat.le_refl _) (.int .i64 ka) (.int .i64 xa) (.string sa) (.slice ana lna cna) (.slice aia lia cia)))
  have hfin := hid_of (seen_lt (hy.out.agree (W' := put5 W2 w.heap.size (.int .i64 ka) (.int .i64 xa) (.string sa) (.slice ana lna cna) (.slice aia lia cia)) ⟨Nat.le_of_eq (put5_size _ _ _ _ _ _ _).symm, fun p u hp hc => (World.cell?_of_block (w := W2) (put5_far (.int .i64 ka) (.int .i64 xa) (.string sa) (.slice ana lna cna) (.slice aia lia cia) (show p.block ≠ w.heap.size from fun e => by
    have hp' : S0 p.block ∨ W1.heap.size ≤ p.block := hp
    have hp2 := hSw0 p.block
    rcases hp' with h | h
    · have := hp2 h; omega
    · omega))).trans hc⟩))
  clear t0 t1 t2 t3 t4 tf0 tf1 tf2 tf3 tf4 D0 D1 HB2 hy
  generalize put5 W2 w.heap.size (.int .i64 ka) (.int .i64 xa) (.string sa) (.slice ana lna cna) (.slice aia lia cia) = W3 at hr hr2 hB4 hfin ⊢
  obtain ⟨q0, q1, q2, q3, q4, -⟩ := row_cells hr
  replace hr2 := hid_of hr2; replace hr := hid_of hr
  have e1 := stay hB4.out c1'.out
  have hch2 := hid_of (hb2.out W3 ⟨ka, xa, sa, ana, lna, cna, aia, lia, cia⟩ _ hB4.out (fun k hk => hk.2) hfin.out)
  dsimp only at hch2
  clear hb2
  rw [rounds_succ]
  go_wp2_with fail
  refine hch2.out.mono ?_
  rintro e W4 ⟨hb5, ⟨kb, xb, sb, anb, lnb, cnb, aib, lib, cib⟩, rfl, hy⟩
  unfold V5.v
  dsimp only
  have HB5 := hid_of (hB4.out.trans (hb5.mono hB4.out.size))
  have E0 := hid_of (block_keep hr.out hb5)
  have E1 := hid_of (block_keep hr2.out hb5)
  have hw3 := hid_of hB4.out.size
  have hw31 : w.heap.size + 1 < W3.heap.size := (Array.getElem?_eq_some_iff.1 hr2.out).1
  replace hy := hid_of hy
  clear hb5 q0 q1 q2 q3 q4 hr hr2 hB4 hfin e1 hch2
  obtain ⟨t0, t1, t2, t3, t4, tf⟩ := row_cells E0.out
  have tf0 := tf 0; have tf1 := tf 1; have tf2 := tf 2; have tf3 := tf 3; have tf4 := tf 4
  clear tf
  go_wp2_with fail
  rw [← put5_def]
  have hr := put5_at E0.out (.int .i64 kb) (.int .i64 xb) (.string sb) (.slice anb lnb cnb) (.slice aib lib cib)
  have hr2 := (put5_far (w := W4) (g := w.heap.size) (.int .i64 kb) (.int .i64 xb) (.string sb) (.slice anb lnb cnb) (.slice aib lib cib) (show w.heap.size + 1 ≠ w.heap.size by omega)).trans E1.out
  have hB6 := hid_of (HB5.out.trans (put5_below (w := W4) (g := w.heap.size) (Nat.le_refl _) (.int .i64 kb) (.int .i64 xb) (.string sb) (.slice anb lnb cnb) (.slice aib lib cib)))
  have hfin := hid_of (hy.out.agree (W' := put5 W4 w.heap.size (.int .i64 kb) (.int .i64 xb) (.string sb) (.slice anb lnb cnb) (.slice aib lib cib)) ⟨Nat.le_of_eq (put5_size _ _ _ _ _ _ _).symm, fun p u hp hc => (World.cell?_of_block (w := W4) (put5_far (.int .i64 kb) (.int .i64 xb) (.string sb) (.slice anb lnb cnb) (.slice aib lib cib) (show p.block ≠ w.heap.size from fun e => by
    have hp' : ((S0 p.block ∨ W1.heap.size ≤ p.block) ∧ p.block < W3.heap.size) ∨ W3.heap.size ≤ p.block := hp
    have hp2 := hSw0 p.block
    rcases hp' with ⟨h | h, -⟩ | h
    · have := hp2 h; omega
    · omega
    · omega))).trans hc⟩)
  clear t0 t1 t2 t3 t4 tf0 tf1 tf2 tf3 tf4 E0 E1 HB5 hy
  generalize put5 W4 w.heap.size (.int .i64 kb) (.int .i64 xb) (.string sb) (.slice anb lnb cnb) (.slice aib lib cib) = W5 at hr hr2 hB6 hfin ⊢
  obtain ⟨q0, q1, q2, q3, q4, -⟩ := row_cells hr
  obtain ⟨t0, t1, t2, t3, t4, tf⟩ := row_cells hr2
  have tf0 := tf 0; have tf1 := tf 1; have tf2 := tf 2; have tf3 := tf 3; have tf4 := tf 4
  replace hr2 := hid_of hr2; replace hr := hid_of hr
  clear tf
  rw [rounds_succ]
  go_wp2_with fail
  rw [← put5_def]
  have hr5 := put5_at hr2.out (.int .i64 kb) (.int .i64 xb) (.string sb) (.slice anb lnb cnb) (.slice aib lib cib)
  have hB7 := hid_of (hB6.out.trans (put5_below (w := W5) (g := w.heap.size + 1) (by omega) (.int .i64 kb) (.int .i64 xb) (.string sb) (.slice anb lnb cnb) (.slice aib lib cib)))
  have hfin2 := hid_of (Seen.wide (S' := fun k => S0 k ∨ w.heap.size ≤ k) (hfin.out.agree (W' := put5 W5 (w.heap.size + 1) (.int .i64 kb) (.int .i64 xb) (.string sb) (.slice anb lnb cnb) (.slice aib lib cib)) ⟨Nat.le_of_eq (put5_size _ _ _ _ _ _ _).symm, fun p u hp hc => (World.cell?_of_block (w := W5) (put5_far (.int .i64 kb) (.int .i64 xb) (.string sb) (.slice anb lnb cnb) (.slice aib lib cib) (show p.block ≠ w.heap.size + 1 from fun e => by
    have hp' : ((S0 p.block ∨ W1.heap.size ≤ p.block) ∧ p.block < W3.heap.size) ∨ W3.heap.size ≤ p.block := hp
    have hp2 := hSw0 p.block
    rcases hp' with ⟨h | h, -⟩ | h
    · have := hp2 h; omega
    · omega
    · omega))).trans hc⟩) (fun k hk => by
      rcases hk with ⟨h | h, -⟩ | h
      · exact .inl h
      · exact .inr (by omega)
      · exact .inr (by omega)))
  clear q0 q1 q2 q3 q4 t0 t1 t2 t3 t4 tf0 tf1 tf2 tf3 tf4 hr hr2 hB6 hfin
  generalize put5 W5 (w.heap.size + 1) (.int .i64 kb) (.int .i64 xb) (.string sb) (.slice anb lnb cnb) (.slice aib lib cib) = w9 at hr5 hB7 hfin2 ⊢
  have q0 : w9.cell? ⟨w.heap.size + 1, 0, none⟩ = some (.int .i64 kb) := cell_of hr5 0
  have q1 : w9.cell? ⟨w.heap.size + 1, 1, none⟩ = some (.int .i64 xb) := cell_of hr5 1
  have q2 : w9.cell? ⟨w.heap.size + 1, 2, none⟩ = some (.string sb) := cell_of hr5 2
  have q3 : w9.cell? ⟨w.heap.size + 1, 3, none⟩ = some (.slice anb lnb cnb) := cell_of hr5 3
  have q4 : w9.cell? ⟨w.heap.size + 1, 4, none⟩ = some (.slice aib lib cib) := cell_of hr5 4
  refine bodyPost_ret (v := .tuple #[.agg #[.int .i64 kb, .int .i64 xb, .string sb, .slice anb lnb cnb, .slice aib lib cib], .nilIface]) (by simp [results, Tryz.results19, go_sem, q0, q1, q2, q3, q4]) rfl ?_
  exact ⟨hB7.out, ⟨kb, xb, sb, anb, lnb, cnb, aib, lib, cib⟩, rfl, hfin2.out⟩
end Go.Proofs.YthgnkhpomhcdkaaGreatDoor
/-! update: behind all terms, where the first finds a fault. -/
namespace Go.Proofs.YthgnkhpomhcdkaaGreatDoor
open Go Go.RowKit Dp

set_option maxHeartbeats 8000000 in
set_option maxRecDepth 100000 in
theorem behindAll_err (z : Int) (ub lo : Nat) (g1 c1 m1 g2 c2 m2 : Nat) (k1 k2 : Array Value) (tv mv : Value) (fr : Bool) (u : V5) (w : World)
    (hub : w.heap[ub]? = some (.cells #[tv, mv] 53)) (hts : w.ownsRow lo 55 1 tv 2 [termV g1 c1 (.func (.func m1) #[] k1), termV g2 c2 (.func (.func m2) #[] k2)])
    (hdoc : Hid (∀ W, Below w.heap.size w W → Calls Tryz.prog 27 #[u.v] W fun e w' => e = .returned (.int .i64 0) ∧ Below W.heap.size W w'))
    (hb1 : Hid (∀ W, Below w.heap.size w W → Calls Tryz.prog 28 #[.pointer (some ⟨ub, 0, none⟩), termV g1 c1 (.func (.func m1) #[] k1), u.v, .bool fr] W fun e w' => e = .returned (.tuple #[u.v, .iface 69 (.int .i64 z)]) ∧ Below W.heap.size W w')) :
    Calls Tryz.prog 19 #[.pointer (some ⟨ub, 0, none⟩), u.v, .bool fr] w fun e w' => e = .returned (.tuple #[u.v, .iface 66 (.agg #[.iface 69 (.int .i64 z), .int .i64 0])]) ∧ Below w.heap.size w w' := by
  obtain ⟨hxl, hx | ⟨gt, cap, cur, htv, hge, hcur, hle, hmx, hsz, htk⟩⟩ := id hts
  · exact absurd hx.2 (by simp)
  subst htv
  have d0 : cur[0]? = some (termV g1 c1 (.func (.func m1) #[] k1)) := by
    have := congrArg (fun l => l[0]?) htk
    simpa using this
  have c0 : w.cell? ⟨gt, 0, none⟩ = some (termV g1 c1 (.func (.func m1) #[] k1)) := (cell_of hcur 0).trans d0
  have cu : w.cell? ⟨ub, 0, none⟩ = some (.slice (some ⟨gt, 0, none⟩) 2 cap) := cell_of hub 0
  clear hxl hge hcur hle hmx hsz htk hts d0 hub
  have hB2 : Below w.heap.size w ((w.alloc (u.obj 28)).alloc (.cells #[.int .i64 0, .int .i64 0, .string ⟨#[]⟩, .slice none 0 0, .slice none 0 0] 28)) := ((Below.refl _ w).alloc (Nat.le_refl _) _).alloc (by simp) _
  have X0 : ((w.alloc (u.obj 28)).alloc (.cells #[.int .i64 0, .int .i64 0, .string ⟨#[]⟩, .slice none 0 0, .slice none 0 0] 28)).heap[w.heap.size]? = some (u.obj 28) := al_lt (by simp) (al_eq rfl)
  have X1 : ((w.alloc (u.obj 28)).alloc (.cells #[.int .i64 0, .int .i64 0, .string ⟨#[]⟩, .slice none 0 0, .slice none 0 0] 28)).heap[w.heap.size + 1]? = some (.cells #[.int .i64 0, .int .i64 0, .string ⟨#[]⟩, .slice none 0 0, .slice none 0 0] 28) := al_eq (by simp)
  obtain ⟨z0, z1, z2, z3, z4⟩ := box_five X0 (Below.refl _ _)
  replace hB2 := hid_of hB2; replace X0 := hid_of X0; replace X1 := hid_of X1; replace c0 := hid_of c0; replace cu := hid_of cu
  unfold V5.v V5.obj at *
  go_enter Tryz.func19, Tryz.ntmps19
  go_wp2_with fail
  generalize (w.alloc (.cells #[.int .i64 u.k, .int .i64 u.x, .string u.s, .slice u.an u.ln u.cn, .slice u.ai u.li u.ci] 28)).alloc (.cells #[.int .i64 0, .int .i64 0, .string ⟨#[]⟩, .slice none 0 0, .slice none 0 0] 28) = wq at *
  refine (hdoc.out wq hB2.out).mono ?_
  rintro e W1 ⟨rfl, hb1'⟩
  have HB1 := hid_of (hB2.out.trans (hb1'.mono hB2.out.size))
  have C0 := hid_of (block_keep X0.out hb1')
  have C1 := hid_of (block_keep X1.out hb1')
  have hw1 : w.heap.size + 1 < W1.heap.size := (Array.getElem?_eq_some_iff.1 C1.out).1
  clear z0 z1 z2 z3 z4 hb1' hB2 X0 X1 hdoc
  obtain ⟨z0, z1, z2, z3, z4, -⟩ := row_cells C0.out
  have e0 := stay HB1.out c0.out
  have eu := stay HB1.out cu.out
  have hch := hid_of (hb1.out W1 HB1.out)
  clear hb1
  go_wp2_with fail
  refine wp_loop_rounds 3 ?_
  rw [rounds_succ]
  go_wp2_with fail
  refine hch.out.mono ?_
  rintro e W2 ⟨rfl, hb2'⟩
  have HB2 := hid_of (HB1.out.trans (hb2'.mono HB1.out.size))
  have D0 := hid_of (block_keep C0.out hb2')
  have D1 := hid_of (block_keep C1.out hb2')
  clear hb2' z0 z1 z2 z3 z4 e0 eu hch C0 C1
  obtain ⟨t0, t1, t2, t3, t4, tf⟩ := row_cells D0.out
  have tf0 := tf 0; have tf1 := tf 1; have tf2 := tf 2; have tf3 := tf 3; have tf4 := tf 4
  clear tf
  go_upto_region 8 with fail
  rw [← put5_def]
  have hr := put5_at D0.out (.int .i64 u.k) (.int .i64 u.x) (.string u.s) (.slice u.an u.ln u.cn) (.slice u.ai u.li u.ci)
  have hr2 := (put5_far (w := W2) (g := w.heap.size) (.int .i64 u.k) (.int .i64 u.x) (.string u.s) (.slice u.an u.ln u.cn) (.slice u.ai u.li u.ci) (show w.heap.size + 1 ≠ w.heap.size by omega)).trans D1.out
  have hB4 := hid_of (HB2.out.trans (put5_below (w := W2) (g := w.heap.size) (Nat.le_refl _) (.int .i64 u.k) (.int .i64 u.x) (.string u.s) (.slice u.an u.ln u.cn) (.slice u.ai u.li u.ci)))
  clear t0 t1 t2 t3 t4 tf0 tf1 tf2 tf3 tf4 D0 D1 HB2
  generalize put5 W2 w.heap.size (.int .i64 u.k) (.int .i64 u.x) (.string u.s) (.slice u.an u.ln u.cn) (.slice u.ai u.li u.ci) = W3 at hr hr2 hB4 ⊢
  obtain ⟨q0, q1, q2, q3, q4, -⟩ := row_cells hr
  obtain ⟨t0, t1, t2, t3, t4, tf⟩ := row_cells hr2
  have tf0 := tf 0; have tf1 := tf 1; have tf2 := tf 2; have tf3 := tf 3; have tf4 := tf 4
  replace hr2 := hid_of hr2; replace hr := hid_of hr
  clear tf
  go_wp2_with fail
  rw [← put5_def]
  have hr5 := put5_at hr2.out (.int .i64 u.k) (.int .i64 u.x) (.string u.s) (.slice u.an u.ln u.cn) (.slice u.ai u.li u.ci)
  have hB5 := hid_of (hB4.out.trans (put5_below (w := W3) (g := w.heap.size + 1) (by omega) (.int .i64 u.k) (.int .i64 u.x) (.string u.s) (.slice u.an u.ln u.cn) (.slice u.ai u.li u.ci)))
  clear q0 q1 q2 q3 q4 t0 t1 t2 t3 t4 tf0 tf1 tf2 tf3 tf4 hr hr2 hB4
  generalize put5 W3 (w.heap.size + 1) (.int .i64 u.k) (.int .i64 u.x) (.string u.s) (.slice u.an u.ln u.cn) (.slice u.ai u.li u.ci) = w9 at hr5 hB5 ⊢
  have q0 : w9.cell? ⟨w.heap.size + 1, 0, none⟩ = some (.int .i64 u.k) := cell_of hr5 0
  have q1 : w9.cell? ⟨w.heap.size + 1, 1, none⟩ = some (.int .i64 u.x) := cell_of hr5 1
  have q2 : w9.cell? ⟨w.heap.size + 1, 2, none⟩ = some (.string u.s) := cell_of hr5 2
  have q3 : w9.cell? ⟨w.heap.size + 1, 3, none⟩ = some (.slice u.an u.ln u.cn) := cell_of hr5 3
  have q4 : w9.cell? ⟨w.heap.size + 1, 4, none⟩ = some (.slice u.ai u.li u.ci) := cell_of hr5 4
  refine bodyPost_ret (v := .tuple #[.agg #[.int .i64 u.k, .int .i64 u.x, .string u.s, .slice u.an u.ln u.cn, .slice u.ai u.li u.ci], .iface 66 (.agg #[.iface 69 (.int .i64 z), .int .i64 0])]) (by simp [results, Tryz.results19, go_sem, q0, q1, q2, q3, q4]) rfl ?_
  exact ⟨rfl, hB5.out⟩
end Go.Proofs.YthgnkhpomhcdkaaGreatDoor
