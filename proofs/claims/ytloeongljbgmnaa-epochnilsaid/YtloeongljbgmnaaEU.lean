import Derived.Test.YtloeongljbgmnaaET
/-! epoch: New. -/
namespace Go.Proofs.Ytloeongljbgmnaa
open Go Go.RowKit
theorem mk_atoms (w : World) : (Instr.makeSlice 44 (.int .i64 2) (.int .i64 2)).run Try.prog w = .ok (.slice (some ⟨w.heap.size, 0, none⟩) 2 2) (w.alloc (.cells #[.pointer none, .pointer none] 52)) := by kernel_rfl
theorem up_alloc {w : World} {b : Nat} {o o' : Obj} (h : w.heap[b]? = some o) : (w.alloc o').heap[b]? = some o := ((Below.refl _ w).alloc (Nat.le_refl _) o').block b (Array.getElem?_eq_some_iff.1 h).1 |>.trans h
theorem up_below {w w' : World} {b : Nat} {o : Obj} (hB : Below w.heap.size w w') (h : w.heap[b]? = some o) : w'.heap[b]? = some o := (hB.block b (Array.getElem?_eq_some_iff.1 h).1).trans h
theorem up_drew {w : World} {b : Nat} {o : Obj} (h : w.heap[b]? = some o) : w.drew.heap[b]? = some o := h
theorem be_alloc {w x : World} {B : Nat} (h : Below B x w) (hB : B ≤ w.heap.size) (o : Obj) : Below B x (w.alloc o) := h.alloc hB o
set_option maxRecDepth 100000 in
set_option maxHeartbeats 4000000 in
theorem new2_any (lo wb hb : Nat) (w : World) (hlo : lo ≤ w.heap.size) (hw : w.heap[wb]? = some (.cells #[.bool false] 55 (0, 0))) : Calls Try.prog 4 #[.pointer (some ⟨wb, 0, none⟩), .int .i64 4, .pointer (some ⟨hb, 0, none⟩), .int .i64 2, .agg #[.int .i64 0, .slice none 0 0, .int .i64 0]] w fun e w' => Below w.heap.size w w' ∧ ∃ x : Kx, x.hb = hb ∧ e = .returned (.tuple #[.pointer (some ⟨x.kb, 0, none⟩), .int .i64 0]) ∧ KS lo w' x ⟨0, none, 0, 0, 0, 0, 0, 0, none, 0, 0⟩ := by
  obtain ⟨W1, hW1⟩ : ∃ W1, Hid (w.alloc (.cells #[.int .i64 0, .slice none 0 0, .int .i64 0] 28) = W1) := ⟨_, rfl⟩
  have hB1 : Below w.heap.size w W1 := by rw [← hW1.out]; exact (Below.refl _ w).alloc (Nat.le_refl _) _
  have z1 := heap_alloc_new w (.cells #[.int .i64 0, .slice none 0 0, .int .i64 0] 28)
  rw [hW1.out] at z1
  have hw1 := up_below hB1 hw
  obtain ⟨y0, y1, y2⟩ := cells3 z1
  have x0 : W1.cell? ⟨wb, 0, none⟩ = some (.bool false) := cell_of hw1 rfl
  have hm := mk_atoms
  have hrn := hid_of (fun W h => rnew_any wb 4 0 0 none 0 0 0 W h)
  have hln := hid_of (fun W h => lnew_any wb 4 3 0 none 0 0 W h)
  replace hw1 := hid_of hw1
  replace hB1 := hid_of hB1
  clear z1 hw
  go_enter Try.func4, Try.ntmps4
  go_upto_region 3 with (rw [hW1.out])
  go_region_held3 (fun w' => w'.cell? ⟨wb, 0, none⟩ = some (.bool false) ∧ w'.cell? ⟨w.heap.size, 0, none⟩ = some (.int .i64 0) ∧ w'.cell? ⟨w.heap.size, 1, none⟩ = some (.slice none 0 0) ∧ w'.cell? ⟨w.heap.size, 2, none⟩ = some (.int .i64 0)) (go_keep) (first
    | (go_at_call 15; refine (hrn.out _ (And.left (by assumption))).mono ?_; rintro e Zr ⟨hbr, rb, vr, rfl, lr, lv, kr, kv⟩; have t0 : Zr.cell? ⟨wb, 0, none⟩ = some (.bool false) := stay hbr (And.left (by assumption)); have t1 : Zr.cell? ⟨w.heap.size, 0, none⟩ = some (.int .i64 0) := stay hbr (And.left (And.right (by assumption))); have t2 : Zr.cell? ⟨w.heap.size, 1, none⟩ = some (.slice none 0 0) := stay hbr (And.left (And.right (And.right (by assumption)))); have t3 : Zr.cell? ⟨w.heap.size, 2, none⟩ = some (.int .i64 0) := stay hbr (And.right (And.right (And.right (by assumption)))); replace hbr := hid_of hbr; replace kr := hid_of kr; replace kv := hid_of kv; replace lr := hid_of lr; replace lv := hid_of lv)
    | (go_at_call 16; refine (hln.out _ (And.left (by assumption))).mono ?_; rintro e Zl ⟨lb, rfl, ll, kl, hbl⟩; have s0 : Zl.cell? ⟨wb, 0, none⟩ = some (.bool false) := stay hbl (And.left (by assumption)); have s1 : Zl.cell? ⟨w.heap.size, 0, none⟩ = some (.int .i64 0) := stay hbl (And.left (And.right (by assumption))); have s2 : Zl.cell? ⟨w.heap.size, 1, none⟩ = some (.slice none 0 0) := stay hbl (And.left (And.right (And.right (by assumption)))); have s3 : Zl.cell? ⟨w.heap.size, 2, none⟩ = some (.int .i64 0) := stay hbl (And.right (And.right (And.right (by assumption)))); replace hbl := hid_of hbl; replace kl := hid_of kl; replace ll := hid_of ll))
  · obtain ⟨F, hF⟩ : ∃ F, Hid (Zl.alloc (.cells #[.pointer (some ⟨hb, 0, none⟩), .pointer (some ⟨rb, 0, none⟩), .slice (some ⟨Zr.heap.size, 0, none⟩) 2 2, .pointer (some ⟨lb, 0, none⟩)] 51) = F) := ⟨_, rfl⟩
    have kK : F.heap[Zl.heap.size]? = some (.cells #[.pointer (some ⟨hb, 0, none⟩), .pointer (some ⟨rb, 0, none⟩), .slice (some ⟨Zr.heap.size, 0, none⟩) 2 2, .pointer (some ⟨lb, 0, none⟩)] 51 (0, 0)) := by rw [← hF.out]; exact heap_alloc_new Zl _
    have kP : F.heap[Zr.heap.size]? = some (.cells #[.pointer none, .pointer none] 52 (0, 0)) := by rw [← hF.out]; exact up_alloc (up_below hbl.out (heap_alloc_new Zr _))
    have kR : F.heap[rb]? = some (.cells (rCs 4 0 vr) 94 (0, 0)) := by rw [← hF.out]; exact up_alloc (up_below hbl.out (up_alloc kr.out))
    have kV : F.heap[vr]? = some (.cells #[.int .i64 0, .slice none 0 0, .int .i64 0] 28 (0, 0)) := by rw [← hF.out]; exact up_alloc (up_below hbl.out (up_alloc kv.out))
    have kL : F.heap[lb]? = some (.cells (lCs 4 3 0 none 0 0) 97 (0, 0)) := by rw [← hF.out]; exact up_alloc kl.out
    have kW : F.heap[wb]? = some (.cells #[.bool false] 55 (0, 0)) := by rw [← hF.out]; exact up_alloc (up_below hbl.out (up_alloc (up_below hbr.out (up_drew hw1.out))))
    have hBF : Below w.heap.size w F := by rw [← hF.out]; exact (hB1.out.trans ((((below_drew (Below.refl _ W1)).trans (hbr.out.trans ((((Below.refl _ Zr).alloc (Nat.le_refl _) _).trans (hbl.out.mono (by simp))).mono hbr.out.size))).mono hB1.out.size))).alloc (Nat.le_trans hB1.out.size (Nat.le_trans hbr.out.size (Nat.le_trans (by simp) hbl.out.size))) _
    have hlr : w.heap.size ≤ rb := Nat.le_trans hB1.out.size (Nat.le_trans (Nat.le_refl _) lr.out)
    have hll : w.heap.size ≤ lb := Nat.le_trans hB1.out.size (Nat.le_trans (Nat.le_trans hbr.out.size (by simp)) ll.out)
    have hpb : w.heap.size ≤ Zr.heap.size := Nat.le_trans hB1.out.size hbr.out.size
    generalize hkb : Zl.heap.size = kb at *
    generalize hpbe : Zr.heap.size = pb at *
    clear hkb hpbe t0 t1 t2 t3 s0 s1 s2 s3 kr kv kl lr lv ll hbr hbl
    obtain ⟨-, -, c2, -⟩ := cells4 kK
    obtain ⟨p0, p1⟩ := cells2 kP
    have x0 : F.cell? ⟨wb, 0, none⟩ = some (.bool false) := cell_of kW rfl
    have n1 : kb ≠ pb := ne_of_types kK kP (by decide)
    have n2 : wb ≠ pb := ne_of_types kW kP (by decide)
    have hin := hid_of (inew_any wb 4 1 0 F.drew x0)
    replace kK := hid_of kK
    replace kP := hid_of kP
    replace kR := hid_of kR
    replace kV := hid_of kV
    replace kL := hid_of kL
    replace kW := hid_of kW
    replace hBF := hid_of hBF
    rw [hF.out]
    clear hF
    go_wp2_with fail
    refine wp_loop_rounds 3 ?_
    rw [rounds_succ]
    go_upto_region 7 with fail
    go_region_held3 (fun w' => w'.cell? ⟨kb, 2, none⟩ = some (.slice (some ⟨pb, 0, none⟩) 2 2) ∧ w'.cell? ⟨wb, 0, none⟩ = some (.bool false)) (first | (go_keep; done) | (refine ⟨?_, ?_⟩ <;> (first | exact cell_far q0c n1 | exact cell_far q1c n2))) (first
      | (go_at_call 17; refine hin.out.mono ?_; rintro e Z0 ⟨hz0, q0, v0, rfl, lq0, lv0, kq0, kv0⟩; have q0c : Z0.cell? ⟨kb, 2, none⟩ = some (.slice (some ⟨pb, 0, none⟩) 2 2) := stay hz0 c2; have q1c : Z0.cell? ⟨wb, 0, none⟩ = some (.bool false) := stay hz0 x0; have pz := up_below hz0 kP.out; have q2c : Z0.cell? ⟨pb, 0, none⟩ = some (.pointer none) := cell_of pz rfl; have q3c : Z0.frozen? ⟨pb, 0, none⟩ = false := warm pz; replace hz0 := hid_of hz0; replace pz := hid_of pz; replace kq0 := hid_of kq0; replace kv0 := hid_of kv0; replace lq0 := hid_of lq0; replace lv0 := hid_of lv0))
    obtain ⟨Y, hY⟩ : ∃ Y, Hid (Z0.setCell ⟨pb, 0, none⟩ (.pointer (some ⟨q0, 0, none⟩)) = Y) := ⟨_, rfl⟩
    have hFY : Fr (· = pb) Z0 Y := by rw [← hY.out]; exact (Fr.refl _ Z0).set _ _ (.inl rfl)
    have kPY := heap_setCell_same Z0 pb 0 _ _ (.pointer (some ⟨q0, 0, none⟩)) pz.out
    rw [hY.out] at kPY ⊢
    have up : ∀ {b : Nat} {vs : Array Value} {t : TypeId}, F.heap[b]? = some (.cells vs t (0, 0)) → t ≠ 52 → Y.heap[b]? = some (.cells vs t (0, 0)) := fun {b vs t} e ht => (hFY.block b (Array.getElem?_eq_some_iff.1 (up_below hz0.out e)).1 (ne_of_types (up_below hz0.out e) pz.out ht)).trans (up_below hz0.out e)
    have upz : ∀ {b : Nat} {vs : Array Value} {t : TypeId}, Z0.heap[b]? = some (.cells vs t (0, 0)) → t ≠ 52 → Y.heap[b]? = some (.cells vs t (0, 0)) := fun {b vs t} e ht => (hFY.block b (Array.getElem?_eq_some_iff.1 e).1 (ne_of_types e pz.out ht)).trans e
    have kK := up kK.out (by decide)
    have kR := hid_of (up kR.out (by decide))
    have kV := hid_of (up kV.out (by decide))
    have kL := hid_of (up kL.out (by decide))
    have kW := up kW.out (by decide)
    have kq0 := hid_of (upz kq0.out (by decide))
    have kv0 := hid_of (upz kv0.out (by decide))
    have hlq0 : Hid (F.heap.size ≤ q0) := lq0.out
    have hBY : Hid (Below w.heap.size w Y) := (((Fr.of_below (S := fun _ => False) (hBF.out.trans (((below_drew (Below.refl _ F)).trans hz0.out).mono hBF.out.size))).next hFY (fun i hi => .inr (by have hi' : i = pb := hi; rw [hi']; exact hpb)))).below (Nat.le_refl _) (fun _ h => h.elim)
    have hYs : Hid (Z0.heap.size ≤ Y.heap.size) := hFY.size
    have hq0 : Hid (q0 < Z0.heap.size) := by
      have := (Array.getElem?_eq_some_iff.1 kq0.out).1
      rw [← hY.out] at this
      show q0 < Z0.heap.size
      simpa [World.setCell] using this
    obtain ⟨-, -, c2, -⟩ := cells4 kK
    obtain ⟨p0, p1⟩ := cells2 kPY
    have x0 : Y.cell? ⟨wb, 0, none⟩ = some (.bool false) := cell_of kW rfl
    have hin := hid_of (inew_any wb 4 2 0 Y.drew x0)
    replace kK := hid_of kK
    replace kW := hid_of kW
    replace kPY := hid_of kPY
    clear up upz hFY hz0 pz q0c q1c q2c q3c lq0 lv0 hY
    go_wp2_with fail
    rw [rounds_succ]
    go_upto_region 7 with fail
    go_region_held3 (fun w' => w'.cell? ⟨kb, 2, none⟩ = some (.slice (some ⟨pb, 0, none⟩) 2 2) ∧ w'.cell? ⟨wb, 0, none⟩ = some (.bool false)) (first | (go_keep; done) | (refine ⟨?_, ?_⟩ <;> (first | exact cell_far q0c n1 | exact cell_far q1c n2))) (first
      | (go_at_call 17; refine hin.out.mono ?_; rintro e Z1 ⟨hz1, q1, v1, rfl, lq1, lv1, kq1, kv1⟩; have q0c : Z1.cell? ⟨kb, 2, none⟩ = some (.slice (some ⟨pb, 0, none⟩) 2 2) := stay hz1 c2; have q1c : Z1.cell? ⟨wb, 0, none⟩ = some (.bool false) := stay hz1 x0; have pz := up_below hz1 kPY.out; have q2c : Z1.cell? ⟨pb, 1, none⟩ = some (.pointer none) := cell_of pz rfl; have q3c : Z1.frozen? ⟨pb, 1, none⟩ = false := warm pz; replace hz1 := hid_of hz1; replace pz := hid_of pz; replace kq1 := hid_of kq1; replace kv1 := hid_of kv1; replace lq1 := hid_of lq1; replace lv1 := hid_of lv1))
    obtain ⟨X, hX⟩ : ∃ X, Hid (Z1.setCell ⟨pb, 1, none⟩ (.pointer (some ⟨q1, 0, none⟩)) = X) := ⟨_, rfl⟩
    have hFX : Fr (· = pb) Z1 X := by rw [← hX.out]; exact (Fr.refl _ Z1).set _ _ (.inl rfl)
    have kPX := heap_setCell_same Z1 pb 1 _ _ (.pointer (some ⟨q1, 0, none⟩)) pz.out
    rw [hX.out] at kPX ⊢
    have up : ∀ {b : Nat} {vs : Array Value} {t : TypeId}, Y.heap[b]? = some (.cells vs t (0, 0)) → t ≠ 52 → X.heap[b]? = some (.cells vs t (0, 0)) := fun {b vs t} e ht => (hFX.block b (Array.getElem?_eq_some_iff.1 (up_below hz1.out e)).1 (ne_of_types (up_below hz1.out e) pz.out ht)).trans (up_below hz1.out e)
    have upz : ∀ {b : Nat} {vs : Array Value} {t : TypeId}, Z1.heap[b]? = some (.cells vs t (0, 0)) → t ≠ 52 → X.heap[b]? = some (.cells vs t (0, 0)) := fun {b vs t} e ht => (hFX.block b (Array.getElem?_eq_some_iff.1 e).1 (ne_of_types e pz.out ht)).trans e
    have hBX : Below w.heap.size w X := (((Fr.of_below (S := fun _ => False) (hBY.out.trans (((below_drew (Below.refl _ Y)).trans hz1.out).mono hBY.out.size))).next hFX (fun i hi => .inr (by have hi' : i = pb := hi; rw [hi']; exact hpb)))).below (Nat.le_refl _) (fun _ h => h.elim)
    have kKX := up kK.out (by decide)
    have lYq : Y.heap.size ≤ q1 := lq1.out
    have hfin : Hid (Below w.heap.size w X ∧ KS lo X ⟨kb, hb, rb, pb, q0, q1, lb⟩ ⟨0, none, 0, 0, 0, 0, 0, 0, none, 0, 0⟩) := by
      refine ⟨hBX, kKX, kPX, ⟨vr, up kR.out (by decide), up kV.out (by decide)⟩, ⟨v0, up kq0.out (by decide), up kv0.out (by decide)⟩, ⟨v1, upz kq1.out (by decide), upz kv1.out (by decide)⟩, up kL.out (by decide), ?_, ?_, ?_, ?_, ?_⟩
      · exact Nat.le_trans hlo hlr
      · exact Nat.le_trans hlo (Nat.le_trans hBF.out.size hlq0.out)
      · exact Nat.le_trans hlo (Nat.le_trans hBY.out.size lYq)
      · exact Nat.le_trans hlo hll
      · show q0 ≠ q1
        have a1 := hYs.out
        have a2 := hq0.out
        omega
    obtain ⟨-, -, c2, -⟩ := cells4 kKX
    clear up upz hFX hz1 pz q0c q1c q2c q3c lq1 lv1 hX kKX hBX kPX p0 p1 x0 hin
    go_wp2_with fail
    rw [rounds_succ]
    go_wp2_with fail
    go_ret2
    exact ⟨hfin.out.1, ⟨kb, hb, rb, pb, q0, q1, lb⟩, rfl, rfl, hfin.out.2⟩
  · obtain ⟨F, hF⟩ : ∃ F, Hid ((Zl.alloc (.cells #[.pointer none, .pointer none] 52)).alloc (.cells #[.pointer (some ⟨hb, 0, none⟩), .pointer (some ⟨rb, 0, none⟩), .slice (some ⟨Zl.heap.size, 0, none⟩) 2 2, .pointer (some ⟨lb, 0, none⟩)] 51) = F) := ⟨_, rfl⟩
    have kK : F.heap[(Zl.heap.size + 1)]? = some (.cells #[.pointer (some ⟨hb, 0, none⟩), .pointer (some ⟨rb, 0, none⟩), .slice (some ⟨Zl.heap.size, 0, none⟩) 2 2, .pointer (some ⟨lb, 0, none⟩)] 51 (0, 0)) := by rw [← hF.out]; exact (by have := heap_alloc_new (Zl.alloc (.cells #[.pointer none, .pointer none] 52)) (.cells #[.pointer (some ⟨hb, 0, none⟩), .pointer (some ⟨rb, 0, none⟩), .slice (some ⟨Zl.heap.size, 0, none⟩) 2 2, .pointer (some ⟨lb, 0, none⟩)] 51); simpa using this)
    have kP : F.heap[Zl.heap.size]? = some (.cells #[.pointer none, .pointer none] 52 (0, 0)) := by rw [← hF.out]; exact up_alloc (heap_alloc_new Zl _)
    have kR : F.heap[rb]? = some (.cells (rCs 4 0 vr) 94 (0, 0)) := by rw [← hF.out]; exact up_alloc (up_alloc (up_below hbl.out kr.out))
    have kV : F.heap[vr]? = some (.cells #[.int .i64 0, .slice none 0 0, .int .i64 0] 28 (0, 0)) := by rw [← hF.out]; exact up_alloc (up_alloc (up_below hbl.out kv.out))
    have kL : F.heap[lb]? = some (.cells (lCs 4 3 0 none 0 0) 97 (0, 0)) := by rw [← hF.out]; exact up_alloc (up_alloc kl.out)
    have kW : F.heap[wb]? = some (.cells #[.bool false] 55 (0, 0)) := by rw [← hF.out]; exact up_alloc (up_alloc (up_below hbl.out (up_below hbr.out (up_drew hw1.out))))
    have hBF : Below w.heap.size w F := by rw [← hF.out]; exact ((hB1.out.trans (((below_drew (Below.refl _ W1)).trans (hbr.out.trans (hbl.out.mono hbr.out.size))).mono hB1.out.size)).alloc (Nat.le_trans hB1.out.size (Nat.le_trans hbr.out.size hbl.out.size)) _).alloc (Nat.le_trans (Nat.le_trans hB1.out.size (Nat.le_trans hbr.out.size hbl.out.size)) (by simp)) _
    have hlr : w.heap.size ≤ rb := Nat.le_trans hB1.out.size (Nat.le_trans (Nat.le_refl _) lr.out)
    have hll : w.heap.size ≤ lb := Nat.le_trans hB1.out.size (Nat.le_trans hbr.out.size ll.out)
    have hpb : w.heap.size ≤ Zl.heap.size := Nat.le_trans hB1.out.size (Nat.le_trans hbr.out.size hbl.out.size)
    generalize hkb : (Zl.heap.size + 1) = kb at *
    generalize hpbe : Zl.heap.size = pb at *
    clear hkb hpbe t0 t1 t2 t3 s0 s1 s2 s3 kr kv kl lr lv ll hbr hbl
    obtain ⟨-, -, c2, -⟩ := cells4 kK
    obtain ⟨p0, p1⟩ := cells2 kP
    have x0 : F.cell? ⟨wb, 0, none⟩ = some (.bool false) := cell_of kW rfl
    have n1 : kb ≠ pb := ne_of_types kK kP (by decide)
    have n2 : wb ≠ pb := ne_of_types kW kP (by decide)
    have hin := hid_of (inew_any wb 4 1 0 F.drew x0)
    replace kK := hid_of kK
    replace kP := hid_of kP
    replace kR := hid_of kR
    replace kV := hid_of kV
    replace kL := hid_of kL
    replace kW := hid_of kW
    replace hBF := hid_of hBF
    rw [hF.out]
    clear hF
    go_wp2_with fail
    refine wp_loop_rounds 3 ?_
    rw [rounds_succ]
    go_upto_region 7 with fail
    go_region_held3 (fun w' => w'.cell? ⟨kb, 2, none⟩ = some (.slice (some ⟨pb, 0, none⟩) 2 2) ∧ w'.cell? ⟨wb, 0, none⟩ = some (.bool false)) (first | (go_keep; done) | (refine ⟨?_, ?_⟩ <;> (first | exact cell_far q0c n1 | exact cell_far q1c n2))) (first
      | (go_at_call 17; refine hin.out.mono ?_; rintro e Z0 ⟨hz0, q0, v0, rfl, lq0, lv0, kq0, kv0⟩; have q0c : Z0.cell? ⟨kb, 2, none⟩ = some (.slice (some ⟨pb, 0, none⟩) 2 2) := stay hz0 c2; have q1c : Z0.cell? ⟨wb, 0, none⟩ = some (.bool false) := stay hz0 x0; have pz := up_below hz0 kP.out; have q2c : Z0.cell? ⟨pb, 0, none⟩ = some (.pointer none) := cell_of pz rfl; have q3c : Z0.frozen? ⟨pb, 0, none⟩ = false := warm pz; replace hz0 := hid_of hz0; replace pz := hid_of pz; replace kq0 := hid_of kq0; replace kv0 := hid_of kv0; replace lq0 := hid_of lq0; replace lv0 := hid_of lv0))
    obtain ⟨Y, hY⟩ : ∃ Y, Hid (Z0.setCell ⟨pb, 0, none⟩ (.pointer (some ⟨q0, 0, none⟩)) = Y) := ⟨_, rfl⟩
    have hFY : Fr (· = pb) Z0 Y := by rw [← hY.out]; exact (Fr.refl _ Z0).set _ _ (.inl rfl)
    have kPY := heap_setCell_same Z0 pb 0 _ _ (.pointer (some ⟨q0, 0, none⟩)) pz.out
    rw [hY.out] at kPY ⊢
    have up : ∀ {b : Nat} {vs : Array Value} {t : TypeId}, F.heap[b]? = some (.cells vs t (0, 0)) → t ≠ 52 → Y.heap[b]? = some (.cells vs t (0, 0)) := fun {b vs t} e ht => (hFY.block b (Array.getElem?_eq_some_iff.1 (up_below hz0.out e)).1 (ne_of_types (up_below hz0.out e) pz.out ht)).trans (up_below hz0.out e)
    have upz : ∀ {b : Nat} {vs : Array Value} {t : TypeId}, Z0.heap[b]? = some (.cells vs t (0, 0)) → t ≠ 52 → Y.heap[b]? = some (.cells vs t (0, 0)) := fun {b vs t} e ht => (hFY.block b (Array.getElem?_eq_some_iff.1 e).1 (ne_of_types e pz.out ht)).trans e
    have kK := up kK.out (by decide)
    have kR := hid_of (up kR.out (by decide))
    have kV := hid_of (up kV.out (by decide))
    have kL := hid_of (up kL.out (by decide))
    have kW := up kW.out (by decide)
    have kq0 := hid_of (upz kq0.out (by decide))
    have kv0 := hid_of (upz kv0.out (by decide))
    have hlq0 : Hid (F.heap.size ≤ q0) := lq0.out
    have hBY : Hid (Below w.heap.size w Y) := (((Fr.of_below (S := fun _ => False) (hBF.out.trans (((below_drew (Below.refl _ F)).trans hz0.out).mono hBF.out.size))).next hFY (fun i hi => .inr (by have hi' : i = pb := hi; rw [hi']; exact hpb)))).below (Nat.le_refl _) (fun _ h => h.elim)
    have hYs : Hid (Z0.heap.size ≤ Y.heap.size) := hFY.size
    have hq0 : Hid (q0 < Z0.heap.size) := by
      have := (Array.getElem?_eq_some_iff.1 kq0.out).1
      rw [← hY.out] at this
      show q0 < Z0.heap.size
      simpa [World.setCell] using this
    obtain ⟨-, -, c2, -⟩ := cells4 kK
    obtain ⟨p0, p1⟩ := cells2 kPY
    have x0 : Y.cell? ⟨wb, 0, none⟩ = some (.bool false) := cell_of kW rfl
    have hin := hid_of (inew_any wb 4 2 0 Y.drew x0)
    replace kK := hid_of kK
    replace kW := hid_of kW
    replace kPY := hid_of kPY
    clear up upz hFY hz0 pz q0c q1c q2c q3c lq0 lv0 hY
    go_wp2_with fail
    rw [rounds_succ]
    go_upto_region 7 with fail
    go_region_held3 (fun w' => w'.cell? ⟨kb, 2, none⟩ = some (.slice (some ⟨pb, 0, none⟩) 2 2) ∧ w'.cell? ⟨wb, 0, none⟩ = some (.bool false)) (first | (go_keep; done) | (refine ⟨?_, ?_⟩ <;> (first | exact cell_far q0c n1 | exact cell_far q1c n2))) (first
      | (go_at_call 17; refine hin.out.mono ?_; rintro e Z1 ⟨hz1, q1, v1, rfl, lq1, lv1, kq1, kv1⟩; have q0c : Z1.cell? ⟨kb, 2, none⟩ = some (.slice (some ⟨pb, 0, none⟩) 2 2) := stay hz1 c2; have q1c : Z1.cell? ⟨wb, 0, none⟩ = some (.bool false) := stay hz1 x0; have pz := up_below hz1 kPY.out; have q2c : Z1.cell? ⟨pb, 1, none⟩ = some (.pointer none) := cell_of pz rfl; have q3c : Z1.frozen? ⟨pb, 1, none⟩ = false := warm pz; replace hz1 := hid_of hz1; replace pz := hid_of pz; replace kq1 := hid_of kq1; replace kv1 := hid_of kv1; replace lq1 := hid_of lq1; replace lv1 := hid_of lv1))
    obtain ⟨X, hX⟩ : ∃ X, Hid (Z1.setCell ⟨pb, 1, none⟩ (.pointer (some ⟨q1, 0, none⟩)) = X) := ⟨_, rfl⟩
    have hFX : Fr (· = pb) Z1 X := by rw [← hX.out]; exact (Fr.refl _ Z1).set _ _ (.inl rfl)
    have kPX := heap_setCell_same Z1 pb 1 _ _ (.pointer (some ⟨q1, 0, none⟩)) pz.out
    rw [hX.out] at kPX ⊢
    have up : ∀ {b : Nat} {vs : Array Value} {t : TypeId}, Y.heap[b]? = some (.cells vs t (0, 0)) → t ≠ 52 → X.heap[b]? = some (.cells vs t (0, 0)) := fun {b vs t} e ht => (hFX.block b (Array.getElem?_eq_some_iff.1 (up_below hz1.out e)).1 (ne_of_types (up_below hz1.out e) pz.out ht)).trans (up_below hz1.out e)
    have upz : ∀ {b : Nat} {vs : Array Value} {t : TypeId}, Z1.heap[b]? = some (.cells vs t (0, 0)) → t ≠ 52 → X.heap[b]? = some (.cells vs t (0, 0)) := fun {b vs t} e ht => (hFX.block b (Array.getElem?_eq_some_iff.1 e).1 (ne_of_types e pz.out ht)).trans e
    have hBX : Below w.heap.size w X := (((Fr.of_below (S := fun _ => False) (hBY.out.trans (((below_drew (Below.refl _ Y)).trans hz1.out).mono hBY.out.size))).next hFX (fun i hi => .inr (by have hi' : i = pb := hi; rw [hi']; exact hpb)))).below (Nat.le_refl _) (fun _ h => h.elim)
    have kKX := up kK.out (by decide)
    have lYq : Y.heap.size ≤ q1 := lq1.out
    have hfin : Hid (Below w.heap.size w X ∧ KS lo X ⟨kb, hb, rb, pb, q0, q1, lb⟩ ⟨0, none, 0, 0, 0, 0, 0, 0, none, 0, 0⟩) := by
      refine ⟨hBX, kKX, kPX, ⟨vr, up kR.out (by decide), up kV.out (by decide)⟩, ⟨v0, up kq0.out (by decide), up kv0.out (by decide)⟩, ⟨v1, upz kq1.out (by decide), upz kv1.out (by decide)⟩, up kL.out (by decide), ?_, ?_, ?_, ?_, ?_⟩
      · exact Nat.le_trans hlo hlr
      · exact Nat.le_trans hlo (Nat.le_trans hBF.out.size hlq0.out)
      · exact Nat.le_trans hlo (Nat.le_trans hBY.out.size lYq)
      · exact Nat.le_trans hlo hll
      · show q0 ≠ q1
        have a1 := hYs.out
        have a2 := hq0.out
        omega
    obtain ⟨-, -, c2, -⟩ := cells4 kKX
    clear up upz hFX hz1 pz q0c q1c q2c q3c lq1 lv1 hX kKX hBX kPX p0 p1 x0 hin
    go_wp2_with fail
    rw [rounds_succ]
    go_wp2_with fail
    go_ret2
    exact ⟨hfin.out.1, ⟨kb, hb, rb, pb, q0, q1, lb⟩, rfl, rfl, hfin.out.2⟩
  · obtain ⟨F, hF⟩ : ∃ F, Hid (Zl.alloc (.cells #[.pointer (some ⟨hb, 0, none⟩), .pointer (some ⟨rb, 0, none⟩), .slice (some ⟨W1.heap.size, 0, none⟩) 2 2, .pointer (some ⟨lb, 0, none⟩)] 51) = F) := ⟨_, rfl⟩
    have kK : F.heap[Zl.heap.size]? = some (.cells #[.pointer (some ⟨hb, 0, none⟩), .pointer (some ⟨rb, 0, none⟩), .slice (some ⟨W1.heap.size, 0, none⟩) 2 2, .pointer (some ⟨lb, 0, none⟩)] 51 (0, 0)) := by rw [← hF.out]; exact heap_alloc_new Zl _
    have kP : F.heap[W1.heap.size]? = some (.cells #[.pointer none, .pointer none] 52 (0, 0)) := by rw [← hF.out]; exact up_alloc (up_below hbl.out (up_below hbr.out (heap_alloc_new W1.drew _)))
    have kR : F.heap[rb]? = some (.cells (rCs 4 0 vr) 94 (0, 0)) := by rw [← hF.out]; exact up_alloc (up_below hbl.out kr.out)
    have kV : F.heap[vr]? = some (.cells #[.int .i64 0, .slice none 0 0, .int .i64 0] 28 (0, 0)) := by rw [← hF.out]; exact up_alloc (up_below hbl.out kv.out)
    have kL : F.heap[lb]? = some (.cells (lCs 4 3 0 none 0 0) 97 (0, 0)) := by rw [← hF.out]; exact up_alloc kl.out
    have kW : F.heap[wb]? = some (.cells #[.bool false] 55 (0, 0)) := by rw [← hF.out]; exact up_alloc (up_below hbl.out (up_below hbr.out (up_alloc (up_drew hw1.out))))
    have hBF : Below w.heap.size w F := by rw [← hF.out]; exact (hB1.out.trans ((((below_drew (Below.refl _ W1)).alloc (Nat.le_refl _) _).trans (hbr.out.mono (by simp)) |>.trans (hbl.out.mono (Nat.le_trans (by simp) hbr.out.size))).mono hB1.out.size)).alloc (Nat.le_trans hB1.out.size (Nat.le_trans (Nat.le_trans (by simp) hbr.out.size) hbl.out.size)) _
    have hlr : w.heap.size ≤ rb := Nat.le_trans hB1.out.size (Nat.le_trans (by simp) lr.out)
    have hll : w.heap.size ≤ lb := Nat.le_trans hB1.out.size (Nat.le_trans (Nat.le_trans (by simp) hbr.out.size) ll.out)
    have hpb : w.heap.size ≤ W1.heap.size := Nat.le_trans hB1.out.size (Nat.le_refl _)
    generalize hkb : Zl.heap.size = kb at *
    generalize hpbe : W1.heap.size = pb at *
    clear hkb hpbe t0 t1 t2 t3 s0 s1 s2 s3 kr kv kl lr lv ll hbr hbl
    obtain ⟨-, -, c2, -⟩ := cells4 kK
    obtain ⟨p0, p1⟩ := cells2 kP
    have x0 : F.cell? ⟨wb, 0, none⟩ = some (.bool false) := cell_of kW rfl
    have n1 : kb ≠ pb := ne_of_types kK kP (by decide)
    have n2 : wb ≠ pb := ne_of_types kW kP (by decide)
    have hin := hid_of (inew_any wb 4 1 0 F.drew x0)
    replace kK := hid_of kK
    replace kP := hid_of kP
    replace kR := hid_of kR
    replace kV := hid_of kV
    replace kL := hid_of kL
    replace kW := hid_of kW
    replace hBF := hid_of hBF
    rw [hF.out]
    clear hF
    go_wp2_with fail
    refine wp_loop_rounds 3 ?_
    rw [rounds_succ]
    go_upto_region 7 with fail
    go_region_held3 (fun w' => w'.cell? ⟨kb, 2, none⟩ = some (.slice (some ⟨pb, 0, none⟩) 2 2) ∧ w'.cell? ⟨wb, 0, none⟩ = some (.bool false)) (first | (go_keep; done) | (refine ⟨?_, ?_⟩ <;> (first | exact cell_far q0c n1 | exact cell_far q1c n2))) (first
      | (go_at_call 17; refine hin.out.mono ?_; rintro e Z0 ⟨hz0, q0, v0, rfl, lq0, lv0, kq0, kv0⟩; have q0c : Z0.cell? ⟨kb, 2, none⟩ = some (.slice (some ⟨pb, 0, none⟩) 2 2) := stay hz0 c2; have q1c : Z0.cell? ⟨wb, 0, none⟩ = some (.bool false) := stay hz0 x0; have pz := up_below hz0 kP.out; have q2c : Z0.cell? ⟨pb, 0, none⟩ = some (.pointer none) := cell_of pz rfl; have q3c : Z0.frozen? ⟨pb, 0, none⟩ = false := warm pz; replace hz0 := hid_of hz0; replace pz := hid_of pz; replace kq0 := hid_of kq0; replace kv0 := hid_of kv0; replace lq0 := hid_of lq0; replace lv0 := hid_of lv0))
    obtain ⟨Y, hY⟩ : ∃ Y, Hid (Z0.setCell ⟨pb, 0, none⟩ (.pointer (some ⟨q0, 0, none⟩)) = Y) := ⟨_, rfl⟩
    have hFY : Fr (· = pb) Z0 Y := by rw [← hY.out]; exact (Fr.refl _ Z0).set _ _ (.inl rfl)
    have kPY := heap_setCell_same Z0 pb 0 _ _ (.pointer (some ⟨q0, 0, none⟩)) pz.out
    rw [hY.out] at kPY ⊢
    have up : ∀ {b : Nat} {vs : Array Value} {t : TypeId}, F.heap[b]? = some (.cells vs t (0, 0)) → t ≠ 52 → Y.heap[b]? = some (.cells vs t (0, 0)) := fun {b vs t} e ht => (hFY.block b (Array.getElem?_eq_some_iff.1 (up_below hz0.out e)).1 (ne_of_types (up_below hz0.out e) pz.out ht)).trans (up_below hz0.out e)
    have upz : ∀ {b : Nat} {vs : Array Value} {t : TypeId}, Z0.heap[b]? = some (.cells vs t (0, 0)) → t ≠ 52 → Y.heap[b]? = some (.cells vs t (0, 0)) := fun {b vs t} e ht => (hFY.block b (Array.getElem?_eq_some_iff.1 e).1 (ne_of_types e pz.out ht)).trans e
    have kK := up kK.out (by decide)
    have kR := hid_of (up kR.out (by decide))
    have kV := hid_of (up kV.out (by decide))
    have kL := hid_of (up kL.out (by decide))
    have kW := up kW.out (by decide)
    have kq0 := hid_of (upz kq0.out (by decide))
    have kv0 := hid_of (upz kv0.out (by decide))
    have hlq0 : Hid (F.heap.size ≤ q0) := lq0.out
    have hBY : Hid (Below w.heap.size w Y) := (((Fr.of_below (S := fun _ => False) (hBF.out.trans (((below_drew (Below.refl _ F)).trans hz0.out).mono hBF.out.size))).next hFY (fun i hi => .inr (by have hi' : i = pb := hi; rw [hi']; exact hpb)))).below (Nat.le_refl _) (fun _ h => h.elim)
    have hYs : Hid (Z0.heap.size ≤ Y.heap.size) := hFY.size
    have hq0 : Hid (q0 < Z0.heap.size) := by
      have := (Array.getElem?_eq_some_iff.1 kq0.out).1
      rw [← hY.out] at this
      show q0 < Z0.heap.size
      simpa [World.setCell] using this
    obtain ⟨-, -, c2, -⟩ := cells4 kK
    obtain ⟨p0, p1⟩ := cells2 kPY
    have x0 : Y.cell? ⟨wb, 0, none⟩ = some (.bool false) := cell_of kW rfl
    have hin := hid_of (inew_any wb 4 2 0 Y.drew x0)
    replace kK := hid_of kK
    replace kW := hid_of kW
    replace kPY := hid_of kPY
    clear up upz hFY hz0 pz q0c q1c q2c q3c lq0 lv0 hY
    go_wp2_with fail
    rw [rounds_succ]
    go_upto_region 7 with fail
    go_region_held3 (fun w' => w'.cell? ⟨kb, 2, none⟩ = some (.slice (some ⟨pb, 0, none⟩) 2 2) ∧ w'.cell? ⟨wb, 0, none⟩ = some (.bool false)) (first | (go_keep; done) | (refine ⟨?_, ?_⟩ <;> (first | exact cell_far q0c n1 | exact cell_far q1c n2))) (first
      | (go_at_call 17; refine hin.out.mono ?_; rintro e Z1 ⟨hz1, q1, v1, rfl, lq1, lv1, kq1, kv1⟩; have q0c : Z1.cell? ⟨kb, 2, none⟩ = some (.slice (some ⟨pb, 0, none⟩) 2 2) := stay hz1 c2; have q1c : Z1.cell? ⟨wb, 0, none⟩ = some (.bool false) := stay hz1 x0; have pz := up_below hz1 kPY.out; have q2c : Z1.cell? ⟨pb, 1, none⟩ = some (.pointer none) := cell_of pz rfl; have q3c : Z1.frozen? ⟨pb, 1, none⟩ = false := warm pz; replace hz1 := hid_of hz1; replace pz := hid_of pz; replace kq1 := hid_of kq1; replace kv1 := hid_of kv1; replace lq1 := hid_of lq1; replace lv1 := hid_of lv1))
    obtain ⟨X, hX⟩ : ∃ X, Hid (Z1.setCell ⟨pb, 1, none⟩ (.pointer (some ⟨q1, 0, none⟩)) = X) := ⟨_, rfl⟩
    have hFX : Fr (· = pb) Z1 X := by rw [← hX.out]; exact (Fr.refl _ Z1).set _ _ (.inl rfl)
    have kPX := heap_setCell_same Z1 pb 1 _ _ (.pointer (some ⟨q1, 0, none⟩)) pz.out
    rw [hX.out] at kPX ⊢
    have up : ∀ {b : Nat} {vs : Array Value} {t : TypeId}, Y.heap[b]? = some (.cells vs t (0, 0)) → t ≠ 52 → X.heap[b]? = some (.cells vs t (0, 0)) := fun {b vs t} e ht => (hFX.block b (Array.getElem?_eq_some_iff.1 (up_below hz1.out e)).1 (ne_of_types (up_below hz1.out e) pz.out ht)).trans (up_below hz1.out e)
    have upz : ∀ {b : Nat} {vs : Array Value} {t : TypeId}, Z1.heap[b]? = some (.cells vs t (0, 0)) → t ≠ 52 → X.heap[b]? = some (.cells vs t (0, 0)) := fun {b vs t} e ht => (hFX.block b (Array.getElem?_eq_some_iff.1 e).1 (ne_of_types e pz.out ht)).trans e
    have hBX : Below w.heap.size w X := (((Fr.of_below (S := fun _ => False) (hBY.out.trans (((below_drew (Below.refl _ Y)).trans hz1.out).mono hBY.out.size))).next hFX (fun i hi => .inr (by have hi' : i = pb := hi; rw [hi']; exact hpb)))).below (Nat.le_refl _) (fun _ h => h.elim)
    have kKX := up kK.out (by decide)
    have lYq : Y.heap.size ≤ q1 := lq1.out
    have hfin : Hid (Below w.heap.size w X ∧ KS lo X ⟨kb, hb, rb, pb, q0, q1, lb⟩ ⟨0, none, 0, 0, 0, 0, 0, 0, none, 0, 0⟩) := by
      refine ⟨hBX, kKX, kPX, ⟨vr, up kR.out (by decide), up kV.out (by decide)⟩, ⟨v0, up kq0.out (by decide), up kv0.out (by decide)⟩, ⟨v1, upz kq1.out (by decide), upz kv1.out (by decide)⟩, up kL.out (by decide), ?_, ?_, ?_, ?_, ?_⟩
      · exact Nat.le_trans hlo hlr
      · exact Nat.le_trans hlo (Nat.le_trans hBF.out.size hlq0.out)
      · exact Nat.le_trans hlo (Nat.le_trans hBY.out.size lYq)
      · exact Nat.le_trans hlo hll
      · show q0 ≠ q1
        have a1 := hYs.out
        have a2 := hq0.out
        omega
    obtain ⟨-, -, c2, -⟩ := cells4 kKX
    clear up upz hFX hz1 pz q0c q1c q2c q3c lq1 lv1 hX kKX hBX kPX p0 p1 x0 hin
    go_wp2_with fail
    rw [rounds_succ]
    go_wp2_with fail
    go_ret2
    exact ⟨hfin.out.1, ⟨kb, hb, rb, pb, q0, q1, lb⟩, rfl, rfl, hfin.out.2⟩
end Go.Proofs.Ytloeongljbgmnaa
