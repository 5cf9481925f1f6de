import Derived.Test.YtnccaidlcaeeaaaGreatDoorPQ
import Derived.Test.YtnccaidlcaeeaaaGreatDoorW26
/-! The document's reader of texts: values of every depth, Parse. -/
namespace Go.Proofs.YtnccaidlcaeeaaaGreatDoor.Tree
open Go Go.RowKit

theorem val_code (r : Nat) (T : ByteArray) (hT : T.size ≤ 65536) : (k n d : Nat) → d + k = 64 → n ≤ T.size → (w : World) → RT w r T (n : Int) 0 0 →
    Calls Tryz.prog 24 #[.pointer (some ⟨r, 0, none⟩), .int .i64 (d : Int)] w (RValPost w r T (valR T (textR T) k n))
  | 0, n, d, hd, hn, w, h => by
    rw [valR]
    exact value_one r T n d _ _ w hT (hid_e h) hn (by omega) (hid_e fun _ _ => ⟨fun e => by omega, fun _ => rfl⟩) (hid_e fun _ _ => ⟨fun e => by omega, fun _ => rfl⟩)
  | k + 1, n, d, hd, hn, w, h => by
    rw [valR]
    have hv : ValOkJ (valR T (textR T) k) r T ((d : Int) + 1) := fun q W hW hq => by
      have := val_code r T hT k q (d + 1) (by omega) hq W hW
      rw [show ((d + 1 : Nat) : Int) = (d : Int) + 1 by omega] at this
      exact this
    have hf : ∀ q, q ≤ T.size → Fine T q (valR T (textR T) k q) := fun q hq => val_fine T k q hq
    exact value_one r T n d _ _ w hT (hid_e h) hn (by omega) (hid_e fun hlt _ => ⟨fun e W hW => list_code r T n d _ W hT (hid_e hW) hlt (by omega) (hid_e hv) (hid_e hf), fun e => by omega⟩)
      (hid_e fun hlt _ => ⟨fun e W hW => object_code r T n d _ W hT (hid_e hW) hlt (by omega) (hid_e hv) (hid_e hf), fun e => by omega⟩)
def outT : Res J → Tr
  | .ok j _ => ofJ j
  | .bad _ _ => .node 0 0 noS [] []
def outE : Res J → Nat
  | .ok _ _ => 0
  | .bad e _ => e
def outP : Res J → Nat
  | .ok _ _ => 0
  | .bad _ p => p
/-- What both readers answer. -/
def PPost (R : Res J) (e : Ending) (w' : World) : Prop := ∃ (k x : Int) (s : ByteArray) (an : Option Addr) (ln cn : Nat) (ai : Option Addr) (li ci : Nat), e = .returned (.tuple #[.agg #[.int .i64 k, .int .i64 x, .string s, .slice an ln cn, .slice ai li ci], .int .i64 (outE R : Int), .int .i64 (outP R : Int)]) ∧ VRep w' (outT R) (five k x s (.slice an ln cn) (.slice ai li ci))
theorem tail_none {T : ByteArray} {e p : Nat} (h : valR T (textR T) 64 (skip T 0) = .bad e p) : wholeR T (textR T) = .bad e p := by unfold wholeR; rw [h]; rfl
theorem tail_more {T : ByteArray} {j : J} {q s : Nat} (h : valR T (textR T) 64 (skip T 0) = .ok j q) (hs : skip T q = s) (hl : s < T.size) : wholeR T (textR T) = .bad 4 s := by
  unfold wholeR
  rw [h]
  show (if skip T q < T.size then _ else _) = _
  rw [hs, if_pos hl]
theorem tail_end {T : ByteArray} {j : J} {q s : Nat} (h : valR T (textR T) 64 (skip T 0) = .ok j q) (hs : skip T q = s) (hl : ¬ s < T.size) : wholeR T (textR T) = .ok j 0 := by
  unfold wholeR
  rw [h]
  show (if skip T q < T.size then _ else _) = _
  rw [hs, if_neg hl]
set_option maxHeartbeats 8000000 in
set_option maxRecDepth 100000 in
theorem rparse_code (T : ByteArray) (w : World) : Calls Tryz.prog 13 #[.string T] w fun e w' => PPost (parsed T) e w' ∧ Below w.heap.size w w' := by
  obtain ⟨P, hP⟩ : ∃ P, Hid (parsed T = P) := ⟨_, hid_e rfl⟩
  rw [hP.out]
  by_cases hT : T.size ≤ 65536
  rotate_left
  · have hPe : P = .bad 1 0 := by rw [← hP.out]; unfold parsed; rw [if_neg hT]
    subst hPe
    have hlong : (65536 : Int) < (T.size : Int) := by omega
    have n0 := heap_alloc_new w (.cells #[.int .i64 0, .int .i64 0, .string ⟨#[]⟩, .slice none 0 0, .slice none 0 0] 25)
    have hB0 : Hid (Below w.heap.size w (w.alloc (.cells #[.int .i64 0, .int .i64 0, .string ⟨#[]⟩, .slice none 0 0, .slice none 0 0] 25))) := (Below.refl _ w).alloc (Nat.le_refl _) _
    obtain ⟨v0, v1, v2, v3, v4, -⟩ := row_cells n0
    go_enter Tryz.func13, Tryz.ntmps13
    go_wp2_with fail
    refine bodyPost_ret (v := .tuple #[.agg #[.int .i64 0, .int .i64 0, .string ⟨#[]⟩, .slice none 0 0, .slice none 0 0], .int .i64 1, .int .i64 0]) (by simp [results, Tryz.results13, go_sem, v0, v1, v2, v3, v4]) rfl ?_
    exact ⟨⟨0, 0, ⟨#[]⟩, none, 0, 0, none, 0, 0, rfl, vrep_flat _ 0 0 noS⟩, hB0.out⟩
  have hshort : ¬ (65536 : Int) < (T.size : Int) := by omega
  have hPw : Hid (wholeR T (textR T) = P) := by rw [Hid, ← hP.out]; unfold parsed; rw [if_pos hT]
  clear hP
  have x1 := new1 w (.cells #[.int .i64 0, .int .i64 0, .string ⟨#[]⟩, .slice none 0 0, .slice none 0 0] 25) (.cells #[.string T, .int .i64 0, .int .i64 0, .int .i64 0] 48)
  have x2 := new2 w (.cells #[.int .i64 0, .int .i64 0, .string ⟨#[]⟩, .slice none 0 0, .slice none 0 0] 25) (.cells #[.string T, .int .i64 0, .int .i64 0, .int .i64 0] 48)
  have hF0 : FrP (· = w.heap.size + 1) w ((w.alloc (.cells #[.int .i64 0, .int .i64 0, .string ⟨#[]⟩, .slice none 0 0, .slice none 0 0] 25)).alloc (.cells #[.string T, .int .i64 0, .int .i64 0, .int .i64 0] 48)) := ((FrP.refl _ w).alloc _).alloc _
  go_enter Tryz.func13, Tryz.ntmps13
  go_upto_region 4 with fail
  generalize (w.alloc (.cells #[.int .i64 0, .int .i64 0, .string ⟨#[]⟩, .slice none 0 0, .slice none 0 0] 25)).alloc (.cells #[.string T, .int .i64 0, .int .i64 0, .int .i64 0] 48) = X0 at x1 x2 hF0 ⊢
  obtain ⟨r, hr⟩ : ∃ r, Hid (w.heap.size + 1 = r) := ⟨_, hid_e rfl⟩
  rw [hr.out] at x2 hF0 ⊢
  have hr1 : w.heap.size < r := by have := hr.out; omega
  have hR0 : RT X0 r T ((0 : Nat) : Int) 0 0 := x2
  have hbl := hid_e (blanks_code r T 0 X0 hT hR0 (Nat.zero_le _))
  go_upto_region 5 with fail
  go_fit hbl.out
  clear hbl
  rintro e1 X1 ⟨rfl, hR1, hF1⟩
  have y1 := (hF1.block _ (Array.getElem?_eq_some_iff.1 x1).1 (by omega)).trans x1
  have hF01 := hF0.trans hF1
  have hvl := hid_e (val_code r T hT 64 (skip T 0) 0 rfl (skip_bd T 0 (Nat.zero_le _)).2 X1 hR1)
  rw [show ((0 : Nat) : Int) = 0 from rfl] at hvl
  have hvf := hid_e (val_fine T 64 (skip T 0) (skip_bd T 0 (Nat.zero_le _)).2)
  have hrX : r < X1.heap.size := hR1.lt
  clear x1 x2 hF0 hF1 hR0 hR1
  go_upto_region 6 with fail
  go_fit hvl.out
  clear hvl
  rintro e2 X2 ⟨k, x, s, an, ln, cn, ai, li, ci, rfl, hsn, hVS, hF2⟩
  have y2 := (hF2.block _ (Array.getElem?_eq_some_iff.1 y1).1 (by omega)).trans y1
  have hF02 := hF01.trans hF2
  have hsz : X1.heap.size ≤ X2.heap.size := hF2.size
  have hwz : w.heap.size < X1.heap.size := (Array.getElem?_eq_some_iff.1 y1).1
  replace hsn := hid_e hsn
  clear y1 hF01 hF2
  obtain ⟨X3, hX3⟩ : ∃ X3, Hid (X2.alloc (.cells #[.int .i64 k, .int .i64 x, .string s, .slice an ln cn, .slice ai li ci] 25) = X3) := ⟨_, hid_e rfl⟩
  have b3 : X3.heap[X2.heap.size]? = some (.cells #[.int .i64 k, .int .i64 x, .string s, .slice an ln cn, .slice ai li ci] 25 (0, 0)) := by rw [← hX3.out]; exact heap_alloc_new X2 _
  have hF23 : FrP (fun _ => False) X2 X3 := by rw [← hX3.out]; exact (FrP.refl _ X2).alloc _
  have y3 := (hF23.block _ (Array.getElem?_eq_some_iff.1 y2).1 (fun e => e)).trans y2
  have hF03 : FrP (· = r) w X3 := hF02.next hF23 (fun _ e => e.elim)
  replace hVS := hid_e (hVS.keep hF23)
  have hsn3 : Hid (∀ j q, valR T (textR T) 64 (skip T 0) = .ok j q → Seen X3 (fun b => X1.heap.size ≤ b) (ofJ j) (five k x s (.slice an ln cn) (.slice ai li ci))) := fun j q e => (hsn.out j q e).keep (by rw [← hX3.out]; exact (Below.refl _ X2).alloc (Nat.le_refl _) _)
  clear y2 hF02 hF23 hsn
  go_upto_region 6 with (rw [hX3.out])
  clear hX3
  have hBf : ∀ W, FrP (· = r) w W → Below w.heap.size w W := fun W h => h.below (Nat.le_refl _) (fun i e => by omega)
  replace hBf := hid_e hBf
  cases hV : valR T (textR T) 64 (skip T 0) with
  | bad e p =>
    rw [hV] at hVS
    obtain ⟨he, zd, hRd⟩ := hVS.out
    have hei : (e : Int) ≠ 0 := by omega
    have e0 : ((e : Int) == 0) = false := by simpa using he
    have e1 : ((e : Int) != 0) = true := by simpa using he
    have hPe : Hid (P = .bad e p) := by rw [Hid, ← hPw.out]; exact tail_none hV
    have hb2 := hid_e (blanks_dead r T zd (p : Int) (e : Int) X3 hRd hei)
    clear hV hRd hVS hei hsn3
    go_upto_region 7 with fail
    go_fit hb2.out
    clear hb2
    rintro e3 X4 ⟨rfl, hR4, hF4⟩
    have y4 := (hF4.block _ (Array.getElem?_eq_some_iff.1 y3).1 (by omega)).trans y3
    have hF04 := hid_e (hF03.trans hF4)
    obtain ⟨q0, q1, q2, q3, -⟩ := hR4.cells
    obtain ⟨v0, v1, v2, v3, v4, vf⟩ := row_cells y4
    have vf0 := vf 0; have vf1 := vf 1; have vf2 := vf 2; have vf3 := vf 3; have vf4 := vf 4
    clear vf hF4 hF03 y3 b3 hR4
    go_upto_region 10 with fail
    go_region
    go_wp2_with fail
    have hr5 := put5_cells y4 (.int .i64 0) (.int .i64 0) (.string ⟨#[]⟩) (.slice none 0 0) (.slice none 0 0)
    have r0 := hr5 0; have r1 := hr5 1; have r2 := hr5 2; have r3 := hr5 3; have r4 := hr5 4
    clear hr5
    refine bodyPost_ret (v := .tuple #[.agg #[.int .i64 0, .int .i64 0, .string ⟨#[]⟩, .slice none 0 0, .slice none 0 0], .int .i64 (e : Int), .int .i64 (p : Int)]) (by simp [results, Tryz.results13, go_sem, r0, r1, r2, r3, r4]) rfl ?_
    rw [hPe.out]
    exact ⟨⟨0, 0, ⟨#[]⟩, none, 0, 0, none, 0, 0, rfl, vrep_flat _ 0 0 noS⟩, hBf.out _ ((hF04.out.put5 (.inr (Nat.le_refl _)) _ _ _ _ _).drew)⟩
  | ok j q =>
    rw [hV] at hVS hvf
    obtain ⟨m, hm1, hm2, hm3, hRd⟩ := hVS.out
    have hq2 := hvf.out.2
    obtain ⟨t, ht⟩ : ∃ t, Hid (skip T q = t) := ⟨_, hid_e rfl⟩
    rw [ht.out] at hm3
    have ht2 : t ≤ T.size := by rw [← ht.out]; exact (skip_bd T q hq2).2
    have hb2 := hid_e (blanks_code r T m X3 hT hRd hm2)
    rw [hm3] at hb2
    replace hsn3 := hid_e (hsn3.out j q hV)
    clear hVS hRd hm3 hvf
    go_upto_region 7 with fail
    go_fit hb2.out
    clear hb2
    rintro e3 X4 ⟨rfl, hR4, hF4⟩
    have y4 := (hF4.block _ (Array.getElem?_eq_some_iff.1 y3).1 (by omega)).trans y3
    have b4 := (hF4.block _ (Array.getElem?_eq_some_iff.1 b3).1 (by omega)).trans b3
    have hF04 := hid_e (hF03.trans hF4)
    obtain ⟨q0, q1, q2, q3, -⟩ := hR4.cells
    clear hF03 y3 b3
    by_cases hlt : t < T.size
    · have hPe : Hid (P = .bad 4 t) := by rw [Hid, ← hPw.out]; exact tail_more hV ht.out hlt
      have hli : (t : Int) < (T.size : Int) := by omega
      have hfl := hid_e (fail_code r T (t : Int) (t : Int) 4 X4 hR4)
      clear hV hF4 hsn3 hR4
      go_upto_region 9 with fail
      go_fit hfl.out
      clear hfl q0 q1 q2 q3
      rintro e4 X5 ⟨rfl, hR5, hF5⟩
      have y5 := (hF5.block _ (Array.getElem?_eq_some_iff.1 y4).1 (by omega)).trans y4
      replace hF04 := hid_e (hF04.out.trans hF5)
      obtain ⟨e, p, hep, e1, hR6⟩ : ∃ e p : Nat, Hid (P = .bad e p) ∧ ((e : Int) != 0) = true ∧ RT X5 r T (t : Int) (e : Int) (p : Int) := ⟨4, t, hPe, by decide, hR5⟩
      replace hPe := hep
      obtain ⟨q0, q1, q2, q3, -⟩ := hR6.cells
      obtain ⟨v0, v1, v2, v3, v4, vf⟩ := row_cells y5
      have vf0 := vf 0; have vf1 := vf 1; have vf2 := vf 2; have vf3 := vf 3; have vf4 := vf 4
      clear vf hF5 y4 b4 hR5 hep hR6
      obtain ⟨X4, hX4⟩ : ∃ X4 : World, X4 = X5 := ⟨_, rfl⟩
      subst hX4
      have y4 := y5
      go_upto_region 10 with fail
      go_region
      go_wp2_with fail
      have hr5 := put5_cells y4 (.int .i64 0) (.int .i64 0) (.string ⟨#[]⟩) (.slice none 0 0) (.slice none 0 0)
      have r0 := hr5 0; have r1 := hr5 1; have r2 := hr5 2; have r3 := hr5 3; have r4 := hr5 4
      clear hr5
      refine bodyPost_ret (v := .tuple #[.agg #[.int .i64 0, .int .i64 0, .string ⟨#[]⟩, .slice none 0 0, .slice none 0 0], .int .i64 (e : Int), .int .i64 (p : Int)]) (by simp [results, Tryz.results13, go_sem, r0, r1, r2, r3, r4]) rfl ?_
      rw [hPe.out]
      exact ⟨⟨0, 0, ⟨#[]⟩, none, 0, 0, none, 0, 0, rfl, vrep_flat _ 0 0 noS⟩, hBf.out _ ((hF04.out.put5 (.inr (Nat.le_refl _)) _ _ _ _ _).drew)⟩
    · have hPe : Hid (P = .ok j 0) := by rw [Hid, ← hPw.out]; exact tail_end hV ht.out hlt
      have hli : ¬ (t : Int) < (T.size : Int) := by omega
      obtain ⟨z0, z1, z2, z3, z4, -⟩ := row_cells b4
      obtain ⟨v0, v1, v2, v3, v4, vf⟩ := row_cells y4
      have vf0 := vf 0; have vf1 := vf 1; have vf2 := vf 2; have vf3 := vf 3; have vf4 := vf 4
      have hse : Hid (VRep (put5 X4 w.heap.size (.int .i64 k) (.int .i64 x) (.string s) (.slice an ln cn) (.slice ai li ci)) (ofJ j) (five k x s (.slice an ln cn) (.slice ai li ci))) := by
        refine hsn3.out _ ⟨?_, fun p u hp hc => ?_⟩
        · rw [put5_size]; exact hF4.size
        · have h1 : X1.heap.size ≤ p.block := hp
          refine (World.cell?_of_block (w := X4) (a := p) (put5_far _ _ _ _ _ (by omega))).trans (hF4.cell hc ?_)
          intro e
          have e' : p.block = r := e
          omega
      clear vf hV hF4 hsn3 hR4
      go_wp2_with fail
      have hr5 := put5_cells y4 (.int .i64 k) (.int .i64 x) (.string s) (.slice an ln cn) (.slice ai li ci)
      have r0 := hr5 0; have r1 := hr5 1; have r2 := hr5 2; have r3 := hr5 3; have r4 := hr5 4
      clear hr5
      refine bodyPost_ret (v := .tuple #[.agg #[.int .i64 k, .int .i64 x, .string s, .slice an ln cn, .slice ai li ci], .int .i64 0, .int .i64 0]) (by simp [results, Tryz.results13, go_sem, r0, r1, r2, r3, r4]) rfl ?_
      rw [hPe.out]
      exact ⟨⟨k, x, s, an, ln, cn, ai, li, ci, rfl, hse.out⟩, hBf.out _ (hF04.out.put5 (.inr (Nat.le_refl _)) _ _ _ _ _)⟩
end Go.Proofs.YtnccaidlcaeeaaaGreatDoor.Tree
/-! JsonvalParses, walked. -/
namespace Go.Proofs.YtnccaidlcaeeaaaGreatDoor
open Go Go.RowKit Go.Maps

theorem parse_long (T : ByteArray) (w : World) (hT : 65536 < T.size) :
    Calls Tryz.prog 14 #[.string T] w fun e w' => e = .returned (.tuple #[.agg #[.int .i64 0, .int .i64 0, .string noS, .slice none 0 0, .slice none 0 0], .int .i64 1, .int .i64 0]) ∧ Below w.heap.size w w' := by
  have hlong : (65536 : Int) < (T.size : Int) := by omega
  go_enter Tryz.func14, Tryz.ntmps14
  go_wp2_with fail
  have p0 : (w.alloc (.cells #[.int .i64 0, .int .i64 0, .string noS, .slice none 0 0, .slice none 0 0] 25)).heap[w.heap.size]? = some (.cells #[.int .i64 0, .int .i64 0, .string noS, .slice none 0 0, .slice none 0 0] 25 (0, 0)) := heap_alloc_new w _
  have r0 := cell_of p0 0
  have r1 := cell_of p0 1
  have r2 := cell_of p0 2
  have r3 := cell_of p0 3
  have r4 := cell_of p0 4
  unfold noS at *
  refine bodyPost_ret (v := .tuple #[.agg #[.int .i64 0, .int .i64 0, .string { data := #[] }, .slice none 0 0, .slice none 0 0], .int .i64 1, .int .i64 0]) (by simp [results, Tryz.results14, go_sem, r0, r1, r2, r3, r4]) rfl ?_
  exact ⟨rfl, (Below.refl _ _).alloc (Nat.le_refl _) _⟩
end Go.Proofs.YtnccaidlcaeeaaaGreatDoor
namespace Go.Proofs.YtnccaidlcaeeaaaGreatDoor.Tree
open Go Go.RowKit
theorem cparse_code (T : ByteArray) (w : World) (hE : Env w) (h8 : 8 ≤ w.heap.size) : Calls Tryz.prog 14 #[.string T] w fun e w' => PPost (parsed T) e w' ∧ Below w.heap.size w w' := by
  unfold parsed
  by_cases hT : T.size ≤ 65536
  · rw [if_pos hT]
    refine (parse_any T (textR T) (quoted_g T hT) w hE h8 hT).mono ?_
    rintro e w' ⟨hp, hb⟩
    refine ⟨?_, hb⟩
    cases hr : wholeR T (textR T) with
    | ok j n =>
      rw [hr] at hp
      obtain ⟨kd, x, s, a1, l1, c1, a2, l2, c2, he, hrep⟩ := hp
      exact ⟨kd, x, s, a1, l1, c1, a2, l2, c2, he, rep_vrep j _ hrep⟩
    | bad er p =>
      rw [hr] at hp
      have hp' : e = _ := hp
      exact ⟨0, 0, noS, none, 0, 0, none, 0, 0, hp', vrep_flat _ 0 0 noS⟩
  · rw [if_neg hT]
    refine (parse_long T w (by omega)).mono ?_
    rintro e w' ⟨he, hb⟩
    exact ⟨⟨0, 0, noS, none, 0, 0, none, 0, 0, he, vrep_flat _ 0 0 noS⟩, hb⟩
end Go.Proofs.YtnccaidlcaeeaaaGreatDoor.Tree
