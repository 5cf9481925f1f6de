import Derived.Test.YtnccaidlcaeeaaaGreatDoorPM
import Derived.Test.YtnccaidlcaeeaaaGreatDoorPH
import Derived.Test.YtnccaidlcaeeaaaGreatDoorPK
/-! The document's reader of texts: one value, its lists and objects being read as they should. -/
namespace Go.Proofs.YtnccaidlcaeeaaaGreatDoor.Tree
open Go Go.RowKit

/-- Lists and objects are read as they should. -/
def NestOk (f : Nat) (r : Nat) (T : ByteArray) (n : Nat) (d : Int) (R : Res J) : Prop := ∀ W, RT W r T (n : Int) 0 0 → Calls Tryz.prog f #[.pointer (some ⟨r, 0, none⟩), .int .i64 d] W (RValPost W r T R)
theorem fine_le {α : Type} {T : ByteArray} {n : Nat} {R : Res α} (h : Fine T n R) : ∀ x q, R = .ok x q → q ≤ T.size := fun x q e => by subst e; exact h.2
theorem RValPost.mk {w w1 : World} {r : Nat} {T : ByteArray} {R : Res J} {k x0 : Int} {s : ByteArray} {an : Option Addr} {ln cn : Nat} {ai : Option Addr} {li ci : Nat} (hr : r < w.heap.size) (hs : ∀ j q, R = .ok j q → Seen (put5 w1 w.heap.size (.int .i64 k) (.int .i64 x0) (.string s) (.slice an ln cn) (.slice ai li ci)) (fun b => w.heap.size ≤ b) (ofJ j) (five k x0 s (.slice an ln cn) (.slice ai li ci))) (hS : VSt w1 r T R) (hF : FrP (· = r) w w1) :
    RValPost w r T R (.returned (.agg #[.int .i64 k, .int .i64 x0, .string s, .slice an ln cn, .slice ai li ci])) (put5 w1 w.heap.size (.int .i64 k) (.int .i64 x0) (.string s) (.slice an ln cn) (.slice ai li ci)) :=
  ⟨_, _, _, _, _, _, _, _, _, rfl, hs, hS.put5 (by omega) _ _ _ _ _, hF.put5 (.inr (Nat.le_refl _)) _ _ _ _ _⟩
theorem byte_eq (b : UInt8) (n : Nat) (h : n < 256) : (((b.toNat : Nat) : Int) == (n : Int)) = decide (b = UInt8.ofNat n) := by
  rw [Bool.eq_iff_iff, beq_iff_eq, decide_eq_true_eq]
  constructor
  · intro e
    have e' : b.toNat = n := by omega
    rw [← e', UInt8.ofNat_toNat]
  · intro e
    subst e
    have : (UInt8.ofNat n).toNat = n := by simp; omega
    omega
/-- What a call within has read stands when the result is stored. -/
theorem seen_box {w w1 w2 : World} {t : Tr} {cs : List Value} (h : Seen w2 (fun b => w1.heap.size ≤ b) t cs) (hw : w.heap.size < w1.heap.size) (_ : True) {a0 a1 a2 a3 a4 : Value} : Seen (put5 w2 w.heap.size a0 a1 a2 a3 a4) (fun b => w.heap.size ≤ b) t cs := fun W' a =>
  h W' ⟨by have := a.1; rw [put5_size] at this; exact this, fun p u hp hc => a.2 p u (by show w.heap.size ≤ p.block; omega) ((World.cell?_of_block (w := w2) (a := p) (put5_far _ _ _ _ _ (by omega))).trans hc)⟩
set_option maxHeartbeats 8000000 in
set_option maxRecDepth 100000 in
theorem value_one (r : Nat) (T : ByteArray) (n d : Nat) (li ob : Res J) (w : World) (hT : T.size ≤ 65536) (h : Hid (RT w r T (n : Int) 0 0)) (hn : n ≤ T.size) (hd : d ≤ 64)
    (hli : Hid (n < T.size → byteAt T n = 91 → (d < 64 → NestOk 38 r T n (d : Int) li) ∧ (d = 64 → li = .bad 17 n)))
    (hob : Hid (n < T.size → byteAt T n = 123 → (d < 64 → NestOk 39 r T n (d : Int) ob) ∧ (d = 64 → ob = .bad 17 n))) :
    Calls Tryz.prog 24 #[.pointer (some ⟨r, 0, none⟩), .int .i64 (d : Int)] w (RValPost w r T (headR T (textR T) n li ob)) := by
  have hrl := h.out.lt
  obtain ⟨R, hR⟩ : ∃ R, Hid (headR T (textR T) n li ob = R) := ⟨_, hid_e rfl⟩
  rw [hR.out]
  have n0 := heap_alloc_new w (.cells #[.int .i64 0, .int .i64 0, .string ⟨#[]⟩, .slice none 0 0, .slice none 0 0] 25)
  have hF0 : FrP (· = r) w (w.alloc (.cells #[.int .i64 0, .int .i64 0, .string ⟨#[]⟩, .slice none 0 0, .slice none 0 0] 25)) := (FrP.refl _ w).alloc _
  have hR0 : RT (w.alloc (.cells #[.int .i64 0, .int .i64 0, .string ⟨#[]⟩, .slice none 0 0, .slice none 0 0] 25)) r T (n : Int) 0 0 := h.out.keep (S := fun _ => False) ((FrP.refl _ w).alloc _) (fun e => e)
  go_enter Tryz.func24, Tryz.ntmps24
  go_upto_region 1 with fail
  generalize w.alloc (.cells #[.int .i64 0, .int .i64 0, .string ⟨#[]⟩, .slice none 0 0, .slice none 0 0] 25) = W at n0 hF0 hR0 ⊢
  clear h
  by_cases hlt : n < T.size
  rotate_left
  · have e1 : n = T.size := by omega
    have hRe : Hid (R = .bad 3 T.size) := by rw [Hid, ← hR.out]; unfold headR; rw [if_neg hlt]
    have hnx := hid_e (next_short r T W (by rw [← e1]; exact hR0))
    clear e1
    go_wp2_with fail
    go_fit hnx.out
    rintro e1 w1 ⟨rfl, hS1, hF1⟩
    have n1 := (hF1.block _ (Array.getElem?_eq_some_iff.1 n0).1 (by omega)).trans n0
    have hFW := hid_e (hF0.trans hF1)
    replace hS1 := hid_e hS1
    clear hnx hF0 hF1 hR0 n0
    obtain ⟨v0, v1, v2, v3, v4, vf⟩ := row_cells n1
    have vf0 := vf 0; have vf1 := vf 1; have vf2 := vf 2; have vf3 := vf 3; have vf4 := vf 4
    clear vf
    go_wp2_with fail
    have hr5 := put5_cells n1 (.int .i64 0) (.int .i64 0) (.string ⟨#[]⟩) (.slice none 0 0) (.slice none 0 0)
    have r0 := hr5 0; have r1 := hr5 1; have r2 := hr5 2; have r3 := hr5 3; have r4 := hr5 4
    clear hr5
    refine bodyPost_ret (v := .agg #[.int .i64 0, .int .i64 0, .string ⟨#[]⟩, .slice none 0 0, .slice none 0 0]) (by simp [results, Tryz.results24, go_sem, r0, r1, r2, r3, r4]) rfl ?_
    rw [hRe.out]
    exact RValPost.mk (w := w) hrl (fun j q e => by cases e) ⟨by decide, _, hS1.out⟩ hFW.out
  have hnx := hid_e (next_byte r T n W hR0 hlt)
  go_wp2_with fail
  go_fit hnx.out
  rintro e1 w1 ⟨rfl, hS1, hF1⟩
  have n1 := (hF1.block _ (Array.getElem?_eq_some_iff.1 n0).1 (by omega)).trans n0
  have hF2 := hF0.trans hF1
  clear hnx hF0 hF1 hR0 n0
  have hhd : Hid (headR T (textR T) n li ob = if byteAt T n = 110 then (litR T [110, 117, 108, 108] n).map fun _ => .null else if byteAt T n = 116 then (litR T [116, 114, 117, 101] n).map fun _ => .tru else if byteAt T n = 102 then (litR T [102, 97, 108, 115, 101] n).map fun _ => .fls else if byteAt T n = 45 ∨ digit (byteAt T n) = true then (numR T n).map .int else if byteAt T n = 34 then (textR T n).map .text else if byteAt T n = 91 then li else if byteAt T n = 123 then ob else .bad 10 n) := by
    rw [Hid]; unfold headR; rw [if_pos hlt]
  rw [hhd.out] at hR
  clear hhd
  by_cases hb : byteAt T n = 110
  · have hRe : Hid (R = (litR T [110, 117, 108, 108] n).map fun _ => .null) := by rw [Hid, ← hR.out]; simp only [hb]; rfl
    have hwd := hid_e (word_code r T ⟨#[110, 117, 108, 108]⟩ n w1 hT (by decide) (hid_e hS1) hn)
    have hli2 := hid_e (fine_le (lit_fine T [110, 117, 108, 108] n (by simp) hn))
    rw [hb]
    have z0 : (((110 : UInt8).toNat : Nat) : Int) = 110 := rfl
    rw [z0]
    clear z0 hb
    go_wp2_with fail
    go_fit hwd.out
    rintro e2 w2 ⟨rfl, hS2, hF3⟩
    have n2 := (hF3.block _ (Array.getElem?_eq_some_iff.1 n1).1 (by omega)).trans n1
    have hFW := hid_e (hF2.trans hF3)
    have hVS : Hid (VSt w2 r T ((litR T [110, 117, 108, 108] n).map fun _ => J.null)) := VSt.of _ hS2 hli2.out
    clear hwd hS2 hF3 hF2 n1 hS1 hli2
    obtain ⟨v0, v1, v2, v3, v4, vf⟩ := row_cells n2
    have vf0 := vf 0; have vf1 := vf 1; have vf2 := vf 2; have vf3 := vf 3; have vf4 := vf 4
    clear vf
    go_wp2_with fail
    have hr5 := put5_cells n2 (.int .i64 0) (.int .i64 0) (.string ⟨#[]⟩) (.slice none 0 0) (.slice none 0 0)
    have r0 := hr5 0; have r1 := hr5 1; have r2 := hr5 2; have r3 := hr5 3; have r4 := hr5 4
    clear hr5
    refine bodyPost_ret (v := .agg #[.int .i64 0, .int .i64 0, .string ⟨#[]⟩, .slice none 0 0, .slice none 0 0]) (by simp [results, Tryz.results24, go_sem, r0, r1, r2, r3, r4]) rfl ?_
    rw [hRe.out]
    exact RValPost.mk (w := w) hrl (fun j q e => by cases hq : litR T [110, 117, 108, 108] n with | ok x q1 => rw [hq] at e; cases e; exact seen_flat _ _ _ _ _ | bad e1 p1 => rw [hq] at e; cases e) hVS.out hFW.out
  have h110 := hid_e hb
  clear hb
  by_cases hb : byteAt T n = 116
  · have hRe : Hid (R = (litR T [116, 114, 117, 101] n).map fun _ => .tru) := by rw [Hid, ← hR.out]; simp only [hb]; rfl
    have hwd := hid_e (word_code r T ⟨#[116, 114, 117, 101]⟩ n w1 hT (by decide) (hid_e hS1) hn)
    have hli2 := hid_e (fine_le (lit_fine T [116, 114, 117, 101] n (by simp) hn))
    rw [hb]
    have z0 : (((116 : UInt8).toNat : Nat) : Int) = 116 := rfl
    rw [z0]
    clear z0 hb
    go_wp2_with fail
    go_fit hwd.out
    rintro e2 w2 ⟨rfl, hS2, hF3⟩
    have n2 := (hF3.block _ (Array.getElem?_eq_some_iff.1 n1).1 (by omega)).trans n1
    have hFW := hid_e (hF2.trans hF3)
    have hVS : Hid (VSt w2 r T ((litR T [116, 114, 117, 101] n).map fun _ => J.tru)) := VSt.of _ hS2 hli2.out
    clear hwd hS2 hF3 hF2 n1 hS1 hli2
    obtain ⟨v0, v1, v2, v3, v4, vf⟩ := row_cells n2
    have vf0 := vf 0; have vf1 := vf 1; have vf2 := vf 2; have vf3 := vf 3; have vf4 := vf 4
    clear vf
    go_wp2_with fail
    have hr5 := put5_cells n2 (.int .i64 2) (.int .i64 0) (.string ⟨#[]⟩) (.slice none 0 0) (.slice none 0 0)
    have r0 := hr5 0; have r1 := hr5 1; have r2 := hr5 2; have r3 := hr5 3; have r4 := hr5 4
    clear hr5
    refine bodyPost_ret (v := .agg #[.int .i64 2, .int .i64 0, .string ⟨#[]⟩, .slice none 0 0, .slice none 0 0]) (by simp [results, Tryz.results24, go_sem, r0, r1, r2, r3, r4]) rfl ?_
    rw [hRe.out]
    exact RValPost.mk (w := w) hrl (fun j q e => by cases hq : litR T [116, 114, 117, 101] n with | ok x q1 => rw [hq] at e; cases e; exact seen_flat _ _ _ _ _ | bad e1 p1 => rw [hq] at e; cases e) hVS.out hFW.out
  have h116 := hid_e hb
  clear hb
  by_cases hb : byteAt T n = 102
  · have hRe : Hid (R = (litR T [102, 97, 108, 115, 101] n).map fun _ => .fls) := by rw [Hid, ← hR.out]; simp only [hb]; rfl
    have hwd := hid_e (word_code r T ⟨#[102, 97, 108, 115, 101]⟩ n w1 hT (by decide) (hid_e hS1) hn)
    have hli2 := hid_e (fine_le (lit_fine T [102, 97, 108, 115, 101] n (by simp) hn))
    rw [hb]
    have z0 : (((102 : UInt8).toNat : Nat) : Int) = 102 := rfl
    rw [z0]
    clear z0 hb
    go_wp2_with fail
    go_fit hwd.out
    rintro e2 w2 ⟨rfl, hS2, hF3⟩
    have n2 := (hF3.block _ (Array.getElem?_eq_some_iff.1 n1).1 (by omega)).trans n1
    have hFW := hid_e (hF2.trans hF3)
    have hVS : Hid (VSt w2 r T ((litR T [102, 97, 108, 115, 101] n).map fun _ => J.fls)) := VSt.of _ hS2 hli2.out
    clear hwd hS2 hF3 hF2 n1 hS1 hli2
    obtain ⟨v0, v1, v2, v3, v4, vf⟩ := row_cells n2
    have vf0 := vf 0; have vf1 := vf 1; have vf2 := vf 2; have vf3 := vf 3; have vf4 := vf 4
    clear vf
    go_wp2_with fail
    have hr5 := put5_cells n2 (.int .i64 1) (.int .i64 0) (.string ⟨#[]⟩) (.slice none 0 0) (.slice none 0 0)
    have r0 := hr5 0; have r1 := hr5 1; have r2 := hr5 2; have r3 := hr5 3; have r4 := hr5 4
    clear hr5
    refine bodyPost_ret (v := .agg #[.int .i64 1, .int .i64 0, .string ⟨#[]⟩, .slice none 0 0, .slice none 0 0]) (by simp [results, Tryz.results24, go_sem, r0, r1, r2, r3, r4]) rfl ?_
    rw [hRe.out]
    exact RValPost.mk (w := w) hrl (fun j q e => by cases hq : litR T [102, 97, 108, 115, 101] n with | ok x q1 => rw [hq] at e; cases e; exact seen_flat _ _ _ _ _ | bad e1 p1 => rw [hq] at e; cases e) hVS.out hFW.out
  have h102 := hid_e hb
  clear hb
  by_cases hb : byteAt T n = 45 ∨ digit (byteAt T n) = true
  · have hRe : Hid (R = (numR T n).map .int) := by rw [Hid, ← hR.out, if_neg h110.out, if_neg h116.out, if_neg h102.out, if_pos hb]
    have hnm := hid_e (number_code r T n w1 hT (hid_e hS1) hlt hb)
    have hli2 : Hid (∀ x q, numR T n = .ok x q → q ≤ T.size) := by
      unfold numR
      split
      · exact fine_le (num_fine T n (n + 1) (by omega) hlt)
      · exact fine_le (num_fine T n n (Nat.le_refl _) hn)
    have k110 := byte_ne h110.out
    have k116 := byte_ne h116.out
    have k102 := byte_ne h102.out
    have k45 := byte_eq (byteAt T n) 45 (by decide)
    have hdg : Hid (byteAt T n = 45 ∨ (48 ≤ ((byteAt T n).toNat : Int) ∧ ((byteAt T n).toNat : Int) ≤ 57)) := hb.imp id (fun e => by
      unfold digit at e
      simp only [Bool.and_eq_true, decide_eq_true_eq, UInt8.le_iff_toNat_le] at e
      have e1 : (48 : UInt8).toNat = 48 := rfl
      have e2 : (57 : UInt8).toNat = 57 := rfl
      omega)
    obtain ⟨z, hz⟩ : ∃ z : Int, Hid (((byteAt T n).toNat : Int) = z) := ⟨_, hid_e rfl⟩
    rw [hz.out] at k110 k116 k102 k45 hdg
    rw [hz.out]
    rw [show ((110 : UInt8).toNat : Int) = 110 from rfl] at k110
    rw [show ((116 : UInt8).toNat : Int) = 116 from rfl] at k116
    rw [show ((102 : UInt8).toNat : Int) = 102 from rfl] at k102
    rw [show ((45 : Nat) : Int) = 45 from rfl, show UInt8.ofNat 45 = 45 from rfl] at k45
    have hcs : ((z == 45) = true) ∨ ((z == 45) = false ∧ 48 ≤ z ∧ z ≤ 57) := by
      rw [k45]
      by_cases e : byteAt T n = 45
      · exact .inl (decide_eq_true e)
      · exact .inr ⟨decide_eq_false e, hdg.out.resolve_left e⟩
    clear hb k45 hdg
    rcases hcs with c1 | ⟨c1, c2, c3⟩
    all_goals
      go_wp2_with fail
      go_fit hnm.out
      rintro e2 w2 ⟨⟨z2, rfl, hzv⟩, hS2, hF3⟩
      have n2 := (hF3.block _ (Array.getElem?_eq_some_iff.1 n1).1 (by omega)).trans n1
      have hFW := hid_e (hF2.trans hF3)
      have hVS : Hid (VSt w2 r T ((numR T n).map J.int)) := VSt.of _ hS2 hli2.out
      replace hzv := hid_e hzv
      clear hnm hS2 hF3
      obtain ⟨v0, v1, v2, v3, v4, vf⟩ := row_cells n2
      have vf0 := vf 0; have vf1 := vf 1; have vf2 := vf 2; have vf3 := vf 3; have vf4 := vf 4
      clear vf
      go_wp2_with fail
      have hr5 := put5_cells n2 (.int .i64 3) (.int .i64 z2) (.string ⟨#[]⟩) (.slice none 0 0) (.slice none 0 0)
      have r0 := hr5 0; have r1 := hr5 1; have r2 := hr5 2; have r3 := hr5 3; have r4 := hr5 4
      clear hr5
      refine bodyPost_ret (v := .agg #[.int .i64 3, .int .i64 z2, .string ⟨#[]⟩, .slice none 0 0, .slice none 0 0]) (by simp [results, Tryz.results24, go_sem, r0, r1, r2, r3, r4]) rfl ?_
      rw [hRe.out]
      exact RValPost.mk (w := w) hrl (fun j q e => by cases hq : numR T n with | ok x q1 => rw [hq] at e; cases e; rw [hzv.out _ _ hq]; exact seen_flat _ _ _ _ _ | bad e1 p1 => rw [hq] at e; cases e) hVS.out hFW.out
  have h45 := hid_e hb
  clear hb
  by_cases hb : byteAt T n = 34
  · have hRe : Hid (R = (textR T n).map .text) := by rw [Hid, ← hR.out, if_neg h110.out, if_neg h116.out, if_neg h102.out, if_neg h45.out, if_pos hb]
    have htx := hid_e (text_code r T n w1 hT (hid_e hS1) hlt)
    have hli2 := hid_e (fine_le (text_fine T n hlt))
    rw [hb]
    have z0 : (((34 : UInt8).toNat : Nat) : Int) = 34 := rfl
    rw [z0]
    clear z0 hb
    go_wp2_with fail
    go_fit htx.out
    rintro e2 w2 ⟨⟨s2, rfl, hsv⟩, hS2, hF3⟩
    have n2 := (hF3.block _ (Array.getElem?_eq_some_iff.1 n1).1 (by omega)).trans n1
    have hFW := hid_e (hF2.trans hF3)
    have hVS : Hid (VSt w2 r T ((textR T n).map J.text)) := VSt.of _ hS2 hli2.out
    replace hsv := hid_e hsv
    clear htx hS2 hF3 hF2 n1 hS1 hli2
    obtain ⟨v0, v1, v2, v3, v4, vf⟩ := row_cells n2
    have vf0 := vf 0; have vf1 := vf 1; have vf2 := vf 2; have vf3 := vf 3; have vf4 := vf 4
    clear vf
    go_wp2_with fail
    have hr5 := put5_cells n2 (.int .i64 4) (.int .i64 0) (.string s2) (.slice none 0 0) (.slice none 0 0)
    have r0 := hr5 0; have r1 := hr5 1; have r2 := hr5 2; have r3 := hr5 3; have r4 := hr5 4
    clear hr5
    refine bodyPost_ret (v := .agg #[.int .i64 4, .int .i64 0, .string s2, .slice none 0 0, .slice none 0 0]) (by simp [results, Tryz.results24, go_sem, r0, r1, r2, r3, r4]) rfl ?_
    rw [hRe.out]
    exact RValPost.mk (w := w) hrl (fun j q e => by cases hq : textR T n with | ok x q1 => rw [hq] at e; cases e; rw [hsv.out _ _ hq]; exact seen_flat _ _ _ _ _ | bad e1 p1 => rw [hq] at e; cases e) hVS.out hFW.out
  have h34 := hid_e hb
  clear hb
  by_cases hb : byteAt T n = 91
  · have hRe : Hid (R = li) := by rw [Hid, ← hR.out, if_neg h110.out, if_neg h116.out, if_neg h102.out, if_neg h45.out, if_neg h34.out, if_pos hb]
    obtain ⟨hgo, hno⟩ := hli.out hlt hb
    rw [hb]
    have z0 : (((91 : UInt8).toNat : Nat) : Int) = 91 := rfl
    rw [z0]
    clear z0 hb
    by_cases hdd : d < 64
    · have hdi : (d : Int) < 64 := by omega
      have hcl := hid_e (hgo hdd w1 hS1)
      clear hgo hno
      go_wp2_with fail
      go_fit hcl.out
      rintro e2 w2 ⟨k2, x2, s2, an2, ln2, cn2, ai2, li2, ci2, rfl, hsn, hVS, hF3⟩
      have n2 := (hF3.block _ (Array.getElem?_eq_some_iff.1 n1).1 (by omega)).trans n1
      have hFW := hid_e (hF2.trans hF3)
      have hw1 := hid_e (Array.getElem?_eq_some_iff.1 n1).1
      replace hsn := hid_e hsn
      replace hVS := hid_e hVS
      clear hcl hF3 hF2 n1 hS1
      obtain ⟨v0, v1, v2, v3, v4, vf⟩ := row_cells n2
      have vf0 := vf 0; have vf1 := vf 1; have vf2 := vf 2; have vf3 := vf 3; have vf4 := vf 4
      clear vf
      go_wp2_with fail
      have hr5 := put5_cells n2 (.int .i64 k2) (.int .i64 x2) (.string s2) (.slice an2 ln2 cn2) (.slice ai2 li2 ci2)
      have r0 := hr5 0; have r1 := hr5 1; have r2 := hr5 2; have r3 := hr5 3; have r4 := hr5 4
      clear hr5
      refine bodyPost_ret (v := .agg #[.int .i64 k2, .int .i64 x2, .string s2, .slice an2 ln2 cn2, .slice ai2 li2 ci2]) (by simp [results, Tryz.results24, go_sem, r0, r1, r2, r3, r4]) rfl ?_
      rw [hRe.out]
      exact RValPost.mk (w := w) hrl (fun j q e => seen_box (hsn.out j q e) hw1.out trivial) hVS.out hFW.out
    · have hde : d = 64 := by omega
      have hRe2 := hno hde
      subst hde
      rw [hRe2] at hRe
      have hfl := hid_e (fail_code r T (n : Int) (n : Int) 17 w1 hS1)
      obtain ⟨y0, y1, y2, y3, -⟩ := hS1.cells
      clear hgo hno hRe2
      go_wp2_with fail
      go_fit hfl.out
      rintro e2 w2 ⟨rfl, hS2, hF3⟩
      have n2 := (hF3.block _ (Array.getElem?_eq_some_iff.1 n1).1 (by omega)).trans n1
      have hFW := hid_e (hF2.trans hF3)
      replace hS2 := hid_e hS2
      clear hfl hF3 hF2 n1 hS1 y0 y1 y2 y3
      obtain ⟨v0, v1, v2, v3, v4, vf⟩ := row_cells n2
      have vf0 := vf 0; have vf1 := vf 1; have vf2 := vf 2; have vf3 := vf 3; have vf4 := vf 4
      clear vf
      go_wp2_with fail
      have hr5 := put5_cells n2 (.int .i64 0) (.int .i64 0) (.string ⟨#[]⟩) (.slice none 0 0) (.slice none 0 0)
      have r0 := hr5 0; have r1 := hr5 1; have r2 := hr5 2; have r3 := hr5 3; have r4 := hr5 4
      clear hr5
      refine bodyPost_ret (v := .agg #[.int .i64 0, .int .i64 0, .string ⟨#[]⟩, .slice none 0 0, .slice none 0 0]) (by simp [results, Tryz.results24, go_sem, r0, r1, r2, r3, r4]) rfl ?_
      rw [hRe.out]
      exact RValPost.mk (w := w) hrl (fun j q e => by cases e) ⟨by decide, _, hS2.out⟩ hFW.out
  have h91 := hid_e hb
  clear hb
  by_cases hb : byteAt T n = 123
  · have hRe : Hid (R = ob) := by rw [Hid, ← hR.out, if_neg h110.out, if_neg h116.out, if_neg h102.out, if_neg h45.out, if_neg h34.out, if_neg h91.out, if_pos hb]
    obtain ⟨hgo, hno⟩ := hob.out hlt hb
    rw [hb]
    have z0 : (((123 : UInt8).toNat : Nat) : Int) = 123 := rfl
    rw [z0]
    clear z0 hb
    by_cases hdd : d < 64
    · have hdi : (d : Int) < 64 := by omega
      have hcl := hid_e (hgo hdd w1 hS1)
      clear hgo hno
      go_wp2_with fail
      go_fit hcl.out
      rintro e2 w2 ⟨k2, x2, s2, an2, ln2, cn2, ai2, li2, ci2, rfl, hsn, hVS, hF3⟩
      have n2 := (hF3.block _ (Array.getElem?_eq_some_iff.1 n1).1 (by omega)).trans n1
      have hFW := hid_e (hF2.trans hF3)
      have hw1 := hid_e (Array.getElem?_eq_some_iff.1 n1).1
      replace hsn := hid_e hsn
      replace hVS := hid_e hVS
      clear hcl hF3 hF2 n1 hS1
      obtain ⟨v0, v1, v2, v3, v4, vf⟩ := row_cells n2
      have vf0 := vf 0; have vf1 := vf 1; have vf2 := vf 2; have vf3 := vf 3; have vf4 := vf 4
      clear vf
      go_wp2_with fail
      have hr5 := put5_cells n2 (.int .i64 k2) (.int .i64 x2) (.string s2) (.slice an2 ln2 cn2) (.slice ai2 li2 ci2)
      have r0 := hr5 0; have r1 := hr5 1; have r2 := hr5 2; have r3 := hr5 3; have r4 := hr5 4
      clear hr5
      refine bodyPost_ret (v := .agg #[.int .i64 k2, .int .i64 x2, .string s2, .slice an2 ln2 cn2, .slice ai2 li2 ci2]) (by simp [results, Tryz.results24, go_sem, r0, r1, r2, r3, r4]) rfl ?_
      rw [hRe.out]
      exact RValPost.mk (w := w) hrl (fun j q e => seen_box (hsn.out j q e) hw1.out trivial) hVS.out hFW.out
    · have hde : d = 64 := by omega
      have hRe2 := hno hde
      subst hde
      rw [hRe2] at hRe
      have hfl := hid_e (fail_code r T (n : Int) (n : Int) 17 w1 hS1)
      obtain ⟨y0, y1, y2, y3, -⟩ := hS1.cells
      clear hgo hno hRe2
      go_wp2_with fail
      go_fit hfl.out
      rintro e2 w2 ⟨rfl, hS2, hF3⟩
      have n2 := (hF3.block _ (Array.getElem?_eq_some_iff.1 n1).1 (by omega)).trans n1
      have hFW := hid_e (hF2.trans hF3)
      replace hS2 := hid_e hS2
      clear hfl hF3 hF2 n1 hS1 y0 y1 y2 y3
      obtain ⟨v0, v1, v2, v3, v4, vf⟩ := row_cells n2
      have vf0 := vf 0; have vf1 := vf 1; have vf2 := vf 2; have vf3 := vf 3; have vf4 := vf 4
      clear vf
      go_wp2_with fail
      have hr5 := put5_cells n2 (.int .i64 0) (.int .i64 0) (.string ⟨#[]⟩) (.slice none 0 0) (.slice none 0 0)
      have r0 := hr5 0; have r1 := hr5 1; have r2 := hr5 2; have r3 := hr5 3; have r4 := hr5 4
      clear hr5
      refine bodyPost_ret (v := .agg #[.int .i64 0, .int .i64 0, .string ⟨#[]⟩, .slice none 0 0, .slice none 0 0]) (by simp [results, Tryz.results24, go_sem, r0, r1, r2, r3, r4]) rfl ?_
      rw [hRe.out]
      exact RValPost.mk (w := w) hrl (fun j q e => by cases e) ⟨by decide, _, hS2.out⟩ hFW.out
  have h123 := hid_e hb
  clear hb
  have hRe : Hid (R = .bad 10 n) := by rw [Hid, ← hR.out, if_neg h110.out, if_neg h116.out, if_neg h102.out, if_neg h45.out, if_neg h34.out, if_neg h91.out, if_neg h123.out]
  have k110 := byte_ne h110.out
  have k116 := byte_ne h116.out
  have k102 := byte_ne h102.out
  have k34 := byte_ne h34.out
  have k91 := byte_ne h91.out
  have k123 := byte_ne h123.out
  have k45 := byte_ne (fun e => h45.out (.inl e) : byteAt T n ≠ 45)
  have hdg : ((byteAt T n).toNat : Int) < 48 ∨ 57 < ((byteAt T n).toNat : Int) := by
    have e : ¬ (digit (byteAt T n) = true) := fun e => h45.out (.inr e)
    unfold digit at e
    simp only [Bool.and_eq_true, decide_eq_true_eq, UInt8.le_iff_toNat_le] at e
    have e1 : (48 : UInt8).toNat = 48 := rfl
    have e2 : (57 : UInt8).toNat = 57 := rfl
    omega
  obtain ⟨z, hz⟩ : ∃ z : Int, Hid (((byteAt T n).toNat : Int) = z) := ⟨_, hid_e rfl⟩
  rw [hz.out] at k110 k116 k102 k45 k34 k91 k123 hdg
  rw [hz.out]
  rw [show ((110 : UInt8).toNat : Int) = 110 from rfl] at k110
  rw [show ((116 : UInt8).toNat : Int) = 116 from rfl] at k116
  rw [show ((102 : UInt8).toNat : Int) = 102 from rfl] at k102
  rw [show ((45 : UInt8).toNat : Int) = 45 from rfl] at k45
  rw [show ((34 : UInt8).toNat : Int) = 34 from rfl] at k34
  rw [show ((91 : UInt8).toNat : Int) = 91 from rfl] at k91
  rw [show ((123 : UInt8).toNat : Int) = 123 from rfl] at k123
  have hfl := hid_e (fail_code r T (n : Int) (n : Int) 10 w1 hS1)
  obtain ⟨y0, y1, y2, y3, -⟩ := hS1.cells
  have hcs : (¬ (48 : Int) ≤ z) ∨ ((48 : Int) ≤ z ∧ ¬ z ≤ 57) := by omega
  clear hdg
  rcases hcs with c1 | ⟨c1, c2⟩
  all_goals
    go_wp2_with fail
    go_fit hfl.out
    rintro e2 w2 ⟨rfl, hS2, hF3⟩
    have n2 := (hF3.block _ (Array.getElem?_eq_some_iff.1 n1).1 (by omega)).trans n1
    have hFW := hid_e (hF2.trans hF3)
    replace hS2 := hid_e hS2
    clear hfl hF3 y0 y1 y2 y3
    obtain ⟨v0, v1, v2, v3, v4, vf⟩ := row_cells n2
    have vf0 := vf 0; have vf1 := vf 1; have vf2 := vf 2; have vf3 := vf 3; have vf4 := vf 4
    clear vf
    go_wp2_with fail
    have hr5 := put5_cells n2 (.int .i64 0) (.int .i64 0) (.string ⟨#[]⟩) (.slice none 0 0) (.slice none 0 0)
    have r0 := hr5 0; have r1 := hr5 1; have r2 := hr5 2; have r3 := hr5 3; have r4 := hr5 4
    clear hr5
    refine bodyPost_ret (v := .agg #[.int .i64 0, .int .i64 0, .string ⟨#[]⟩, .slice none 0 0, .slice none 0 0]) (by simp [results, Tryz.results24, go_sem, r0, r1, r2, r3, r4]) rfl ?_
    rw [hRe.out]
    exact RValPost.mk (w := w) hrl (fun j q e => by cases e) ⟨by decide, _, hS2.out⟩ hFW.out
end Go.Proofs.YtnccaidlcaeeaaaGreatDoor.Tree
/-! The document's reader of texts: lists. -/
namespace Go.Proofs.YtnccaidlcaeeaaaGreatDoor.Tree
open Go Go.RowKit

theorem skipTo_at {T : ByteArray} : (f n : Nat) → T.size - n ≤ f → n ≤ T.size → ∀ g, skipTo T g (skipTo T f n) = skipTo T f n
  | 0, n, h, hn, g => by
    have e : skipTo T 0 n = n := rfl
    rw [e]
    cases g with
    | zero => rfl
    | succ g => rw [skipTo, if_neg (fun hc => by omega)]
  | f + 1, n, h, hn, g => by
    by_cases hc : n < T.size ∧ blank (byteAt T n) = true
    · have e : skipTo T (f + 1) n = skipTo T f (n + 1) := by rw [skipTo, if_pos hc]
      rw [e]
      exact skipTo_at f (n + 1) (by omega) hc.1 g
    · have e : skipTo T (f + 1) n = n := by rw [skipTo, if_neg hc]
      rw [e]
      cases g with
      | zero => rfl
      | succ g => rw [skipTo, if_neg hc]
theorem skip_idem (T : ByteArray) (n : Nat) (hn : n ≤ T.size) : skip T (skip T n) = skip T n := by
  unfold skip
  exact skipTo_at _ n (by omega) hn _
theorem ofL_snoc : (l : List J) → (u : J) → ofL (l ++ [u]) = ofL l ++ [ofJ u]
  | [], u => by simp [ofL]
  | j :: js, u => by rw [List.cons_append, ofL, ofL, ofL_snoc js u, List.cons_append]
/-- Values are read as they should. -/
def ValOkJ (val : Nat → Res J) (r : Nat) (T : ByteArray) (d : Int) : Prop := ∀ (q : Nat) W, RT W r T (q : Int) 0 0 → q ≤ T.size → Calls Tryz.prog 24 #[.pointer (some ⟨r, 0, none⟩), .int .i64 d] W (RValPost W r T (val q))
theorem qm_endJ {w wr : World} {r : Nat} {ns : List ByteArray} {its : List J} {u : J} {xs : List Value} {an : Option Addr} {cn : Nat} {gi m cI : Nat} {k : Int} (h : QM w r k (.slice an ns.length cn) (.slice (some ⟨gi, 0, none⟩) (m + 1) cI) (.slice an ns.length cn) (.slice (some ⟨gi, 0, none⟩) (m + 1) cI) ns.length (strs ns) (m + 1) xs (ofL its ++ [ofJ u]) xs wr) (hm : its.length = m) (c0 c1 c2 c3 c4 : Value) :
    Seen (put5 wr w.heap.size c0 c1 c2 c3 c4) (fun j => w.heap.size ≤ j) (.node k 0 ⟨#[]⟩ ns (ofL (its ++ [u]))) (five k 0 ⟨#[]⟩ (.slice an ns.length cn) (.slice (some ⟨gi, 0, none⟩) (m + 1) cI)) := by
  rw [ofL_snoc]
  have e : (ofL its ++ [ofJ u]).length = m + 1 := by rw [List.length_append, ofL_len, hm]; rfl
  rw [← e] at h ⊢
  exact qm_end h c0 c1 c2 c3 c4
set_option maxHeartbeats 8000000 in
set_option maxRecDepth 100000 in
theorem list_code (r : Nat) (T : ByteArray) (n d : Nat) (val : Nat → Res J) (w : World) (hT : T.size ≤ 65536) (h : Hid (RT w r T (n : Int) 0 0)) (hn : n < T.size) (hd : d ≤ 63) (hval : Hid (ValOkJ val r T ((d : Int) + 1))) (hfine : Hid (∀ q, q ≤ T.size → Fine T q (val q))) :
    Calls Tryz.prog 38 #[.pointer (some ⟨r, 0, none⟩), .int .i64 (d : Int)] w (RValPost w r T ((betweenR (itemR val) 93 T [] n).map .list)) := by
  have hrl := h.out.lt
  obtain ⟨R, hR⟩ : ∃ R, Hid ((betweenR (itemR val) 93 T [] n).map J.list = R) := ⟨_, hid_e rfl⟩
  rw [hR.out]
  obtain ⟨i0, hi, hz0, hz1, hz2⟩ := info_parts AV
  have hX0 : FrP (· = r) w ((w.alloc (.cells #[.int .i64 0, .int .i64 0, .string ⟨#[]⟩, .slice none 0 0, .slice none 0 0] 25)).alloc (.cells #[.int .i64 5, .int .i64 0, .string ⟨#[]⟩, .slice none 0 0, .slice none 0 0] 25)) := ((FrP.refl _ w).alloc _).alloc _
  have x1 := new1 w (.cells #[.int .i64 0, .int .i64 0, .string ⟨#[]⟩, .slice none 0 0, .slice none 0 0] 25) (.cells #[.int .i64 5, .int .i64 0, .string ⟨#[]⟩, .slice none 0 0, .slice none 0 0] 25)
  have x2 := new2 w (.cells #[.int .i64 0, .int .i64 0, .string ⟨#[]⟩, .slice none 0 0, .slice none 0 0] 25) (.cells #[.int .i64 5, .int .i64 0, .string ⟨#[]⟩, .slice none 0 0, .slice none 0 0] 25)
  have hR0 := RT.keep (S := fun _ => False) h.out (((FrP.refl _ w).alloc (.cells #[.int .i64 0, .int .i64 0, .string ⟨#[]⟩, .slice none 0 0, .slice none 0 0] 25)).alloc (.cells #[.int .i64 5, .int .i64 0, .string ⟨#[]⟩, .slice none 0 0, .slice none 0 0] 25)) (fun e => e)
  go_enter Tryz.func38, Tryz.ntmps38
  go_upto_region 2 with fail
  generalize ((w.alloc (.cells #[.int .i64 0, .int .i64 0, .string ⟨#[]⟩, .slice none 0 0, .slice none 0 0] 25)).alloc (.cells #[.int .i64 5, .int .i64 0, .string ⟨#[]⟩, .slice none 0 0, .slice none 0 0] 25)) = X1 at hX0 x1 x2 hR0 ⊢
  have hM0 : Hid (QM w r 5 (.slice none 0 0) (.slice none 0 0) (.slice none 0 0) (.slice none 0 0) 0 (strs []) 0 [] [] [] X1) := ⟨hrl, hX0, x1, x2, World.ownsRow_nil _ _ _ _, World.ownsRow_nil _ _ _ _, (fun j e => by cases e), (fun W' _ => by unfold ItemsRep; rfl)⟩
  clear hX0 x1 x2 h
  have hem := hid_e (empty_code r T 93 n X1 hT (hid_e hR0) hn)
  rw [show ((93 : UInt8).toNat : Int) = 93 from rfl] at hem
  have hs9 := skip_bd T (n + 1) hn
  obtain ⟨s, hs⟩ : ∃ s, Hid (skip T (n + 1) = s) := ⟨_, hid_e rfl⟩
  rw [hs.out] at hs9
  obtain ⟨hs1, hs2⟩ := hs9
  go_wp2_with fail
  go_fit hem.out
  clear hem
  rintro e1 w1 ⟨rfl, hS1, hF1⟩
  have hM1 := hid_e (hM0.out.next hF1)
  clear hM0 hF1 hR0
  by_cases hlt : s < T.size
  rotate_left
  · have hB : emptyB T 93 n = true := by unfold emptyB; rw [hs.out, decide_eq_false hlt]; rfl
    have hE : emptyR T 93 n = .bad 3 T.size := by unfold emptyR; rw [hs.out, if_neg hlt]
    have hRe : Hid (R = .bad 3 T.size) := by rw [Hid, ← hR.out]; unfold betweenR; rw [hs.out, if_neg hlt]; rfl
    rw [hB]
    rw [hE] at hS1
    replace hS1 := hid_e hS1
    clear hB hE
    obtain ⟨z0, z1, z2, z3, z4, -⟩ := row_cells hM1.out.box
    obtain ⟨v0, v1, v2, v3, v4, vf⟩ := row_cells hM1.out.res
    have vf0 := vf 0; have vf1 := vf 1; have vf2 := vf 2; have vf3 := vf 3; have vf4 := vf 4
    clear vf
    go_wp2_with fail
    have hr5 := put5_cells hM1.out.res (.int .i64 5) (.int .i64 0) (.string ⟨#[]⟩) (.slice none 0 0) (.slice none 0 0)
    have r0 := hr5 0; have r1 := hr5 1; have r2 := hr5 2; have r3 := hr5 3; have r4 := hr5 4
    clear hr5
    refine bodyPost_ret (v := .agg #[.int .i64 5, .int .i64 0, .string ⟨#[]⟩, .slice none 0 0, .slice none 0 0]) (by simp [results, Tryz.results38, go_sem, r0, r1, r2, r3, r4]) rfl ?_
    rw [hRe.out]
    exact RValPost.mk (w := w) hrl (fun j q e => by cases e) hS1.out hM1.out.fr
  by_cases hb : byteAt T s = 93
  · have hB : emptyB T 93 n = true := by unfold emptyB; rw [hs.out, hb]; simp
    have hE : emptyR T 93 n = .ok () (s + 1) := by unfold emptyR; rw [hs.out, if_pos hlt, if_pos hb]
    have hRe : Hid (R = .ok (.list []) (s + 1)) := by rw [Hid, ← hR.out]; unfold betweenR; rw [hs.out, if_pos hlt, if_pos hb]; rfl
    rw [hB]
    rw [hE] at hS1
    replace hS1 : Hid (RT w1 r T ((s + 1 : Nat) : Int) 0 0) := hS1
    have hEn := fun c0 c1 c2 c3 c4 => hid_e (qm_end (ns := []) (its := []) hM1.out c0 c1 c2 c3 c4)
    clear hB hE hb
    obtain ⟨z0, z1, z2, z3, z4, -⟩ := row_cells hM1.out.box
    obtain ⟨v0, v1, v2, v3, v4, vf⟩ := row_cells hM1.out.res
    have vf0 := vf 0; have vf1 := vf 1; have vf2 := vf 2; have vf3 := vf 3; have vf4 := vf 4
    clear vf
    go_wp2_with fail
    have hr5 := put5_cells hM1.out.res (.int .i64 5) (.int .i64 0) (.string ⟨#[]⟩) (.slice none 0 0) (.slice none 0 0)
    have r0 := hr5 0; have r1 := hr5 1; have r2 := hr5 2; have r3 := hr5 3; have r4 := hr5 4
    clear hr5
    refine bodyPost_ret (v := .agg #[.int .i64 5, .int .i64 0, .string ⟨#[]⟩, .slice none 0 0, .slice none 0 0]) (by simp [results, Tryz.results38, go_sem, r0, r1, r2, r3, r4]) rfl ?_
    rw [hRe.out]
    exact RValPost.mk (w := w) hrl (fun j q e => by cases e; exact (hEn _ _ _ _ _).out) ⟨s + 1, Nat.le_refl _, hlt, rfl, hS1.out⟩ hM1.out.fr
  have hB : emptyB T 93 n = false := by unfold emptyB; rw [hs.out, decide_eq_true hlt]; simpa using hb
  have hE : emptyR T 93 n = .ok () s := by unfold emptyR; rw [hs.out, if_pos hlt, if_neg hb]
  rw [hB]
  rw [hE] at hS1
  replace hS1 : Hid (RT w1 r T (s : Int) 0 0) := hS1
  clear hB hE
  have hd1 : (d : Int) ≤ 100 := by omega
  have hwd : IntKind.i64.wrap ((d : Int) + 1) = (d : Int) + 1 := by have := Lib.wrap_i64_small (d + 1) (by omega); rw [show (((d + 1 : Nat) : Int)) = (d : Int) + 1 by omega] at this; exact this
  have hK0 : Hid ((loopR (itemR val) 93 T (T.size - s + 1) [] s).map J.list = R) := by rw [Hid, ← hR.out]; unfold betweenR; rw [hs.out, if_pos hlt, if_neg hb]
  clear hb hR
  go_wp2_with fail
  go_loopg [] (T.size - s + 1) (fun gk wr => ∃ (q : Nat) (its : List J) (m : Nat) (xI : List Value) (ao : Option Addr) (ci : Nat), q ≤ T.size ∧ T.size - q < gk ∧ Hid (its.length = m) ∧ m ≤ q ∧ Hid (RT wr r T (q : Int) 0 0) ∧ Hid (QM w r 5 (.slice none 0 0) (.slice ao m ci) (.slice none 0 0) (.slice ao m ci) 0 (strs []) m xI (ofL its) xI wr) ∧ Hid ((loopR (itemR val) 93 T gk its q).map J.list = R))
  case atStart => exact ⟨s, [], 0, [], none, 0, hs2, by omega, hid_e rfl, Nat.zero_le _, hS1, hM1, hK0⟩
  case round =>
    clear hM1 hS1 hK0
    obtain ⟨q, its, m, xI, ao, ci, hq, hgk, him, hmq, hA, hM, hK⟩ := hrel
    obtain ⟨g', rfl⟩ : ∃ g', gk = g' + 1 := ⟨gk - 1, by omega⟩
    have hKv : Hid ((match val q with | .bad e p => (.bad e p : Res J) | .ok u q3 => (if skip T q3 < T.size then if byteAt T (skip T q3) = 93 then (.ok (its ++ [u]) (skip T q3 + 1) : Res (List J)) else if byteAt T (skip T q3) = 44 then loopR (itemR val) 93 T g' (its ++ [u]) (skip T (skip T q3 + 1)) else .bad 10 (skip T q3) else .bad 3 T.size).map J.list) = R) := by
      rw [Hid, ← hK.out, loopR]
      unfold itemR
      cases val q <;> rfl
    clear hK
    go_upto_region 4 with fail
    replace hM := hid_e hM.out.drew
    have hbx := hM.out.box
    have hRX := hid_e (RT.keep (S := fun _ => False) hA.out ((FrP.refl _ wr).drew) (fun e => e))
    have hcall := hid_e (hval.out q wr.drew hRX.out hq)
    generalize hX : wr.drew = X at hM hbx hRX hcall
    refine wp_region_noPanic ?_
    refine Until.wp_region_U (fun _ => True) (fun W => W.heap[w.heap.size + 1]? = some (.cells #[.int .i64 5, .int .i64 0, .string ⟨#[]⟩, .slice none 0 0, .slice ao m ci] 25 (0, 0))) 9 (by kernel_rfl) ?_
    rw [hX]
    clear hX
    refine Until.wpU_pure (i := 0) (oi := { dst := some 10, op := Op.fieldAddr 25 (Operand.tmp 5) 4, type := 0, pos := "ref.go:422", after := #[], guard := none }) (v := .pointer (some ⟨w.heap.size + 1, 4, none⟩)) rfl (by kernel_rfl) (by kernel_rfl) (by kernel_rfl) (by kernel_rfl) (by kernel_rfl) (fun _ _ _ h => h) (trivial) (fun _ => hbx) (by rfl) (by intro w'; go_simp) ?_
    try simp only [Act.put, List.setIfInBounds_toArray, List.set_cons_zero, List.set_cons_succ]
    refine Until.wpU_load1 (i := 1) (oi := { dst := some 11, op := Op.load 23 (Operand.tmp 10), type := 23, pos := "ref.go:422", after := #[{ on := 0, ground := Ground.data }], guard := none }) (v := .slice ao m ci) rfl (by kernel_rfl) (by kernel_rfl) (by kernel_rfl) (by kernel_rfl) (by kernel_rfl) (by kernel_rfl) (fun _ _ _ h => h) (trivial) (hbx) (by rfl) (by intro w' hw'; obtain ⟨t0, t1, t2, t3, t4, -⟩ := row_cells hw'; go_simp) ?_
    try simp only [Act.put, List.setIfInBounds_toArray, List.set_cons_zero, List.set_cons_succ]
    refine Until.wpU_pure (i := 2) (oi := { dst := some 12, op := Op.move (Operand.tmp 0), type := 46, pos := "ref.go:422", after := #[], guard := none }) (v := .pointer (some ⟨r, 0, none⟩)) rfl (by kernel_rfl) (by kernel_rfl) (by kernel_rfl) (by kernel_rfl) (by kernel_rfl) (fun _ _ _ h => h) (trivial) (fun _ => hbx) (by rfl) (by intro w'; go_simp) ?_
    try simp only [Act.put, List.setIfInBounds_toArray, List.set_cons_zero, List.set_cons_succ]
    refine Until.wpU_pure (i := 3) (oi := { dst := some 13, op := Op.move (Operand.tmp 1), type := 3, pos := "ref.go:422", after := #[], guard := none }) (v := .int .i64 (d : Int)) rfl (by kernel_rfl) (by kernel_rfl) (by kernel_rfl) (by kernel_rfl) (by kernel_rfl) (fun _ _ _ h => h) (trivial) (fun _ => hbx) (by rfl) (by intro w'; go_simp) ?_
    try simp only [Act.put, List.setIfInBounds_toArray, List.set_cons_zero, List.set_cons_succ]
    refine Until.wpU_pure (i := 4) (oi := { dst := some 14, op := Op.binOp BinOp.add 3 (Operand.tmp 13) (Operand.const (Value.int IntKind.i64 1)) 3, type := 3, pos := "ref.go:422", after := #[{ on := 3, ground := Ground.data }], guard := none }) (v := .int .i64 ((d : Int) + 1)) rfl (by kernel_rfl) (by kernel_rfl) (by kernel_rfl) (by kernel_rfl) (by kernel_rfl) (fun _ _ _ h => h) (trivial) (fun _ => hbx) (by rfl) (by intro w'; go_simp) ?_
    try simp only [Act.put, List.setIfInBounds_toArray, List.set_cons_zero, List.set_cons_succ]
    refine Until.wpU_ready (rs := [5]) (by kernel_rfl) (by simp) ?_
    refine (Until.AllU.cons (o := { dst := some 15, op := Op.call { callee := Callee.value (Operand.func 24), args := #[Operand.tmp 12, Operand.tmp 14], argTypes := #[46, 3] }, type := 25, pos := "ref.go:422", after := #[{ on := 2, ground := Ground.data }, { on := 4, ground := Ground.data }], guard := none }) rfl (fun K hK => ?_) Until.AllU.nil)
    go_simp
    refine hcall.out.mono ?_
    rintro e3 w3 ⟨k2, x2, s2, an2, ln2, cn2, ai2, li2, ci2, rfl, hsn, hS3, hF3⟩
    have hM3 := hid_e (hM.out.next hF3)
    have hM3r : Hid (∀ u q1, val q = .ok u q1 → QM w r 5 (.slice none 0 0) (.slice ao m ci) (.slice none 0 0) (.slice ao m ci) 0 (strs []) m xI (ofL its ++ [ofJ u]) (xI ++ five k2 x2 s2 (.slice an2 ln2 cn2) (.slice ai2 li2 ci2)) w3) := fun u q1 e => hM.out.read hF3 (hsn u q1 e) rfl
    clear hsn
    have b3 := hM3.out.box
    refine hK.out _ _ trivial (fun _ => b3) ?_
    clear hK K hcall hbx hRX
    try simp only [Act.put, List.setIfInBounds_toArray, List.set_cons_zero, List.set_cons_succ]
    refine Until.wpU_ready (rs := [6]) (by kernel_rfl) (by simp) ?_
    refine (Until.AllU.cons (o := { dst := some 16, op := Op.buildSlice 23 1 #[(0, Operand.tmp 15)], type := 23, pos := "ref.go:422", after := #[{ on := 5, ground := Ground.data }], guard := none }) rfl (fun K hK => ?_) Until.AllU.nil)
    go_simp
    have hM4 := hid_e (hM3.out.alloc (.cells #[.int .i64 k2, .int .i64 x2, .string s2, .slice an2 ln2 cn2, .slice ai2 li2 ci2] 25))
    have hM4r : Hid (∀ u q1, val q = .ok u q1 → QM w r 5 (.slice none 0 0) (.slice ao m ci) (.slice none 0 0) (.slice ao m ci) 0 (strs []) m xI (ofL its ++ [ofJ u]) (xI ++ five k2 x2 s2 (.slice an2 ln2 cn2) (.slice ai2 li2 ci2)) (w3.alloc (.cells #[.int .i64 k2, .int .i64 x2, .string s2, .slice an2 ln2 cn2, .slice ai2 li2 ci2] 25))) := fun u q1 e => (hM3r.out u q1 e).alloc _
    have nb := heap_alloc_new w3 (.cells #[.int .i64 k2, .int .i64 x2, .string s2, .slice an2 ln2 cn2, .slice ai2 li2 ci2] 25)
    have hS4 : Hid (VSt (w3.alloc (.cells #[.int .i64 k2, .int .i64 x2, .string s2, .slice an2 ln2 cn2, .slice ai2 li2 ci2] 25)) r T (val q)) := hS3.keep ((FrP.refl _ w3).alloc _)
    have b4 := hM4.out.box
    refine hK.out _ _ trivial (fun _ => b4) ?_
    clear hK K
    try simp only [Act.put, List.setIfInBounds_toArray, List.set_cons_zero, List.set_cons_succ]
    generalize w3.alloc (.cells #[.int .i64 k2, .int .i64 x2, .string s2, .slice an2 ln2 cn2, .slice ai2 li2 ci2] 25) = Y4 at hM4 hM4r nb b4 hS4 ⊢
    replace nb := hid_e nb
    refine Until.wpU_ready (rs := [7]) (by kernel_rfl) (by simp) ?_
    refine (Until.AllU.cons (o := { dst := some 17, op := Op.call { callee := Callee.builtin Builtin.append, args := #[Operand.tmp 11, Operand.tmp 16], argTypes := #[23, 23] }, type := 23, pos := "ref.go:422", after := #[{ on := 1, ground := Ground.data }, { on := 6, ground := Ground.data }, { on := 5, ground := Ground.chain }], guard := none }) rfl (fun K hK => ?_) Until.AllU.nil)
    refine step_append_lies _ (by rfl) _ _ 23 (by rfl) (w.heap.size + 2) 25 i0 _ 5 80 Tryz.underlying23 hi hz0 hz1 hz2 (by rfl) (by omega) _ m xI (by rfl) hM4.out.items _ 1 1 [.int .i64 k2, .int .i64 x2, .string s2, .slice an2 ln2 cn2, .slice ai2 li2 ci2] (by rfl) (by rfl) (World.news_of_block nb.out) (five_one _ _ _ _ _ _ _ _ _) (by omega) (by unfold maxLen; omega) (by omega) hM4.out.size _ rfl ?_
    intro gi cI Y5 how hgr hat hlt
    have hM5 := hid_e (hM4.out.growI hgr hat how)
    have hM5r : Hid (∀ u q1, val q = .ok u q1 → QM w r 5 (.slice none 0 0) (.slice ao m ci) (.slice none 0 0) (.slice (some ⟨gi, 0, none⟩) (m + 1) cI) 0 (strs []) (m + 1) (xI ++ five k2 x2 s2 (.slice an2 ln2 cn2) (.slice ai2 li2 ci2)) (ofL its ++ [ofJ u]) (xI ++ five k2 x2 s2 (.slice an2 ln2 cn2) (.slice ai2 li2 ci2)) Y5) := fun u q1 e => (hM4r.out u q1 e).growI hgr hat how
    have hne : ∀ g, (Value.slice ao m ci).ownBlock = some g → w.heap.size ≤ g := fun g e => by have := (ownsRow_ge hM4.out.items e).1; omega
    have hFr5 : FrP (fun j => w.heap.size ≤ j) Y4 Y5 := (FrP.refl _ Y4).grown hgr (fun g hg => .inl (hne g hg))
    have hS5 : Hid (VSt Y5 r T (val q)) := hS4.out.keepF hFr5 (by omega)
    have b5 := hM5.out.box
    clear how hgr hat hlt hne hFr5
    refine hK.out _ _ trivial (fun _ => b5) ?_
    clear hK K
    try simp only [Act.put, List.setIfInBounds_toArray, List.set_cons_zero, List.set_cons_succ]
    refine Until.wpU_pure (i := 8) (oi := { dst := some 18, op := Op.fieldAddr 25 (Operand.tmp 5) 4, type := 0, pos := "ref.go:422", after := #[{ on := 0, ground := Ground.phase }, { on := 1, ground := Ground.phase }, { on := 2, ground := Ground.phase }, { on := 3, ground := Ground.phase }, { on := 4, ground := Ground.phase }, { on := 5, ground := Ground.phase }, { on := 6, ground := Ground.phase }, { on := 7, ground := Ground.phase }], guard := none }) (v := .pointer (some ⟨w.heap.size + 1, 4, none⟩)) rfl (by kernel_rfl) (by kernel_rfl) (by kernel_rfl) (by kernel_rfl) (by kernel_rfl) (fun _ _ _ h => h) (trivial) (fun _ => b5) (by rfl) (by intro w'; go_simp) ?_
    try simp only [Act.put, List.setIfInBounds_toArray, List.set_cons_zero, List.set_cons_succ]
    obtain ⟨-, -, -, -, z4, zf⟩ := row_cells b5
    have zf4 := zf 4
    clear zf
    refine Until.wpU_ready (rs := [9]) (by kernel_rfl) (by simp) ?_
    refine (Until.AllU.cons (o := { dst := none, op := Op.store 23 (Operand.tmp 18) (Operand.tmp 17), type := 0, pos := "ref.go:422", after := #[{ on := 8, ground := Ground.data }, { on := 7, ground := Ground.data }, { on := 7, ground := Ground.chain }, { on := 0, ground := Ground.phase }, { on := 1, ground := Ground.phase }, { on := 2, ground := Ground.phase }, { on := 3, ground := Ground.phase }, { on := 4, ground := Ground.phase }, { on := 5, ground := Ground.phase }, { on := 6, ground := Ground.phase }, { on := 7, ground := Ground.phase }], guard := none }) rfl (fun K hK => ?_) Until.AllU.nil)
    go_simp
    have hM6 := hid_e (hM5.out.setI (.slice (some ⟨gi, 0, none⟩) (m + 1) cI)).blind
    have hFr6 : FrP (fun j => w.heap.size ≤ j) Y5 (Y5.setCell ⟨w.heap.size + 1, 4, none⟩ (.slice (some ⟨gi, 0, none⟩) (m + 1) cI)) := (FrP.refl _ Y5).set _ _ (.inl (by show w.heap.size ≤ w.heap.size + 1; omega))
    have hM6r : Hid (∀ u q1, val q = .ok u q1 → QM w r 5 (.slice none 0 0) (.slice (some ⟨gi, 0, none⟩) (m + 1) cI) (.slice none 0 0) (.slice (some ⟨gi, 0, none⟩) (m + 1) cI) 0 (strs []) (m + 1) (xI ++ five k2 x2 s2 (.slice an2 ln2 cn2) (.slice ai2 li2 ci2)) (ofL its ++ [ofJ u]) (xI ++ five k2 x2 s2 (.slice an2 ln2 cn2) (.slice ai2 li2 ci2)) (Y5.setCell ⟨w.heap.size + 1, 4, none⟩ (.slice (some ⟨gi, 0, none⟩) (m + 1) cI))) := fun u q1 e => (hM5r.out u q1 e).setI _
    have hS6 : Hid (VSt (Y5.setCell ⟨w.heap.size + 1, 4, none⟩ (.slice (some ⟨gi, 0, none⟩) (m + 1) cI)) r T (val q)) := hS5.out.keepF hFr6 (by omega)
    refine hK.out _ _ trivial (fun h => absurd h (by decide)) ?_
    clear hK K z4 zf4 b3 b4 b5 hFr6
    try simp only [Act.put, List.setIfInBounds_toArray, List.set_cons_zero, List.set_cons_succ]
    refine Until.wpU_done (by kernel_rfl) ?_ _
    refine NoPanic.normal ?_
    generalize Y5.setCell ⟨w.heap.size + 1, 4, none⟩ (.slice (some ⟨gi, 0, none⟩) (m + 1) cI) = Y6 at hM6 hM6r hS6 ⊢
    clear hM3 hM4 hM5 hM3r hM4r hM5r hS3 hS4 hS5 hF3
    cases hV : val q with
    | bad e p =>
      rw [hV] at hS6
      obtain ⟨he, zd, hRd⟩ := hS6.out
      have hRe : Hid (R = .bad e p) := by rw [Hid, ← hKv.out, hV] <;> rfl
      have hco := hid_e (comma_dead r T 93 zd (p : Int) (e : Int) Y6 hRd (by omega))
      rw [show ((93 : UInt8).toNat : Int) = 93 from rfl] at hco
      clear hM6r hKv hS6
      go_wp2_with fail
      go_fit hco.out
      clear hco
      rintro e5 w5 ⟨rfl, hS7, hF7⟩
      have hM7 := hid_e (hM6.out.next hF7)
      have hVS : Hid (VSt w5 r T (.bad e p : Res J)) := ⟨he, _, hS7⟩
      clear hS7 hF7 hM6 hRd
      obtain ⟨z0, z1, z2, z3, z4, -⟩ := row_cells hM7.out.box
      obtain ⟨v0, v1, v2, v3, v4, vf⟩ := row_cells hM7.out.res
      have vf0 := vf 0; have vf1 := vf 1; have vf2 := vf 2; have vf3 := vf 3; have vf4 := vf 4
      clear vf
      go_wp2_with fail
      have hr5 := put5_cells hM7.out.res (.int .i64 5) (.int .i64 0) (.string ⟨#[]⟩) (.slice none 0 0) (.slice (some ⟨gi, 0, none⟩) (m + 1) cI)
      have r0 := hr5 0; have r1 := hr5 1; have r2 := hr5 2; have r3 := hr5 3; have r4 := hr5 4
      clear hr5
      refine bodyPost_ret (v := .agg #[.int .i64 5, .int .i64 0, .string ⟨#[]⟩, .slice none 0 0, .slice (some ⟨gi, 0, none⟩) (m + 1) cI]) (by simp [results, Tryz.results38, go_sem, r0, r1, r2, r3, r4]) rfl ?_
      rw [hRe.out]
      exact RValPost.mk (w := w) hrl (fun j q e => by cases e) hVS.out hM7.out.fr
    | ok u q3 =>
      rw [hV] at hS6
      obtain ⟨m3, hm1, hm2, hm3, hR6⟩ := hS6.out
      have hfu := hid_e (hfine.out q hq)
      rw [hV] at hfu
      have hq31 := hfu.out.1
      have hq32 := hfu.out.2
      have hM7 := hid_e (hM6r.out u q3 hV)
      have hKw : Hid ((if skip T q3 < T.size then if byteAt T (skip T q3) = 93 then (.ok (its ++ [u]) (skip T q3 + 1) : Res (List J)) else if byteAt T (skip T q3) = 44 then loopR (itemR val) 93 T g' (its ++ [u]) (skip T (skip T q3 + 1)) else .bad 10 (skip T q3) else .bad 3 T.size).map J.list = R) := by rw [Hid, ← hKv.out, hV] <;> rfl
      have hco := hid_e (comma_code r T 93 m3 Y6 hT (hid_e hR6) hm2)
      rw [show ((93 : UInt8).toNat : Int) = 93 from rfl] at hco
      have hs5 := skip_bd T q3 hq32
      obtain ⟨s3, hs3⟩ : ∃ s, Hid (skip T q3 = s) := ⟨_, hid_e rfl⟩
      rw [hs3.out] at hs5 hKw hm3
      obtain ⟨hs51, hs52⟩ := hs5
      replace hm3 := hid_e hm3
      clear hM6r hKv hS6 hfu hV hM6 hR6
      go_wp2_with fail
      go_fit hco.out
      clear hco
      rintro e5 w5 ⟨rfl, hS7, hF7⟩
      have hM8 := hid_e (hM7.out.next hF7)
      clear hM7 hF7
      by_cases hlt3 : s3 < T.size
      rotate_left
      · have hB : commaB T m3 = false := by unfold commaB; rw [hm3.out, decide_eq_false hlt3]; rfl
        have hE : commaR T 93 m3 = .bad 3 T.size := by unfold commaR; rw [hm3.out, if_neg hlt3]
        have hRe : Hid (R = .bad 3 T.size) := by rw [Hid, ← hKw.out, if_neg hlt3]; rfl
        rw [hB]
        rw [hE] at hS7
        replace hS7 := hid_e hS7
        clear hB hE
        obtain ⟨z0, z1, z2, z3, z4, -⟩ := row_cells hM8.out.box
        obtain ⟨v0, v1, v2, v3, v4, vf⟩ := row_cells hM8.out.res
        have vf0 := vf 0; have vf1 := vf 1; have vf2 := vf 2; have vf3 := vf 3; have vf4 := vf 4
        clear vf
        go_wp2_with fail
        have hr5 := put5_cells hM8.out.res (.int .i64 5) (.int .i64 0) (.string ⟨#[]⟩) (.slice none 0 0) (.slice (some ⟨gi, 0, none⟩) (m + 1) cI)
        have r0 := hr5 0; have r1 := hr5 1; have r2 := hr5 2; have r3 := hr5 3; have r4 := hr5 4
        clear hr5
        refine bodyPost_ret (v := .agg #[.int .i64 5, .int .i64 0, .string ⟨#[]⟩, .slice none 0 0, .slice (some ⟨gi, 0, none⟩) (m + 1) cI]) (by simp [results, Tryz.results38, go_sem, r0, r1, r2, r3, r4]) rfl ?_
        rw [hRe.out]
        exact RValPost.mk (w := w) hrl (fun j q e => by cases e) hS7.out hM8.out.fr
      by_cases hb1 : byteAt T s3 = 93
      · have hB : commaB T m3 = false := by unfold commaB; rw [hm3.out, hb1, decide_eq_true hlt3]; rfl
        have hE : commaR T 93 m3 = .ok () (skip T (s3 + 1)) := by unfold commaR; rw [hm3.out, if_pos hlt3, if_pos (.inr hb1)]
        have hRe : Hid (R = .ok (.list (its ++ [u])) (s3 + 1)) := by rw [Hid, ← hKw.out, if_pos hlt3, if_pos hb1]; rfl
        have hsk := skip_bd T (s3 + 1) hlt3
        have hVS : Hid (VSt w5 r T (.ok (.list (its ++ [u])) (s3 + 1) : Res J)) := ⟨skip T (s3 + 1), hsk.1, hsk.2, skip_idem T (s3 + 1) hlt3, by rw [hE] at hS7; exact hS7⟩
        have hEn := fun c0 c1 c2 c3 c4 => hid_e (qm_endJ hM8.out (ns := []) him.out c0 c1 c2 c3 c4)
        rw [hB]
        clear hB hE hS7 hsk hb1
        obtain ⟨z0, z1, z2, z3, z4, -⟩ := row_cells hM8.out.box
        obtain ⟨v0, v1, v2, v3, v4, vf⟩ := row_cells hM8.out.res
        have vf0 := vf 0; have vf1 := vf 1; have vf2 := vf 2; have vf3 := vf 3; have vf4 := vf 4
        clear vf
        go_wp2_with fail
        have hr5 := put5_cells hM8.out.res (.int .i64 5) (.int .i64 0) (.string ⟨#[]⟩) (.slice none 0 0) (.slice (some ⟨gi, 0, none⟩) (m + 1) cI)
        have r0 := hr5 0; have r1 := hr5 1; have r2 := hr5 2; have r3 := hr5 3; have r4 := hr5 4
        clear hr5
        refine bodyPost_ret (v := .agg #[.int .i64 5, .int .i64 0, .string ⟨#[]⟩, .slice none 0 0, .slice (some ⟨gi, 0, none⟩) (m + 1) cI]) (by simp [results, Tryz.results38, go_sem, r0, r1, r2, r3, r4]) rfl ?_
        rw [hRe.out]
        exact RValPost.mk (w := w) hrl (fun j q e => by cases e; exact (hEn _ _ _ _ _).out) hVS.out hM8.out.fr
      by_cases hb2 : byteAt T s3 = 44
      rotate_left
      · have hB : commaB T m3 = false := by unfold commaB; rw [hm3.out, decide_eq_true hlt3]; simpa using hb2
        have hE : commaR T 93 m3 = .bad 10 s3 := by unfold commaR; rw [hm3.out, if_pos hlt3, if_neg (fun e => e.elim hb2 hb1)]
        have hRe : Hid (R = .bad 10 s3) := by rw [Hid, ← hKw.out, if_pos hlt3, if_neg hb1, if_neg hb2]; rfl
        rw [hB]
        rw [hE] at hS7
        replace hS7 := hid_e hS7
        clear hB hE hb1 hb2
        obtain ⟨z0, z1, z2, z3, z4, -⟩ := row_cells hM8.out.box
        obtain ⟨v0, v1, v2, v3, v4, vf⟩ := row_cells hM8.out.res
        have vf0 := vf 0; have vf1 := vf 1; have vf2 := vf 2; have vf3 := vf 3; have vf4 := vf 4
        clear vf
        go_wp2_with fail
        have hr5 := put5_cells hM8.out.res (.int .i64 5) (.int .i64 0) (.string ⟨#[]⟩) (.slice none 0 0) (.slice (some ⟨gi, 0, none⟩) (m + 1) cI)
        have r0 := hr5 0; have r1 := hr5 1; have r2 := hr5 2; have r3 := hr5 3; have r4 := hr5 4
        clear hr5
        refine bodyPost_ret (v := .agg #[.int .i64 5, .int .i64 0, .string ⟨#[]⟩, .slice none 0 0, .slice (some ⟨gi, 0, none⟩) (m + 1) cI]) (by simp [results, Tryz.results38, go_sem, r0, r1, r2, r3, r4]) rfl ?_
        rw [hRe.out]
        exact RValPost.mk (w := w) hrl (fun j q e => by cases e) hS7.out hM8.out.fr
      have hB : commaB T m3 = true := by unfold commaB; rw [hm3.out, hb2, decide_eq_true hlt3]; rfl
      have hE : commaR T 93 m3 = .ok () (skip T (s3 + 1)) := by unfold commaR; rw [hm3.out, if_pos hlt3, if_pos (.inl hb2)]
      rw [hE] at hS7
      replace hS7 : Hid (RT w5 r T ((skip T (s3 + 1) : Nat) : Int) 0 0) := hS7
      have hsk := skip_bd T (s3 + 1) hlt3
      rw [if_pos hlt3, if_neg hb1, if_pos hb2] at hKw
      rw [hB]
      clear hB hE
      go_wp2_with fail
      go_roundg g'
      case measure => omega
      case rel => exact ⟨skip T (s3 + 1), its ++ [u], m + 1, _, some ⟨gi, 0, none⟩, cI, hsk.2, by omega, by rw [Hid, List.length_append, him.out]; rfl, by omega, hS7, by rw [Hid, ofL_snoc]; exact hM8.out, hKw⟩
end Go.Proofs.YtnccaidlcaeeaaaGreatDoor.Tree
