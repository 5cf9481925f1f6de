import Derived.Test.YtlkomknjgfjnlaaGreatDoorPN
import Derived.Test.YtlkomknjgfjnlaaGreatDoorPM
import Derived.Test.YtlkomknjgfjnlaaGreatDoorPH
import Derived.Test.YtlkomknjgfjnlaaGreatDoorPJ
import Derived.Test.YtlkomknjgfjnlaaGreatDoorPK
/-! The document's reader of texts: one value, its lists and objects being read as they should. -/
namespace Go.Proofs.YtlkomknjgfjnlaaGreatDoor.Tree
open Go Go.RowKit

/-- Lists and objects are read as they should. -/
def NestOk (f : Nat) (r : Nat) (T : ByteArray) (n : Nat) (d : Int) (R : Res J) : Prop := ∀ W, RT W r T (n : Int) 0 0 → Calls Tryz.prog f #[.pointer (some ⟨r, 0, none⟩), .int .i64 d] W (RValPost W r T R)
theorem fine_le {α : Type} {T : ByteArray} {n : Nat} {R : Res α} (h : Fine T n R) : ∀ x q, R = .ok x q → q ≤ T.size := fun x q e => by subst e; exact h.2
theorem RValPost.mk {w w1 : World} {r : Nat} {T : ByteArray} {R : Res J} {k x0 : Int} {s : ByteArray} {an : Option Addr} {ln cn : Nat} {ai : Option Addr} {li ci : Nat} (hr : r < w.heap.size) (hs : ∀ j q, R = .ok j q → Seen (put5 w1 w.heap.size (.int .i64 k) (.int .i64 x0) (.string s) (.slice an ln cn) (.slice ai li ci)) (fun b => w.heap.size ≤ b) (ofJ j) (five k x0 s (.slice an ln cn) (.slice ai li ci))) (hS : VSt w1 r T R) (hF : Fr (· = r) w w1) :
    RValPost w r T R (.returned (.agg #[.int .i64 k, .int .i64 x0, .string s, .slice an ln cn, .slice ai li ci])) (put5 w1 w.heap.size (.int .i64 k) (.int .i64 x0) (.string s) (.slice an ln cn) (.slice ai li ci)) :=
  ⟨_, _, _, _, _, _, _, _, _, rfl, hs, hS.put5 (by omega) _ _ _ _ _, hF.put5 (.inr (Nat.le_refl _)) _ _ _ _ _⟩
theorem byte_eq (b : UInt8) (n : Nat) (h : n < 256) : (((b.toNat : Nat) : Int) == (n : Int)) = decide (b = UInt8.ofNat n) := by
  rw [Bool.eq_iff_iff, beq_iff_eq, decide_eq_true_eq]
  constructor
  · intro e
    have e' : b.toNat = n := by omega
    rw [← e', UInt8.ofNat_toNat]
  · intro e
    subst e
    have : (UInt8.ofNat n).toNat = n := by simp; omega
    omega
/-- What a call within has read stands when the result is stored. -/
theorem seen_box {w w1 w2 : World} {t : Tr} {cs : List Value} (h : Seen w2 (fun b => w1.heap.size ≤ b) t cs) (hw : w.heap.size < w1.heap.size) (_ : True) {a0 a1 a2 a3 a4 : Value} : Seen (put5 w2 w.heap.size a0 a1 a2 a3 a4) (fun b => w.heap.size ≤ b) t cs := fun W' a =>
  h W' ⟨by have := a.1; rw [put5_size] at this; exact this, fun p u hp hc => a.2 p u (by show w.heap.size ≤ p.block; omega) ((World.cell?_of_block (w := w2) (a := p) (put5_far _ _ _ _ _ (by omega))).trans hc)⟩
set_option maxHeartbeats 8000000 in
set_option maxRecDepth 100000 in
theorem value_one (r : Nat) (T : ByteArray) (n d : Nat) (li ob : Res J) (w : World) (hT : T.size ≤ 65536) (h : Hid (RT w r T (n : Int) 0 0)) (hn : n ≤ T.size) (hd : d ≤ 64)
    (hli : Hid (n < T.size → byteAt T n = 91 → (d < 64 → NestOk 26 r T n (d : Int) li) ∧ (d = 64 → li = .bad 17 n)))
    (hob : Hid (n < T.size → byteAt T n = 123 → (d < 64 → NestOk 27 r T n (d : Int) ob) ∧ (d = 64 → ob = .bad 17 n))) :
    Calls Tryz.prog 14 #[.pointer (some ⟨r, 0, none⟩), .int .i64 (d : Int)] w (RValPost w r T (headR T (textR T) n li ob)) := by
  have hrl := h.out.lt
  obtain ⟨R, hR⟩ : ∃ R, Hid (headR T (textR T) n li ob = R) := ⟨_, hid_e rfl⟩
  rw [hR.out]
  have n0 := heap_alloc_new w (.cells #[.int .i64 0, .int .i64 0, .string ⟨#[]⟩, .slice none 0 0, .slice none 0 0] 25)
  have hF0 : Fr (· = r) w (w.alloc (.cells #[.int .i64 0, .int .i64 0, .string ⟨#[]⟩, .slice none 0 0, .slice none 0 0] 25)) := (Fr.refl _ w).alloc _
  have hR0 : RT (w.alloc (.cells #[.int .i64 0, .int .i64 0, .string ⟨#[]⟩, .slice none 0 0, .slice none 0 0] 25)) r T (n : Int) 0 0 := h.out.keep (S := fun _ => False) ((Fr.refl _ w).alloc _) (fun e => e)
  go_enter Tryz.func14, Tryz.ntmps14
  go_upto_region 1 with fail
  generalize w.alloc (.cells #[.int .i64 0, .int .i64 0, .string ⟨#[]⟩, .slice none 0 0, .slice none 0 0] 25) = W at n0 hF0 hR0 ⊢
  clear h
  by_cases hlt : n < T.size
  rotate_left
  · have e1 : n = T.size := by omega
    have hRe : Hid (R = .bad 3 T.size) := by rw [Hid, ← hR.out]; unfold headR; rw [if_neg hlt]
    have hnx := hid_e (next_short r T W (by rw [← e1]; exact hR0))
    clear e1
    go_wp2_with fail
    go_fit hnx.out
    rintro e1 w1 ⟨rfl, hS1, hF1⟩
    have n1 := (hF1.block _ (Array.getElem?_eq_some_iff.1 n0).1 (by omega)).trans n0
    have hFW := hid_e (hF0.trans hF1)
    replace hS1 := hid_e hS1
    clear hnx hF0 hF1 hR0 n0
    obtain ⟨v0, v1, v2, v3, v4, vf⟩ := row_cells n1
    have vf0 := vf 0; have vf1 := vf 1; have vf2 := vf 2; have vf3 := vf 3; have vf4 := vf 4
    clear vf
    go_wp2_with fail
    have hr5 := put5_cells n1 (.int .i64 0) (.int .i64 0) (.string ⟨#[]⟩) (.slice none 0 0) (.slice none 0 0)
    have r0 := hr5 0; have r1 := hr5 1; have r2 := hr5 2; have r3 := hr5 3; have r4 := hr5 4
    clear hr5
    refine bodyPost_ret (v := .agg #[.int .i64 0, .int .i64 0, .string ⟨#[]⟩, .slice none 0 0, .slice none 0 0]) (by simp [results, Tryz.results14, go_sem, r0, r1, r2, r3, r4]) rfl ?_
    rw [hRe.out]
    exact RValPost.mk (w := w) hrl (fun j q e => by cases e) ⟨by decide, _, hS1.out⟩ hFW.out
  have hnx := hid_e (next_byte r T n W hR0 hlt)
  go_wp2_with fail
  go_fit hnx.out
  rintro e1 w1 ⟨rfl, hS1, hF1⟩
  have n1 := (hF1.block _ (Array.getElem?_eq_some_iff.1 n0).1 (by omega)).trans n0
  have hF2 := hF0.trans hF1
  clear hnx hF0 hF1 hR0 n0
  have hhd : Hid (headR T (textR T) n li ob = if byteAt T n = 110 then (litR T [110, 117, 108, 108] n).map fun _ => .null else if byteAt T n = 116 then (litR T [116, 114, 117, 101] n).map fun _ => .tru else if byteAt T n = 102 then (litR T [102, 97, 108, 115, 101] n).map fun _ => .fls else if byteAt T n = 45 ∨ digit (byteAt T n) = true then (numR T n).map .int else if byteAt T n = 34 then (textR T n).map .text else if byteAt T n = 91 then li else if byteAt T n = 123 then ob else .bad 10 n) := by
    rw [Hid]; unfold headR; rw [if_pos hlt]
  rw [hhd.out] at hR
  clear hhd
  by_cases hb : byteAt T n = 110
  · have hRe : Hid (R = (litR T [110, 117, 108, 108] n).map fun _ => .null) := by rw [Hid, ← hR.out]; simp only [hb]; rfl
    have hwd := hid_e (word_code r T ⟨#[110, 117, 108, 108]⟩ n w1 hT (by decide) (hid_e hS1) hn)
    have hli2 := hid_e (fine_le (lit_fine T [110, 117, 108, 108] n (by simp) hn))
    rw [hb]
    have z0 : (((110 : UInt8).toNat : Nat) : Int) = 110 := rfl
    rw [z0]
    clear z0 hb
    go_wp2_with fail
    go_fit hwd.out
    rintro e2 w2 ⟨rfl, hS2, hF3⟩
    have n2 := (hF3.block _ (Array.getElem?_eq_some_iff.1 n1).1 (by omega)).trans n1
    have hFW := hid_e (hF2.trans hF3)
    have hVS : Hid (VSt w2 r T ((litR T [110, 117, 108, 108] n).map fun _ => J.null)) := VSt.of _ hS2 hli2.out
    clear hwd hS2 hF3 hF2 n1 hS1 hli2
    obtain ⟨v0, v1, v2, v3, v4, vf⟩ := row_cells n2
    have vf0 := vf 0; have vf1 := vf 1; have vf2 := vf 2; have vf3 := vf 3; have vf4 := vf 4
    clear vf
    go_wp2_with fail
    have hr5 := put5_cells n2 (.int .i64 0) (.int .i64 0) (.string ⟨#[]⟩) (.slice none 0 0) (.slice none 0 0)
    have r0 := hr5 0; have r1 := hr5 1; have r2 := hr5 2; have r3 := hr5 3; have r4 := hr5 4
    clear hr5
    refine bodyPost_ret (v := .agg #[.int .i64 0, .int .i64 0, .string ⟨#[]⟩, .slice none 0 0, .slice none 0 0]) (by simp [results, Tryz.results14, go_sem, r0, r1, r2, r3, r4]) rfl ?_
    rw [hRe.out]
    exact RValPost.mk (w := w) hrl (fun j q e => by cases hq : litR T [110, 117, 108, 108] n with | ok x q1 => rw [hq] at e; cases e; exact seen_flat _ _ _ _ _ | bad e1 p1 => rw [hq] at e; cases e) hVS.out hFW.out
  have h110 := hid_e hb
  clear hb
  by_cases hb : byteAt T n = 116
  · have hRe : Hid (R = (litR T [116, 114, 117, 101] n).map fun _ => .tru) := by rw [Hid, ← hR.out]; simp only [hb]; rfl
    have hwd := hid_e (word_code r T ⟨#[116, 114, 117, 101]⟩ n w1 hT (by decide) (hid_e hS1) hn)
    have hli2 := hid_e (fine_le (lit_fine T [116, 114, 117, 101] n (by simp) hn))
    rw [hb]
    have z0 : (((116 : UInt8).toNat : Nat) : Int) = 116 := rfl
    rw [z0]
    clear z0 hb
    go_wp2_with fail
    go_fit hwd.out
    rintro e2 w2 ⟨rfl, hS2, hF3⟩
    have n2 := (hF3.block _ (Array.getElem?_eq_some_iff.1 n1).1 (by omega)).trans n1
    have hFW := hid_e (hF2.trans hF3)
    have hVS : Hid (VSt w2 r T ((litR T [116, 114, 117, 101] n).map fun _ => J.tru)) := VSt.of _ hS2 hli2.out
    clear hwd hS2 hF3 hF2 n1 hS1 hli2
    obtain ⟨v0, v1, v2, v3, v4, vf⟩ := row_cells n2
    have vf0 := vf 0; have vf1 := vf 1; have vf2 := vf 2; have vf3 := vf 3; have vf4 := vf 4
    clear vf
    go_wp2_with fail
    have hr5 := put5_cells n2 (.int .i64 2) (.int .i64 0) (.string ⟨#[]⟩) (.slice none 0 0) (.slice none 0 0)
    have r0 := hr5 0; have r1 := hr5 1; have r2 := hr5 2; have r3 := hr5 3; have r4 := hr5 4
    clear hr5
    refine bodyPost_ret (v := .agg #[.int .i64 2, .int .i64 0, .string ⟨#[]⟩, .slice none 0 0, .slice none 0 0]) (by simp [results, Tryz.results14, go_sem, r0, r1, r2, r3, r4]) rfl ?_
    rw [hRe.out]
    exact RValPost.mk (w := w) hrl (fun j q e => by cases hq : litR T [116, 114, 117, 101] n with | ok x q1 => rw [hq] at e; cases e; exact seen_flat _ _ _ _ _ | bad e1 p1 => rw [hq] at e; cases e) hVS.out hFW.out
  have h116 := hid_e hb
  clear hb
  by_cases hb : byteAt T n = 102
  · have hRe : Hid (R = (litR T [102, 97, 108, 115, 101] n).map fun _ => .fls) := by rw [Hid, ← hR.out]; simp only [hb]; rfl
    have hwd := hid_e (word_code r T ⟨#[102, 97, 108, 115, 101]⟩ n w1 hT (by decide) (hid_e hS1) hn)
    have hli2 := hid_e (fine_le (lit_fine T [102, 97, 108, 115, 101] n (by simp) hn))
    rw [hb]
    have z0 : (((102 : UInt8).toNat : Nat) : Int) = 102 := rfl
    rw [z0]
    clear z0 hb
    go_wp2_with fail
    go_fit hwd.out
    rintro e2 w2 ⟨rfl, hS2, hF3⟩
    have n2 := (hF3.block _ (Array.getElem?_eq_some_iff.1 n1).1 (by omega)).trans n1
    have hFW := hid_e (hF2.trans hF3)
    have hVS : Hid (VSt w2 r T ((litR T [102, 97, 108, 115, 101] n).map fun _ => J.fls)) := VSt.of _ hS2 hli2.out
    clear hwd hS2 hF3 hF2 n1 hS1 hli2
    obtain ⟨v0, v1, v2, v3, v4, vf⟩ := row_cells n2
    have vf0 := vf 0; have vf1 := vf 1; have vf2 := vf 2; have vf3 := vf 3; have vf4 := vf 4
    clear vf
    go_wp2_with fail
    have hr5 := put5_cells n2 (.int .i64 1) (.int .i64 0) (.string ⟨#[]⟩) (.slice none 0 0) (.slice none 0 0)
    have r0 := hr5 0; have r1 := hr5 1; have r2 := hr5 2; have r3 := hr5 3; have r4 := hr5 4
    clear hr5
    refine bodyPost_ret (v := .agg #[.int .i64 1, .int .i64 0, .string ⟨#[]⟩, .slice none 0 0, .slice none 0 0]) (by simp [results, Tryz.results14, go_sem, r0, r1, r2, r3, r4]) rfl ?_
    rw [hRe.out]
    exact RValPost.mk (w := w) hrl (fun j q e => by cases hq : litR T [102, 97, 108, 115, 101] n with | ok x q1 => rw [hq] at e; cases e; exact seen_flat _ _ _ _ _ | bad e1 p1 => rw [hq] at e; cases e) hVS.out hFW.out
  have h102 := hid_e hb
  clear hb
  by_cases hb : byteAt T n = 45 ∨ digit (byteAt T n) = true
  · have hRe : Hid (R = (numR T n).map .int) := by rw [Hid, ← hR.out, if_neg h110.out, if_neg h116.out, if_neg h102.out, if_pos hb]
    have hnm := hid_e (number_code r T n w1 hT (hid_e hS1) hlt hb)
    have hli2 : Hid (∀ x q, numR T n = .ok x q → q ≤ T.size) := by
      unfold numR
      split
      · exact fine_le (num_fine T n (n + 1) (by omega) hlt)
      · exact fine_le (num_fine T n n (Nat.le_refl _) hn)
    have k110 := byte_ne h110.out
    have k116 := byte_ne h116.out
    have k102 := byte_ne h102.out
    have k45 := byte_eq (byteAt T n) 45 (by decide)
    have hdg : Hid (byteAt T n = 45 ∨ (48 ≤ ((byteAt T n).toNat : Int) ∧ ((byteAt T n).toNat : Int) ≤ 57)) := hb.imp id (fun e => by
      unfold digit at e
      simp only [Bool.and_eq_true, decide_eq_true_eq, UInt8.le_iff_toNat_le] at e
      have e1 : (48 : UInt8).toNat = 48 := rfl
      have e2 : (57 : UInt8).toNat = 57 := rfl
      omega)
    obtain ⟨z, hz⟩ : ∃ z : Int, Hid (((byteAt T n).toNat : Int) = z) := ⟨_, hid_e rfl⟩
    rw [hz.out] at k110 k116 k102 k45 hdg
    rw [hz.out]
    rw [show ((110 : UInt8).toNat : Int) = 110 from rfl] at k110
    rw [show ((116 : UInt8).toNat : Int) = 116 from rfl] at k116
    rw [show ((102 : UInt8).toNat : Int) = 102 from rfl] at k102
    rw [show ((45 : Nat) : Int) = 45 from rfl, show UInt8.ofNat 45 = 45 from rfl] at k45
    have hcs : ((z == 45) = true) ∨ ((z == 45) = false ∧ 48 ≤ z ∧ z ≤ 57) := by
      rw [k45]
      by_cases e : byteAt T n = 45
      · exact .inl (decide_eq_true e)
      · exact .inr ⟨decide_eq_false e, hdg.out.resolve_left e⟩
    clear hb k45 hdg
    rcases hcs with c1 | ⟨c1, c2, c3⟩
    all_goals
      go_wp2_with fail
      go_fit hnm.out
      rintro e2 w2 ⟨⟨z2, rfl, hzv⟩, hS2, hF3⟩
      have n2 := (hF3.block _ (Array.getElem?_eq_some_iff.1 n1).1 (by omega)).trans n1
      have hFW := hid_e (hF2.trans hF3)
      have hVS : Hid (VSt w2 r T ((numR T n).map J.int)) := VSt.of _ hS2 hli2.out
      replace hzv := hid_e hzv
      clear hnm hS2 hF3
      obtain ⟨v0, v1, v2, v3, v4, vf⟩ := row_cells n2
      have vf0 := vf 0; have vf1 := vf 1; have vf2 := vf 2; have vf3 := vf 3; have vf4 := vf 4
      clear vf
      go_wp2_with fail
      have hr5 := put5_cells n2 (.int .i64 3) (.int .i64 z2) (.string ⟨#[]⟩) (.slice none 0 0) (.slice none 0 0)
      have r0 := hr5 0; have r1 := hr5 1; have r2 := hr5 2; have r3 := hr5 3; have r4 := hr5 4
      clear hr5
      refine bodyPost_ret (v := .agg #[.int .i64 3, .int .i64 z2, .string ⟨#[]⟩, .slice none 0 0, .slice none 0 0]) (by simp [results, Tryz.results14, go_sem, r0, r1, r2, r3, r4]) rfl ?_
      rw [hRe.out]
      exact RValPost.mk (w := w) hrl (fun j q e => by cases hq : numR T n with | ok x q1 => rw [hq] at e; cases e; rw [hzv.out _ _ hq]; exact seen_flat _ _ _ _ _ | bad e1 p1 => rw [hq] at e; cases e) hVS.out hFW.out
  have h45 := hid_e hb
  clear hb
  by_cases hb : byteAt T n = 34
  · have hRe : Hid (R = (textR T n).map .text) := by rw [Hid, ← hR.out, if_neg h110.out, if_neg h116.out, if_neg h102.out, if_neg h45.out, if_pos hb]
    have htx := hid_e (text_code r T n w1 hT (hid_e hS1) hlt)
    have hli2 := hid_e (fine_le (text_fine T n hlt))
    rw [hb]
    have z0 : (((34 : UInt8).toNat : Nat) : Int) = 34 := rfl
    rw [z0]
    clear z0 hb
    go_wp2_with fail
    go_fit htx.out
    rintro e2 w2 ⟨⟨s2, rfl, hsv⟩, hS2, hF3⟩
    have n2 := (hF3.block _ (Array.getElem?_eq_some_iff.1 n1).1 (by omega)).trans n1
    have hFW := hid_e (hF2.trans hF3)
    have hVS : Hid (VSt w2 r T ((textR T n).map J.text)) := VSt.of _ hS2 hli2.out
    replace hsv := hid_e hsv
    clear htx hS2 hF3 hF2 n1 hS1 hli2
    obtain ⟨v0, v1, v2, v3, v4, vf⟩ := row_cells n2
    have vf0 := vf 0; have vf1 := vf 1; have vf2 := vf 2; have vf3 := vf 3; have vf4 := vf 4
    clear vf
    go_wp2_with fail
    have hr5 := put5_cells n2 (.int .i64 4) (.int .i64 0) (.string s2) (.slice none 0 0) (.slice none 0 0)
    have r0 := hr5 0; have r1 := hr5 1; have r2 := hr5 2; have r3 := hr5 3; have r4 := hr5 4
    clear hr5
    refine bodyPost_ret (v := .agg #[.int .i64 4, .int .i64 0, .string s2, .slice none 0 0, .slice none 0 0]) (by simp [results, Tryz.results14, go_sem, r0, r1, r2, r3, r4]) rfl ?_
    rw [hRe.out]
    exact RValPost.mk (w := w) hrl (fun j q e => by cases hq : textR T n with | ok x q1 => rw [hq] at e; cases e; rw [hsv.out _ _ hq]; exact seen_flat _ _ _ _ _ | bad e1 p1 => rw [hq] at e; cases e) hVS.out hFW.out
  have h34 := hid_e hb
  clear hb
  by_cases hb : byteAt T n = 91
  · have hRe : Hid (R = li) := by rw [Hid, ← hR.out, if_neg h110.out, if_neg h116.out, if_neg h102.out, if_neg h45.out, if_neg h34.out, if_pos hb]
    obtain ⟨hgo, hno⟩ := hli.out hlt hb
    rw [hb]
    have z0 : (((91 : UInt8).toNat : Nat) : Int) = 91 := rfl
    rw [z0]
    clear z0 hb
    by_cases hdd : d < 64
    · have hdi : (d : Int) < 64 := by omega
      have hcl := hid_e (hgo hdd w1 hS1)
      clear hgo hno
      go_wp2_with fail
      go_fit hcl.out
      rintro e2 w2 ⟨k2, x2, s2, an2, ln2, cn2, ai2, li2, ci2, rfl, hsn, hVS, hF3⟩
      have n2 := (hF3.block _ (Array.getElem?_eq_some_iff.1 n1).1 (by omega)).trans n1
      have hFW := hid_e (hF2.trans hF3)
      have hw1 := hid_e (Array.getElem?_eq_some_iff.1 n1).1
      replace hsn := hid_e hsn
      replace hVS := hid_e hVS
      clear hcl hF3 hF2 n1 hS1
      obtain ⟨v0, v1, v2, v3, v4, vf⟩ := row_cells n2
      have vf0 := vf 0; have vf1 := vf 1; have vf2 := vf 2; have vf3 := vf 3; have vf4 := vf 4
      clear vf
      go_wp2_with fail
      have hr5 := put5_cells n2 (.int .i64 k2) (.int .i64 x2) (.string s2) (.slice an2 ln2 cn2) (.slice ai2 li2 ci2)
      have r0 := hr5 0; have r1 := hr5 1; have r2 := hr5 2; have r3 := hr5 3; have r4 := hr5 4
      clear hr5
      refine bodyPost_ret (v := .agg #[.int .i64 k2, .int .i64 x2, .string s2, .slice an2 ln2 cn2, .slice ai2 li2 ci2]) (by simp [results, Tryz.results14, go_sem, r0, r1, r2, r3, r4]) rfl ?_
      rw [hRe.out]
      exact RValPost.mk (w := w) hrl (fun j q e => seen_box (hsn.out j q e) hw1.out trivial) hVS.out hFW.out
    · have hde : d = 64 := by omega
      have hRe2 := hno hde
      subst hde
      rw [hRe2] at hRe
      have hfl := hid_e (fail_code r T (n : Int) (n : Int) 17 w1 hS1)
      obtain ⟨y0, y1, y2, y3, -⟩ := hS1.cells
      clear hgo hno hRe2
      go_wp2_with fail
      go_fit hfl.out
      rintro e2 w2 ⟨rfl, hS2, hF3⟩
      have n2 := (hF3.block _ (Array.getElem?_eq_some_iff.1 n1).1 (by omega)).trans n1
      have hFW := hid_e (hF2.trans hF3)
      replace hS2 := hid_e hS2
      clear hfl hF3 hF2 n1 hS1 y0 y1 y2 y3
      obtain ⟨v0, v1, v2, v3, v4, vf⟩ := row_cells n2
      have vf0 := vf 0; have vf1 := vf 1; have vf2 := vf 2; have vf3 := vf 3; have vf4 := vf 4
      clear vf
      go_wp2_with fail
      have hr5 := put5_cells n2 (.int .i64 0) (.int .i64 0) (.string ⟨#[]⟩) (.slice none 0 0) (.slice none 0 0)
      have r0 := hr5 0; have r1 := hr5 1; have r2 := hr5 2; have r3 := hr5 3; have r4 := hr5 4
      clear hr5
      refine bodyPost_ret (v := .agg #[.int .i64 0, .int .i64 0, .string ⟨#[]⟩, .slice none 0 0, .slice none 0 0]) (by simp [results, Tryz.results14, go_sem, r0, r1, r2, r3, r4]) rfl ?_
      rw [hRe.out]
      exact RValPost.mk (w := w) hrl (fun j q e => by cases e) ⟨by decide, _, hS2.out⟩ hFW.out
  have h91 := hid_e hb
  clear hb
  by_cases hb : byteAt T n = 123
  · have hRe : Hid (R = ob) := by rw [Hid, ← hR.out, if_neg h110.out, if_neg h116.out, if_neg h102.out, if_neg h45.out, if_neg h34.out, if_neg h91.out, if_pos hb]
    obtain ⟨hgo, hno⟩ := hob.out hlt hb
    rw [hb]
    have z0 : (((123 : UInt8).toNat : Nat) : Int) = 123 := rfl
    rw [z0]
    clear z0 hb
    by_cases hdd : d < 64
    · have hdi : (d : Int) < 64 := by omega
      have hcl := hid_e (hgo hdd w1 hS1)
      clear hgo hno
      go_wp2_with fail
      go_fit hcl.out
      rintro e2 w2 ⟨k2, x2, s2, an2, ln2, cn2, ai2, li2, ci2, rfl, hsn, hVS, hF3⟩
      have n2 := (hF3.block _ (Array.getElem?_eq_some_iff.1 n1).1 (by omega)).trans n1
      have hFW := hid_e (hF2.trans hF3)
      have hw1 := hid_e (Array.getElem?_eq_some_iff.1 n1).1
      replace hsn := hid_e hsn
      replace hVS := hid_e hVS
      clear hcl hF3 hF2 n1 hS1
      obtain ⟨v0, v1, v2, v3, v4, vf⟩ := row_cells n2
      have vf0 := vf 0; have vf1 := vf 1; have vf2 := vf 2; have vf3 := vf 3; have vf4 := vf 4
      clear vf
      go_wp2_with fail
      have hr5 := put5_cells n2 (.int .i64 k2) (.int .i64 x2) (.string s2) (.slice an2 ln2 cn2) (.slice ai2 li2 ci2)
      have r0 := hr5 0; have r1 := hr5 1; have r2 := hr5 2; have r3 := hr5 3; have r4 := hr5 4
      clear hr5
      refine bodyPost_ret (v := .agg #[.int .i64 k2, .int .i64 x2, .string s2, .slice an2 ln2 cn2, .slice ai2 li2 ci2]) (by simp [results, Tryz.results14, go_sem, r0, r1, r2, r3, r4]) rfl ?_
      rw [hRe.out]
      exact RValPost.mk (w := w) hrl (fun j q e => seen_box (hsn.out j q e) hw1.out trivial) hVS.out hFW.out
    · have hde : d = 64 := by omega
      have hRe2 := hno hde
      subst hde
      rw [hRe2] at hRe
      have hfl := hid_e (fail_code r T (n : Int) (n : Int) 17 w1 hS1)
      obtain ⟨y0, y1, y2, y3, -⟩ := hS1.cells
      clear hgo hno hRe2
      go_wp2_with fail
      go_fit hfl.out
      rintro e2 w2 ⟨rfl, hS2, hF3⟩
      have n2 := (hF3.block _ (Array.getElem?_eq_some_iff.1 n1).1 (by omega)).trans n1
      have hFW := hid_e (hF2.trans hF3)
      replace hS2 := hid_e hS2
      clear hfl hF3 hF2 n1 hS1 y0 y1 y2 y3
      obtain ⟨v0, v1, v2, v3, v4, vf⟩ := row_cells n2
      have vf0 := vf 0; have vf1 := vf 1; have vf2 := vf 2; have vf3 := vf 3; have vf4 := vf 4
      clear vf
      go_wp2_with fail
      have hr5 := put5_cells n2 (.int .i64 0) (.int .i64 0) (.string ⟨#[]⟩) (.slice none 0 0) (.slice none 0 0)
      have r0 := hr5 0; have r1 := hr5 1; have r2 := hr5 2; have r3 := hr5 3; have r4 := hr5 4
      clear hr5
      refine bodyPost_ret (v := .agg #[.int .i64 0, .int .i64 0, .string ⟨#[]⟩, .slice none 0 0, .slice none 0 0]) (by simp [results, Tryz.results14, go_sem, r0, r1, r2, r3, r4]) rfl ?_
      rw [hRe.out]
      exact RValPost.mk (w := w) hrl (fun j q e => by cases e) ⟨by decide, _, hS2.out⟩ hFW.out
  have h123 := hid_e hb
  clear hb
  have hRe : Hid (R = .bad 10 n) := by rw [Hid, ← hR.out, if_neg h110.out, if_neg h116.out, if_neg h102.out, if_neg h45.out, if_neg h34.out, if_neg h91.out, if_neg h123.out]
  have k110 := byte_ne h110.out
  have k116 := byte_ne h116.out
  have k102 := byte_ne h102.out
  have k34 := byte_ne h34.out
  have k91 := byte_ne h91.out
  have k123 := byte_ne h123.out
  have k45 := byte_ne (fun e => h45.out (.inl e) : byteAt T n ≠ 45)
  have hdg : ((byteAt T n).toNat : Int) < 48 ∨ 57 < ((byteAt T n).toNat : Int) := by
    have e : ¬ (digit (byteAt T n) = true) := fun e => h45.out (.inr e)
    unfold digit at e
    simp only [Bool.and_eq_true, decide_eq_true_eq, UInt8.le_iff_toNat_le] at e
    have e1 : (48 : UInt8).toNat = 48 := rfl
    have e2 : (57 : UInt8).toNat = 57 := rfl
    omega
  obtain ⟨z, hz⟩ : ∃ z : Int, Hid (((byteAt T n).toNat : Int) = z) := ⟨_, hid_e rfl⟩
  rw [hz.out] at k110 k116 k102 k45 k34 k91 k123 hdg
  rw [hz.out]
  rw [show ((110 : UInt8).toNat : Int) = 110 from rfl] at k110
  rw [show ((116 : UInt8).toNat : Int) = 116 from rfl] at k116
  rw [show ((102 : UInt8).toNat : Int) = 102 from rfl] at k102
  rw [show ((45 : UInt8).toNat : Int) = 45 from rfl] at k45
  rw [show ((34 : UInt8).toNat : Int) = 34 from rfl] at k34
  rw [show ((91 : UInt8).toNat : Int) = 91 from rfl] at k91
  rw [show ((123 : UInt8).toNat : Int) = 123 from rfl] at k123
  have hfl := hid_e (fail_code r T (n : Int) (n : Int) 10 w1 hS1)
  obtain ⟨y0, y1, y2, y3, -⟩ := hS1.cells
  have hcs : (¬ (48 : Int) ≤ z) ∨ ((48 : Int) ≤ z ∧ ¬ z ≤ 57) := by omega
  clear hdg
  rcases hcs with c1 | ⟨c1, c2⟩
  all_goals
    go_wp2_with fail
    go_fit hfl.out
    rintro e2 w2 ⟨rfl, hS2, hF3⟩
    have n2 := (hF3.block _ (Array.getElem?_eq_some_iff.1 n1).1 (by omega)).trans n1
    have hFW := hid_e (hF2.trans hF3)
    replace hS2 := hid_e hS2
    clear hfl hF3 y0 y1 y2 y3
    obtain ⟨v0, v1, v2, v3, v4, vf⟩ := row_cells n2
    have vf0 := vf 0; have vf1 := vf 1; have vf2 := vf 2; have vf3 := vf 3; have vf4 := vf 4
    clear vf
    go_wp2_with fail
    have hr5 := put5_cells n2 (.int .i64 0) (.int .i64 0) (.string ⟨#[]⟩) (.slice none 0 0) (.slice none 0 0)
    have r0 := hr5 0; have r1 := hr5 1; have r2 := hr5 2; have r3 := hr5 3; have r4 := hr5 4
    clear hr5
    refine bodyPost_ret (v := .agg #[.int .i64 0, .int .i64 0, .string ⟨#[]⟩, .slice none 0 0, .slice none 0 0]) (by simp [results, Tryz.results14, go_sem, r0, r1, r2, r3, r4]) rfl ?_
    rw [hRe.out]
    exact RValPost.mk (w := w) hrl (fun j q e => by cases e) ⟨by decide, _, hS2.out⟩ hFW.out
end Go.Proofs.YtlkomknjgfjnlaaGreatDoor.Tree
