import Derived.Test.YtjmneiepcbpdpaaDoorBM
/-! The reader's values: one of them, its lists and objects being read as they should. -/
namespace Go.Proofs.YtjmneiepcbpdpaaDoor
open Go Go.RowKit

theorem seen_put {w2 : World} {n0 m : Nat} {t : Tr} {cs : List Value} (h : Seen w2 (fun j => m ≤ j) t cs) (hm : n0 < m) (c0 c1 c2 c3 c4 : Value) : Seen (put5 w2 n0 c0 c1 c2 c3 c4) (fun j => n0 ≤ j) t cs := fun W' a =>
  h W' ⟨by have := a.1; rwa [put5_size] at this, fun p u hp hc => a.2 p u (by omega) ((World.cell?_of_block (w := w2) (a := p) (put5_far _ _ _ _ _ (by omega))).trans hc)⟩
set_option maxHeartbeats 1000000 in
theorem word_any (s : ByteArray) (w : World) : Calls Tryd.prog 27 #[.string s] w fun e w' => e = .returned (.agg #[.int .i64 4, .int .i64 0, .string s, .slice none 0 0, .slice none 0 0]) ∧ Below w.heap.size w w' := by
  go_enter Tryd.func27, Tryd.ntmps27
  go_wp2_with fail
  refine bodyPost_ret (v := .agg #[.int .i64 4, .int .i64 0, .string s, .slice none 0 0, .slice none 0 0]) (by simp [results, Tryd.results27, go_sem]) rfl ?_
  exact ⟨rfl, (Below.refl _ w).alloc (Nat.le_refl _) _⟩
set_option maxHeartbeats 1000000 in
theorem flag_any (b : Bool) (w : World) : Calls Tryd.prog 30 #[.bool b] w fun e w' => e = .returned (.agg #[.int .i64 (if b = true then 2 else 1), .int .i64 0, .string ⟨#[]⟩, .slice none 0 0, .slice none 0 0]) ∧ Below w.heap.size w w' := by
  cases b
  · go_enter Tryd.func30, Tryd.ntmps30
    go_wp2_with fail
    refine bodyPost_ret (v := .agg #[.int .i64 1, .int .i64 0, .string ⟨#[]⟩, .slice none 0 0, .slice none 0 0]) (by simp [results, Tryd.results30, go_sem]) rfl ?_
    exact ⟨rfl, (Below.refl _ w).alloc (Nat.le_refl _) _⟩
  · go_enter Tryd.func30, Tryd.ntmps30
    go_wp2_with fail
    refine bodyPost_ret (v := .agg #[.int .i64 2, .int .i64 0, .string ⟨#[]⟩, .slice none 0 0, .slice none 0 0]) (by simp [results, Tryd.results30, go_sem]) rfl ?_
    exact ⟨rfl, (Below.refl _ w).alloc (Nat.le_refl _) _⟩
/-- What is asked of the readers of lists and objects. -/
def NestOk (F : Nat) (made : Nat → Rd Tr) (r g cap : Nat) (l : List UInt8) (d : Int) : Prop := ∀ q w, Base w r g cap l → At w r g cap l.length q → q ≤ l.length → Calls Tryd.prog F #[.pointer (some ⟨r, 0, none⟩), .int .i64 d] w (ValPost w r g cap l (made q))
set_option maxHeartbeats 8000000 in
set_option maxRecDepth 100000 in
theorem value_one (r g cap p d : Nat) (l : List UInt8) (val : Nat → Rd Tr) (deep : Bool) (w : World) (hB : Hid (Base w r g cap l)) (h : Hid (At w r g cap l.length p)) (hp : p ≤ l.length) (hd : d ≤ 64) (hdeep : deep = decide (d = 64))
    (hobj : Hid (d ≤ 63 → NestOk 28 (fun q => objR val l (l.length + 1) q [] []) r g cap l d)) (hlist : Hid (d ≤ 63 → NestOk 29 (fun q => listR val l (l.length + 1) q []) r g cap l d)) :
    Calls Tryd.prog 16 #[.pointer (some ⟨r, 0, none⟩), .int .i64 (d : Int)] w (ValPost w r g cap l (oneR val deep l p)) := by
  have hlen := hB.out.len
  have hcap := hB.out.capl
  have hrl := hB.out.lt
  obtain ⟨R, hR⟩ : ∃ R, Hid (oneR val deep l p = R) := ⟨_, hid_e rfl⟩
  rw [hR.out]
  have hn0 : (w.alloc (.cells #[.int .i64 0, .int .i64 0, .string ⟨#[]⟩, .slice none 0 0, .slice none 0 0] 25)).drew.heap[w.heap.size]? = some (.cells #[.int .i64 0, .int .i64 0, .string ⟨#[]⟩, .slice none 0 0, .slice none 0 0] 25 (0, 0)) := heap_alloc_new w _
  have hF0 : Fr (· = r) w (w.alloc (.cells #[.int .i64 0, .int .i64 0, .string ⟨#[]⟩, .slice none 0 0, .slice none 0 0] 25)).drew := ((Fr.refl _ w).alloc _).drew
  have hA0 : At (w.alloc (.cells #[.int .i64 0, .int .i64 0, .string ⟨#[]⟩, .slice none 0 0, .slice none 0 0] 25)).drew r g cap l.length p := h.out.keep (S := fun _ => False) (((Fr.refl _ w).alloc _).drew) (fun e => e)
  obtain ⟨y0, y1, yf⟩ := two_cells h.out
  have x0 := fun o => cell_alloc' y0 o
  have x1 := fun o => cell_alloc' y1 o
  clear y0 y1 yf
  by_cases he : p = l.length
  · have hRe : Hid (R = .no 3 l.length) := by rw [Hid, ← hR.out]; unfold oneR; rw [List.getElem?_eq_none (by omega)]
    have hde : ((p : Int) == (l.length : Int)) = true := by simp [he]
    go_enter Tryd.func16, Tryd.ntmps16
    go_wp2_with fail
    go_region
    generalize (w.alloc (.cells #[.int .i64 0, .int .i64 0, .string ⟨#[]⟩, .slice none 0 0, .slice none 0 0] 25)).drew = W at hn0 hF0 hA0 ⊢
    clear x0 x1
    have hs := hid_e (short_code r g cap l.length p W hA0)
    go_wp2_with fail
    go_fit hs.out
    rintro e1 X ⟨rfl, hA1, hF1⟩
    have hn1 := (hF1.block w.heap.size (Array.getElem?_eq_some_iff.1 hn0).1 (by omega)).trans hn0
    have hF2 := hF0.trans hF1
    obtain ⟨z0, z1, z2, z3, z4, zf⟩ := row_cells hn1
    have zf0 := zf 0; have zf1 := zf 1; have zf2 := zf 2; have zf3 := zf 3; have zf4 := zf 4
    clear zf
    go_wp2_with fail
    have hr5 := put5_cells hn1 (.int .i64 0) (.int .i64 0) (.string ⟨#[]⟩) (.slice none 0 0) (.slice none 0 0)
    have r0 := hr5 0; have r1 := hr5 1; have r2 := hr5 2; have r3 := hr5 3; have r4 := hr5 4
    clear hr5
    refine bodyPost_ret (v := .tuple #[.agg #[.int .i64 0, .int .i64 0, .string ⟨#[]⟩, .slice none 0 0, .slice none 0 0], .int .i64 3]) (by simp [results, Tryd.results16, go_sem, r0, r1, r2, r3, r4]) rfl ?_
    rw [hRe.out]
    refine ⟨_, _, _, _, _, _, _, _, _, rfl, (fun t q e => ?_), (put5_far _ _ _ _ _ (by omega)).trans hA1, hF2.put5 (.inr (Nat.le_refl _)) _ _ _ _ _⟩
    cases e
  have hde : ((p : Int) == (l.length : Int)) = false := by simp; omega
  obtain ⟨b, hb⟩ : ∃ b, l[p]? = some b := ⟨_, List.getElem?_eq_getElem (by omega)⟩
  have hcb := (hB.out.keepR hF0).row.cell hb
  have hpl : (p : Int) < (l.length : Int) := by omega
  have hRb : Hid (R = if (b = 48 ∨ b = 64) ∧ deep = true then .no 17 p else if b = 5 then .ok (.node 0 0 noS [] []) (p + 1) else if b = 16 then numV (numR l (p + 1)) else if b = 32 then textV (textR l (p + 1)) else if b = 48 then objR val l (l.length + 1) (p + 1) [] [] else if b = 64 then listR val l (l.length + 1) (p + 1) [] else if b = 80 then .ok (.node 1 0 noS [] []) (p + 1) else if b = 81 then .ok (.node 2 0 noS [] []) (p + 1) else .no 30 p) := by
    rw [Hid, ← hR.out]
    unfold oneR
    rw [hb]
  clear hR
  go_enter Tryd.func16, Tryd.ntmps16
  go_wp2_with fail
  go_region
  generalize (w.alloc (.cells #[.int .i64 0, .int .i64 0, .string ⟨#[]⟩, .slice none 0 0, .slice none 0 0] 25)).drew = W at hn0 hF0 hA0 hcb ⊢
  clear x0 x1
  obtain ⟨y0, y1, yf⟩ := two_cells hA0
  have yf1 := yf 1
  clear yf
  have hA2 := hA0.set (p + 1)
  have hF2 := hF0.set ⟨r, 1, none⟩ (.int .i64 ((p + 1 : Nat) : Int)) (.inl rfl)
  have hn2 : (W.setCell ⟨r, 1, none⟩ (.int .i64 ((p + 1 : Nat) : Int))).heap[w.heap.size]? = some (.cells #[.int .i64 0, .int .i64 0, .string ⟨#[]⟩, .slice none 0 0, .slice none 0 0] 25 (0, 0)) := (Below.heap_setCell _ _ _ _ (show w.heap.size ≠ r by omega)).trans hn0
  have hB2 := hid_e (hB.out.keepR hF2)
  have hs2 : w.heap.size < (W.setCell ⟨r, 1, none⟩ (.int .i64 ((p + 1 : Nat) : Int))).heap.size := (Array.getElem?_eq_some_iff.1 hn2).1
  by_cases hdp : (b = 48 ∨ b = 64) ∧ d = 64
  · have hRe : Hid (R = .no 17 p) := by rw [Hid, hRb.out, if_pos ⟨hdp.1, by rw [hdeep]; exact decide_eq_true hdp.2⟩]
    have hz : (b.toNat : Int) = 48 ∨ (b.toNat : Int) = 64 := by rcases hdp.1 with e | e <;> rw [e]; exact .inl rfl; exact .inr rfl
    obtain ⟨z, hz0⟩ : ∃ z, (b.toNat : Int) = z := ⟨_, rfl⟩
    rw [hz0] at hcb hz
    have hd64 : ((d : Int) == 64) = true := by simp; omega
    have hfl := hid_e (fault_code r g cap l.length p p 17 W hA0)
    clear hz0 hdp hRb hb hA2 hF2 hn2 hB2 hs2
    rcases hz with rfl | rfl
    · go_wp2_with fail
      go_fit hfl.out
      rintro e1 X ⟨rfl, hA1, hF1⟩
      have hn1 := (hF1.block w.heap.size (Array.getElem?_eq_some_iff.1 hn0).1 (by omega)).trans hn0
      have hF2 := hF0.trans hF1
      obtain ⟨z0, z1, z2, z3, z4, zf⟩ := row_cells hn1
      have zf0 := zf 0; have zf1 := zf 1; have zf2 := zf 2; have zf3 := zf 3; have zf4 := zf 4
      clear zf
      go_wp2_with fail
      have hr5 := put5_cells hn1 (.int .i64 0) (.int .i64 0) (.string ⟨#[]⟩) (.slice none 0 0) (.slice none 0 0)
      have r0 := hr5 0; have r1 := hr5 1; have r2 := hr5 2; have r3 := hr5 3; have r4 := hr5 4
      clear hr5
      refine bodyPost_ret (v := .tuple #[.agg #[.int .i64 0, .int .i64 0, .string ⟨#[]⟩, .slice none 0 0, .slice none 0 0], .int .i64 17]) (by simp [results, Tryd.results16, go_sem, r0, r1, r2, r3, r4]) rfl ?_
      rw [hRe.out]
      refine ⟨_, _, _, _, _, _, _, _, _, rfl, (fun t q e => ?_), (put5_far _ _ _ _ _ (by omega)).trans hA1, hF2.put5 (.inr (Nat.le_refl _)) _ _ _ _ _⟩
      cases e
    · go_wp2_with fail
      go_fit hfl.out
      rintro e1 X ⟨rfl, hA1, hF1⟩
      have hn1 := (hF1.block w.heap.size (Array.getElem?_eq_some_iff.1 hn0).1 (by omega)).trans hn0
      have hF2 := hF0.trans hF1
      obtain ⟨z0, z1, z2, z3, z4, zf⟩ := row_cells hn1
      have zf0 := zf 0; have zf1 := zf 1; have zf2 := zf 2; have zf3 := zf 3; have zf4 := zf 4
      clear zf
      go_wp2_with fail
      have hr5 := put5_cells hn1 (.int .i64 0) (.int .i64 0) (.string ⟨#[]⟩) (.slice none 0 0) (.slice none 0 0)
      have r0 := hr5 0; have r1 := hr5 1; have r2 := hr5 2; have r3 := hr5 3; have r4 := hr5 4
      clear hr5
      refine bodyPost_ret (v := .tuple #[.agg #[.int .i64 0, .int .i64 0, .string ⟨#[]⟩, .slice none 0 0, .slice none 0 0], .int .i64 17]) (by simp [results, Tryd.results16, go_sem, r0, r1, r2, r3, r4]) rfl ?_
      rw [hRe.out]
      refine ⟨_, _, _, _, _, _, _, _, _, rfl, (fun t q e => ?_), (put5_far _ _ _ _ _ (by omega)).trans hA1, hF2.put5 (.inr (Nat.le_refl _)) _ _ _ _ _⟩
      cases e
  have hdn : ¬ ((b = 48 ∨ b = 64) ∧ deep = true) := fun e => hdp ⟨e.1, by have h1 := e.2; rw [hdeep] at h1; exact of_decide_eq_true h1⟩
  have hRc := hid_e (hRb.out.trans (if_neg hdn))
  clear hRb hdn
  have hd64 : (b = 48 ∨ b = 64) → ((d : Int) == 64) = false := fun e => by
    have : ¬ d = 64 := fun e' => hdp ⟨e, e'⟩
    simp
    omega
  have hd63 : (b = 48 ∨ b = 64) → d ≤ 63 := fun e => by
    have : ¬ d = 64 := fun e' => hdp ⟨e, e'⟩
    omega
  clear hdp
  by_cases h5 : b = 5
  · have hRe := hid_e (hRc.out.trans (if_pos h5))
    have hcl : W.cell? ⟨g, p, none⟩ = some (.int .u8 5) := by rw [hcb, h5]; rfl
    clear hcb
    go_upto_region 10 with fail
    rw [show (p : Int) + 1 = ((p + 1 : Nat) : Int) by omega]
    generalize W.setCell ⟨r, 1, none⟩ (.int .i64 ((p + 1 : Nat) : Int)) = X at hA2 hF2 hn2 hB2 hs2 ⊢
    clear y0 y1 yf1 hcl
    obtain ⟨z0, z1, z2, z3, z4, zf⟩ := row_cells hn2
    have zf0 := zf 0; have zf1 := zf 1; have zf2 := zf 2; have zf3 := zf 3; have zf4 := zf 4
    clear zf
    go_wp2_with fail
    have hr5 := put5_cells hn2 (.int .i64 0) (.int .i64 0) (.string ⟨#[]⟩) (.slice none 0 0) (.slice none 0 0)
    have r0 := hr5 0; have r1 := hr5 1; have r2 := hr5 2; have r3 := hr5 3; have r4 := hr5 4
    clear hr5
    refine bodyPost_ret (v := .tuple #[.agg #[.int .i64 0, .int .i64 0, .string ⟨#[]⟩, .slice none 0 0, .slice none 0 0], .int .i64 0]) (by simp [results, Tryd.results16, go_sem, r0, r1, r2, r3, r4]) rfl ?_
    rw [hRe.out]
    refine ⟨_, _, _, _, _, _, _, _, _, rfl, (fun t q e => ?_), (put5_far _ _ _ _ _ (by omega)).trans hA2, hF2.put5 (.inr (Nat.le_refl _)) _ _ _ _ _⟩
    cases e; exact (seen_flat _ _ _ _ _)
  by_cases h16 : b = 16
  · have hRe := hid_e (hRc.out.trans ((if_neg h5).trans (if_pos h16)))
    have hcl : W.cell? ⟨g, p, none⟩ = some (.int .u8 16) := by rw [hcb, h16]; rfl
    clear hcb
    go_upto_region 12 with fail
    rw [show (p : Int) + 1 = ((p + 1 : Nat) : Int) by omega]
    generalize W.setCell ⟨r, 1, none⟩ (.int .i64 ((p + 1 : Nat) : Int)) = X at hA2 hF2 hn2 hB2 hs2 ⊢
    clear y0 y1 yf1 hcl
    have hcall : Hid (Calls _ _ _ X (ValPost X r g cap l (numV (numR l (p + 1))))) := hid_e (rnum_code r g cap (p + 1) l X hB2.out hA2 (by omega))
    go_wp2_with fail
    go_fit hcall.out
    clear hcall
    rintro e1 Y ⟨k2, x2, s2, an2, ln2, cn2, ai2, li2, ci2, rfl, hsn, hA3, hF3⟩
    have hn3 := (hF3.block w.heap.size hs2 (by omega)).trans hn2
    have hF4 := hF2.trans hF3
    obtain ⟨z0, z1, z2, z3, z4, zf⟩ := row_cells hn3
    have zf0 := zf 0; have zf1 := zf 1; have zf2 := zf 2; have zf3 := zf 3; have zf4 := zf 4
    clear zf
    go_wp2_with fail
    have hr5 := put5_cells hn3 (.int .i64 k2) (.int .i64 x2) (.string s2) (.slice an2 ln2 cn2) (.slice ai2 li2 ci2)
    have r0 := hr5 0; have r1 := hr5 1; have r2 := hr5 2; have r3 := hr5 3; have r4 := hr5 4
    clear hr5
    refine bodyPost_ret (v := .tuple #[.agg #[.int .i64 k2, .int .i64 x2, .string s2, .slice an2 ln2 cn2, .slice ai2 li2 ci2], .int .i64 (numV (numR l (p + 1))).code]) (by simp [results, Tryd.results16, go_sem, r0, r1, r2, r3, r4]) rfl ?_
    rw [hRe.out]
    refine ⟨_, _, _, _, _, _, _, _, _, rfl, (fun t q e => ?_), (put5_far _ _ _ _ _ (by omega)).trans hA3, hF4.put5 (.inr (Nat.le_refl _)) _ _ _ _ _⟩
    exact seen_put (hsn t q e) hs2 _ _ _ _ _
  by_cases h32 : b = 32
  · have hRe := hid_e (hRc.out.trans (((if_neg h5).trans (if_neg h16)).trans (if_pos h32)))
    have hcl : W.cell? ⟨g, p, none⟩ = some (.int .u8 32) := by rw [hcb, h32]; rfl
    clear hcb
    go_upto_region 14 with fail
    rw [show (p : Int) + 1 = ((p + 1 : Nat) : Int) by omega]
    generalize W.setCell ⟨r, 1, none⟩ (.int .i64 ((p + 1 : Nat) : Int)) = X at hA2 hF2 hn2 hB2 hs2 ⊢
    clear y0 y1 yf1 hcl
    have hcall := hid_e (rtext_code r g cap (p + 1) l X hB2 (hid_e hA2) (by omega))
    obtain ⟨TX, hTX⟩ : ∃ T, Hid (textR l (p + 1) = T) := ⟨_, hid_e rfl⟩
    rw [hTX.out] at hcall hRe
    go_wp2_with fail
    go_fit hcall.out
    clear hcall
    rintro e1 Y ⟨rfl, hA3, hF3⟩
    have hn3 := (hF3.block w.heap.size hs2 (by omega)).trans hn2
    have hF4 := hF2.trans hF3
    go_wp2_with fail
    go_fit (word_any TX.text Y)
    rintro e2 V ⟨rfl, hb4⟩
    have hn4 := (hb4.block w.heap.size (Array.getElem?_eq_some_iff.1 hn3).1).trans hn3
    have hF5 := hF4.trans (Fr.of_below hb4)
    have hA5 := hA3.keep (S := fun _ => False) (Fr.of_below hb4) (fun e => e)
    obtain ⟨z0, z1, z2, z3, z4, zf⟩ := row_cells hn4
    have zf0 := zf 0; have zf1 := zf 1; have zf2 := zf 2; have zf3 := zf 3; have zf4 := zf 4
    clear zf
    go_wp2_with fail
    have hr5 := put5_cells hn4 (.int .i64 4) (.int .i64 0) (.string TX.text) (.slice none 0 0) (.slice none 0 0)
    have r0 := hr5 0; have r1 := hr5 1; have r2 := hr5 2; have r3 := hr5 3; have r4 := hr5 4
    clear hr5
    have hcd : (textV TX).code = TX.code := by cases TX <;> rfl
    refine bodyPost_ret (v := .tuple #[.agg #[.int .i64 4, .int .i64 0, .string TX.text, .slice none 0 0, .slice none 0 0], .int .i64 TX.code]) (by simp [results, Tryd.results16, go_sem, r0, r1, r2, r3, r4]) rfl ?_
    rw [hRe.out]
    unfold ValPost
    rw [hcd]
    refine ⟨_, _, _, _, _, _, _, _, _, rfl, (fun t q e => ?_), (put5_far _ _ _ _ _ (by omega)).trans (show At V r g cap l.length (textV TX).place from by cases TX <;> exact hA5), hF5.put5 (.inr (Nat.le_refl _)) _ _ _ _ _⟩
    cases TX with
    | no e2 q2 => cases e
    | ok s q2 => cases e; exact seen_flat _ _ _ _ _
  by_cases h48 : b = 48
  · have hRe := hid_e (hRc.out.trans ((((if_neg h5).trans (if_neg h16)).trans (if_neg h32)).trans (if_pos h48)))
    have hcl : W.cell? ⟨g, p, none⟩ = some (.int .u8 48) := by rw [hcb, h48]; rfl
    have hdq := hd64 (.inl h48)
    clear hcb
    go_upto_region 17 with fail
    rw [show (p : Int) + 1 = ((p + 1 : Nat) : Int) by omega]
    generalize W.setCell ⟨r, 1, none⟩ (.int .i64 ((p + 1 : Nat) : Int)) = X at hA2 hF2 hn2 hB2 hs2 ⊢
    clear y0 y1 yf1 hcl
    have hcall : Hid (Calls _ _ _ X (ValPost X r g cap l (objR val l (l.length + 1) (p + 1) [] []))) := hid_e (hobj.out (hd63 (.inl h48)) (p + 1) X hB2.out hA2 (by omega))
    go_wp2_with fail
    go_fit hcall.out
    clear hcall
    rintro e1 Y ⟨k2, x2, s2, an2, ln2, cn2, ai2, li2, ci2, rfl, hsn, hA3, hF3⟩
    have hn3 := (hF3.block w.heap.size hs2 (by omega)).trans hn2
    have hF4 := hF2.trans hF3
    obtain ⟨z0, z1, z2, z3, z4, zf⟩ := row_cells hn3
    have zf0 := zf 0; have zf1 := zf 1; have zf2 := zf 2; have zf3 := zf 3; have zf4 := zf 4
    clear zf
    go_wp2_with fail
    have hr5 := put5_cells hn3 (.int .i64 k2) (.int .i64 x2) (.string s2) (.slice an2 ln2 cn2) (.slice ai2 li2 ci2)
    have r0 := hr5 0; have r1 := hr5 1; have r2 := hr5 2; have r3 := hr5 3; have r4 := hr5 4
    clear hr5
    refine bodyPost_ret (v := .tuple #[.agg #[.int .i64 k2, .int .i64 x2, .string s2, .slice an2 ln2 cn2, .slice ai2 li2 ci2], .int .i64 (objR val l (l.length + 1) (p + 1) [] []).code]) (by simp [results, Tryd.results16, go_sem, r0, r1, r2, r3, r4]) rfl ?_
    rw [hRe.out]
    refine ⟨_, _, _, _, _, _, _, _, _, rfl, (fun t q e => ?_), (put5_far _ _ _ _ _ (by omega)).trans hA3, hF4.put5 (.inr (Nat.le_refl _)) _ _ _ _ _⟩
    exact seen_put (hsn t q e) hs2 _ _ _ _ _
  by_cases h64 : b = 64
  · have hRe := hid_e (hRc.out.trans (((((if_neg h5).trans (if_neg h16)).trans (if_neg h32)).trans (if_neg h48)).trans (if_pos h64)))
    have hcl : W.cell? ⟨g, p, none⟩ = some (.int .u8 64) := by rw [hcb, h64]; rfl
    have hdq := hd64 (.inr h64)
    clear hcb
    go_upto_region 19 with fail
    rw [show (p : Int) + 1 = ((p + 1 : Nat) : Int) by omega]
    generalize W.setCell ⟨r, 1, none⟩ (.int .i64 ((p + 1 : Nat) : Int)) = X at hA2 hF2 hn2 hB2 hs2 ⊢
    clear y0 y1 yf1 hcl
    have hcall : Hid (Calls _ _ _ X (ValPost X r g cap l (listR val l (l.length + 1) (p + 1) []))) := hid_e (hlist.out (hd63 (.inr h64)) (p + 1) X hB2.out hA2 (by omega))
    go_wp2_with fail
    go_fit hcall.out
    clear hcall
    rintro e1 Y ⟨k2, x2, s2, an2, ln2, cn2, ai2, li2, ci2, rfl, hsn, hA3, hF3⟩
    have hn3 := (hF3.block w.heap.size hs2 (by omega)).trans hn2
    have hF4 := hF2.trans hF3
    obtain ⟨z0, z1, z2, z3, z4, zf⟩ := row_cells hn3
    have zf0 := zf 0; have zf1 := zf 1; have zf2 := zf 2; have zf3 := zf 3; have zf4 := zf 4
    clear zf
    go_wp2_with fail
    have hr5 := put5_cells hn3 (.int .i64 k2) (.int .i64 x2) (.string s2) (.slice an2 ln2 cn2) (.slice ai2 li2 ci2)
    have r0 := hr5 0; have r1 := hr5 1; have r2 := hr5 2; have r3 := hr5 3; have r4 := hr5 4
    clear hr5
    refine bodyPost_ret (v := .tuple #[.agg #[.int .i64 k2, .int .i64 x2, .string s2, .slice an2 ln2 cn2, .slice ai2 li2 ci2], .int .i64 (listR val l (l.length + 1) (p + 1) []).code]) (by simp [results, Tryd.results16, go_sem, r0, r1, r2, r3, r4]) rfl ?_
    rw [hRe.out]
    refine ⟨_, _, _, _, _, _, _, _, _, rfl, (fun t q e => ?_), (put5_far _ _ _ _ _ (by omega)).trans hA3, hF4.put5 (.inr (Nat.le_refl _)) _ _ _ _ _⟩
    exact seen_put (hsn t q e) hs2 _ _ _ _ _
  by_cases h80 : b = 80
  · have hRe := hid_e (hRc.out.trans ((((((if_neg h5).trans (if_neg h16)).trans (if_neg h32)).trans (if_neg h48)).trans (if_neg h64)).trans (if_pos h80)))
    have hcl : W.cell? ⟨g, p, none⟩ = some (.int .u8 80) := by rw [hcb, h80]; rfl
    clear hcb
    go_upto_region 21 with fail
    rw [show (p : Int) + 1 = ((p + 1 : Nat) : Int) by omega]
    generalize W.setCell ⟨r, 1, none⟩ (.int .i64 ((p + 1 : Nat) : Int)) = X at hA2 hF2 hn2 hB2 hs2 ⊢
    clear y0 y1 yf1 hcl
    go_wp2_with fail
    go_fit (flag_any false X)
    rintro e1 V ⟨rfl, hb4⟩
    have hn4 := (hb4.block w.heap.size hs2).trans hn2
    have hF5 := hF2.trans (Fr.of_below hb4)
    have hA5 := hA2.keep (S := fun _ => False) (Fr.of_below hb4) (fun e => e)
    obtain ⟨z0, z1, z2, z3, z4, zf⟩ := row_cells hn4
    have zf0 := zf 0; have zf1 := zf 1; have zf2 := zf 2; have zf3 := zf 3; have zf4 := zf 4
    clear zf
    go_wp2_with fail
    have hr5 := put5_cells hn4 (.int .i64 1) (.int .i64 0) (.string ⟨#[]⟩) (.slice none 0 0) (.slice none 0 0)
    have r0 := hr5 0; have r1 := hr5 1; have r2 := hr5 2; have r3 := hr5 3; have r4 := hr5 4
    clear hr5
    refine bodyPost_ret (v := .tuple #[.agg #[.int .i64 1, .int .i64 0, .string ⟨#[]⟩, .slice none 0 0, .slice none 0 0], .int .i64 0]) (by simp [results, Tryd.results16, go_sem, r0, r1, r2, r3, r4]) rfl ?_
    rw [hRe.out]
    refine ⟨_, _, _, _, _, _, _, _, _, rfl, (fun t q e => ?_), (put5_far _ _ _ _ _ (by omega)).trans hA5, hF5.put5 (.inr (Nat.le_refl _)) _ _ _ _ _⟩
    cases e; exact (seen_flat _ _ _ _ _)
  by_cases h81 : b = 81
  · have hRe := hid_e (hRc.out.trans (((((((if_neg h5).trans (if_neg h16)).trans (if_neg h32)).trans (if_neg h48)).trans (if_neg h64)).trans (if_neg h80)).trans (if_pos h81)))
    have hcl : W.cell? ⟨g, p, none⟩ = some (.int .u8 81) := by rw [hcb, h81]; rfl
    clear hcb
    go_upto_region 23 with fail
    rw [show (p : Int) + 1 = ((p + 1 : Nat) : Int) by omega]
    generalize W.setCell ⟨r, 1, none⟩ (.int .i64 ((p + 1 : Nat) : Int)) = X at hA2 hF2 hn2 hB2 hs2 ⊢
    clear y0 y1 yf1 hcl
    go_wp2_with fail
    go_fit (flag_any true X)
    rintro e1 V ⟨rfl, hb4⟩
    have hn4 := (hb4.block w.heap.size hs2).trans hn2
    have hF5 := hF2.trans (Fr.of_below hb4)
    have hA5 := hA2.keep (S := fun _ => False) (Fr.of_below hb4) (fun e => e)
    obtain ⟨z0, z1, z2, z3, z4, zf⟩ := row_cells hn4
    have zf0 := zf 0; have zf1 := zf 1; have zf2 := zf 2; have zf3 := zf 3; have zf4 := zf 4
    clear zf
    go_wp2_with fail
    have hr5 := put5_cells hn4 (.int .i64 2) (.int .i64 0) (.string ⟨#[]⟩) (.slice none 0 0) (.slice none 0 0)
    have r0 := hr5 0; have r1 := hr5 1; have r2 := hr5 2; have r3 := hr5 3; have r4 := hr5 4
    clear hr5
    refine bodyPost_ret (v := .tuple #[.agg #[.int .i64 2, .int .i64 0, .string ⟨#[]⟩, .slice none 0 0, .slice none 0 0], .int .i64 0]) (by simp [results, Tryd.results16, go_sem, r0, r1, r2, r3, r4]) rfl ?_
    rw [hRe.out]
    refine ⟨_, _, _, _, _, _, _, _, _, rfl, (fun t q e => ?_), (put5_far _ _ _ _ _ (by omega)).trans hA5, hF5.put5 (.inr (Nat.le_refl _)) _ _ _ _ _⟩
    cases e; exact (seen_flat _ _ _ _ _)
  have hRe := hid_e (hRc.out.trans (((((((if_neg h5).trans (if_neg h16)).trans (if_neg h32)).trans (if_neg h48)).trans (if_neg h64)).trans (if_neg h80)).trans (if_neg h81)))
  have k5 := byte_ne h5
  have k16 := byte_ne h16
  have k32 := byte_ne h32
  have k48 := byte_ne h48
  have k64 := byte_ne h64
  have k80 := byte_ne h80
  have k81 := byte_ne h81
  obtain ⟨z, hz⟩ : ∃ z, (b.toNat : Int) = z := ⟨_, rfl⟩
  rw [hz] at hcb k5 k16 k32 k48 k64 k80 k81
  have j5 : (z == 5) = false := k5
  have j16 : (z == 16) = false := k16
  have j32 : (z == 32) = false := k32
  have j48 : (z == 48) = false := k48
  have j64 : (z == 64) = false := k64
  have j80 : (z == 80) = false := k80
  have j81 : (z == 81) = false := k81
  clear k5 k16 k32 k48 k64 k80 k81 hz
  go_upto_region 24 with fail
  rw [show (p : Int) + 1 = ((p + 1 : Nat) : Int) by omega]
  generalize W.setCell ⟨r, 1, none⟩ (.int .i64 ((p + 1 : Nat) : Int)) = X at hA2 hF2 hn2 hB2 hs2 ⊢
  clear y0 y1 yf1 hcb
  have hfl := hid_e (fault_code r g cap l.length (p + 1) p 30 X hA2)
  go_wp2_with fail
  go_fit hfl.out
  rintro e1 Y ⟨rfl, hA1, hF1⟩
  have hn1 := (hF1.block w.heap.size hs2 (by omega)).trans hn2
  have hF3 := hF2.trans hF1
  obtain ⟨z0, z1, z2, z3, z4, zf⟩ := row_cells hn1
  have zf0 := zf 0; have zf1 := zf 1; have zf2 := zf 2; have zf3 := zf 3; have zf4 := zf 4
  clear zf
  go_wp2_with fail
  have hr5 := put5_cells hn1 (.int .i64 0) (.int .i64 0) (.string ⟨#[]⟩) (.slice none 0 0) (.slice none 0 0)
  have r0 := hr5 0; have r1 := hr5 1; have r2 := hr5 2; have r3 := hr5 3; have r4 := hr5 4
  clear hr5
  refine bodyPost_ret (v := .tuple #[.agg #[.int .i64 0, .int .i64 0, .string ⟨#[]⟩, .slice none 0 0, .slice none 0 0], .int .i64 30]) (by simp [results, Tryd.results16, go_sem, r0, r1, r2, r3, r4]) rfl ?_
  rw [hRe.out]
  refine ⟨_, _, _, _, _, _, _, _, _, rfl, (fun t q e => ?_), (put5_far _ _ _ _ _ (by omega)).trans hA1, hF3.put5 (.inr (Nat.le_refl _)) _ _ _ _ _⟩
  cases e
end Go.Proofs.YtjmneiepcbpdpaaDoor
