import Derived.Test.YtjmneiepcbpdpaaDoorDB
import Derived.Test.YtjmneiepcbpdpaaDoorBQ
/-! The document's reader of values: one of them, its lists and objects being read as they should. -/
namespace Go.Proofs.YtjmneiepcbpdpaaDoor
open Go Go.RowKit

def RValPost (w : World) (r : Nat) (a : Option Addr) (c : Nat) (l : List UInt8) (R : Rd Tr) (x : Ending) (w' : World) : Prop :=
  ∃ k x0 s an ln cn ai li ci, x = .returned (.agg #[.int .i64 k, .int .i64 x0, .string s, .slice an ln cn, .slice ai li ci]) ∧ (∀ t q, R = .ok t q → Seen w' (fun j => w.heap.size ≤ j) t (five k x0 s (.slice an ln cn) (.slice ai li ci))) ∧ RSt w' r a c l.length R ∧ Fr (· = r) w w'
theorem RSt.keepF {α : Type} {S : Nat → Prop} {w w' : World} {r : Nat} {a : Option Addr} {c n : Nat} {R : Rd α} (h : RSt w r a c n R) (f : Fr S w w') (hr : ¬ S r) : RSt w' r a c n R := by
  cases R with
  | ok x q => exact RT.keep h f hr
  | no e pl => exact ⟨h.1, h.2.choose, RT.keep h.2.choose_spec f hr⟩
theorem RSt.keep {α : Type} {w w' : World} {r : Nat} {a : Option Addr} {c n : Nat} {R : Rd α} (h : RSt w r a c n R) (f : Fr (fun _ => False) w w') : RSt w' r a c n R := h.keepF f (fun e => e)
def RNestOk (obj : Bool) (made : Nat → Rd Tr) (r : Nat) (a : Option Addr) (c : Nat) (l : List UInt8) (d : Int) : Prop := ∀ q w, RBase w r a c l → RT w r a c l.length q 0 0 → q ≤ l.length → Calls Tryd.prog 40 #[.pointer (some ⟨r, 0, none⟩), .bool obj, .int .i64 d] w (RValPost w r a c l (made q))
theorem RSt.put5 {α : Type} {w : World} {r : Nat} {a : Option Addr} {c n : Nat} {R : Rd α} (h : RSt w r a c n R) {g : Nat} (hg : r ≠ g) (a0 a1 a2 a3 a4 : Value) : RSt (put5 w g a0 a1 a2 a3 a4) r a c n R := by
  cases R with
  | ok x q => exact (put5_far _ _ _ _ _ hg).trans h
  | no e pl => exact ⟨h.1, h.2.choose, (put5_far _ _ _ _ _ hg).trans h.2.choose_spec⟩
theorem RSt.num {w : World} {r : Nat} {a : Option Addr} {c n : Nat} {R : Rd Int} (h : RSt w r a c n R) : RSt w r a c n (numV R) := by
  cases R <;> exact h
theorem RSt.text {w : World} {r : Nat} {a : Option Addr} {c n : Nat} {R : Rd ByteArray} (h : RSt w r a c n R) : RSt w r a c n (textV R) := by
  cases R <;> exact h
set_option maxHeartbeats 2000000 in
set_option maxRecDepth 100000 in
theorem dval_dead (r : Nat) (a : Option Addr) (c n q pl : Nat) (e d : Int) (w : World) (h : RT w r a c n q e pl) (he : e ≠ 0) :
    Calls Tryd.prog 18 #[.pointer (some ⟨r, 0, none⟩), .int .i64 d] w fun x w' => x = .returned (.agg #[.int .i64 0, .int .i64 0, .string ⟨#[]⟩, .slice none 0 0, .slice none 0 0]) ∧ Fr (· = r) w w' ∧ RT w' r a c n q e pl := by
  have hrl := h.lt
  have n0 := heap_alloc_new w (.cells #[.int .i64 0, .int .i64 0, .string ⟨#[]⟩, .slice none 0 0, .slice none 0 0] 25)
  have hF0 : Fr (· = r) w (w.alloc (.cells #[.int .i64 0, .int .i64 0, .string ⟨#[]⟩, .slice none 0 0, .slice none 0 0] 25)) := (Fr.refl _ w).alloc _
  have hR0 : RT (w.alloc (.cells #[.int .i64 0, .int .i64 0, .string ⟨#[]⟩, .slice none 0 0, .slice none 0 0] 25)) r a c n q e pl := h.keep (S := fun _ => False) ((Fr.refl _ w).alloc _) (fun e => e)
  go_enter Tryd.func18, Tryd.ntmps18
  go_upto_region 1 with fail
  generalize w.alloc (.cells #[.int .i64 0, .int .i64 0, .string ⟨#[]⟩, .slice none 0 0, .slice none 0 0] 25) = W at n0 hF0 hR0 ⊢
  have hn := hid_e (next_dead r a c n q pl e W hR0 he)
  obtain ⟨-, y1, -, -, -⟩ := hR0.cells
  go_wp2_with fail
  clear y1
  go_fit hn.out
  rintro e1 w1 ⟨rfl, hw⟩
  replace hw := hw.symm
  subst hw
  obtain ⟨v0, v1, v2, v3, v4, vf⟩ := row_cells n0
  have vf0 := vf 0; have vf1 := vf 1; have vf2 := vf 2; have vf3 := vf 3; have vf4 := vf 4
  clear vf
  go_wp2_with fail
  have hr5 := put5_cells n0 (.int .i64 0) (.int .i64 0) (.string ⟨#[]⟩) (.slice none 0 0) (.slice none 0 0)
  have r0 := hr5 0; have r1 := hr5 1; have r2 := hr5 2; have r3 := hr5 3; have r4 := hr5 4
  clear hr5
  refine bodyPost_ret (v := .agg #[.int .i64 0, .int .i64 0, .string ⟨#[]⟩, .slice none 0 0, .slice none 0 0]) (by simp [results, Tryd.results18, go_sem, r0, r1, r2, r3, r4]) rfl ?_
  exact ⟨rfl, hF0.put5 (.inr (Nat.le_refl _)) _ _ _ _ _, (put5_far _ _ _ _ _ (by omega)).trans hR0⟩
set_option maxHeartbeats 8000000 in
set_option maxRecDepth 100000 in
theorem dval_one (r : Nat) (a : Option Addr) (c p d : Nat) (l : List UInt8) (val : Nat → Rd Tr) (deep : Bool) (w : World) (hB : Hid (RBase w r a c l)) (h : Hid (RT w r a c l.length p 0 0)) (hp : p ≤ l.length) (hd : d ≤ 64) (hdeep : deep = decide (d = 64))
    (hobj : Hid (d ≤ 63 → RNestOk true (fun q => objR val l (l.length + 1) q [] []) r a c l d)) (hlist : Hid (d ≤ 63 → RNestOk false (fun q => listR val l (l.length + 1) q []) r a c l d)) :
    Calls Tryd.prog 18 #[.pointer (some ⟨r, 0, none⟩), .int .i64 (d : Int)] w (RValPost w r a c l (oneR val deep l p)) := by
  have hlen := hB.out.len
  have hrl := hB.out.lt
  obtain ⟨R, hR⟩ : ∃ R, Hid (oneR val deep l p = R) := ⟨_, hid_e rfl⟩
  rw [hR.out]
  have n0 := heap_alloc_new w (.cells #[.int .i64 0, .int .i64 0, .string ⟨#[]⟩, .slice none 0 0, .slice none 0 0] 25)
  have hF0 : Fr (· = r) w (w.alloc (.cells #[.int .i64 0, .int .i64 0, .string ⟨#[]⟩, .slice none 0 0, .slice none 0 0] 25)) := (Fr.refl _ w).alloc _
  have hR0 : RT (w.alloc (.cells #[.int .i64 0, .int .i64 0, .string ⟨#[]⟩, .slice none 0 0, .slice none 0 0] 25)) r a c l.length p 0 0 := h.out.keep (S := fun _ => False) ((Fr.refl _ w).alloc _) (fun e => e)
  go_enter Tryd.func18, Tryd.ntmps18
  go_upto_region 1 with fail
  generalize w.alloc (.cells #[.int .i64 0, .int .i64 0, .string ⟨#[]⟩, .slice none 0 0, .slice none 0 0] 25) = W at n0 hF0 hR0 ⊢
  have hn := hid_e (next_code r a c p l W (hB.out.keepR hF0) hR0 hp)
  obtain ⟨-, y1, -, -, -⟩ := hR0.cells
  go_wp2_with fail
  clear y1
  go_fit hn.out
  clear hn
  rintro e1 w1 ⟨rfl, hS, hF1⟩
  have n1 := (hF1.block _ (Array.getElem?_eq_some_iff.1 n0).1 (by omega)).trans n0
  have hF2 := hF0.trans hF1
  have hws : Hid (w.heap.size + 1 ≤ w1.heap.size) := (Array.getElem?_eq_some_iff.1 n1).1
  clear n0 hF0 hR0 hF1 h
  cases hN : nextR l p with
  | no e1 q1 =>
    rw [hN] at hS
    obtain ⟨m1, rfl, rfl⟩ := next_none hN
    have hRe : Hid (R = .no 3 l.length) := by rw [Hid, ← hR.out]; unfold oneR; rw [m1]
    have b1 : (Rd.no 3 l.length : Rd UInt8).good = false := rfl
    obtain ⟨v0, v1, v2, v3, v4, vf⟩ := row_cells n1
    have vf0 := vf 0; have vf1 := vf 1; have vf2 := vf 2; have vf3 := vf 3; have vf4 := vf 4
    clear vf
    go_wp2_with fail
    have hr5 := put5_cells n1 (.int .i64 0) (.int .i64 0) (.string ⟨#[]⟩) (.slice none 0 0) (.slice none 0 0)
    have r0 := hr5 0; have r1 := hr5 1; have r2 := hr5 2; have r3 := hr5 3; have r4 := hr5 4
    clear hr5
    refine bodyPost_ret (v := .agg #[.int .i64 0, .int .i64 0, .string ⟨#[]⟩, .slice none 0 0, .slice none 0 0]) (by simp [results, Tryd.results18, go_sem, r0, r1, r2, r3, r4]) rfl ?_
    rw [hRe.out]
    exact ⟨_, _, _, _, _, _, _, _, _, rfl, (fun t q e => by cases e), RSt.put5 hS (by omega) _ _ _ _ _, hF2.put5 (.inr (Nat.le_refl _)) _ _ _ _ _⟩
  | ok b q1 =>
    rw [hN] at hS
    obtain ⟨m1, rfl, m3⟩ := next_some hN
    have b1 : (Rd.ok b (p + 1) : Rd UInt8).good = true := rfl
    have b2 : (Rd.ok b (p + 1) : Rd UInt8).val 0 = b := rfl
    clear hN
    rw [b1, b2]
    clear b1 b2
    have hone : Hid (oneR val deep l p = if (b = 48 ∨ b = 64) ∧ deep = true then .no 17 p else if b = 5 then .ok (.node 0 0 noS [] []) (p + 1) else if b = 16 then numV (numR l (p + 1)) else if b = 32 then textV (textR l (p + 1)) else if b = 48 then objR val l (l.length + 1) (p + 1) [] [] else if b = 64 then listR val l (l.length + 1) (p + 1) [] else if b = 80 then .ok (.node 1 0 noS [] []) (p + 1) else if b = 81 then .ok (.node 2 0 noS [] []) (p + 1) else .no 30 p) := by
      rw [Hid]; unfold oneR; rw [m1]
    rw [hone.out] at hR
    clear hone m1
    by_cases hb : b = 5
    · skip
      subst hb
      have z0 : (((5 : UInt8).toNat : Nat) : Int) = 5 := rfl
      rw [z0]
      have hRe : Hid (R = .ok (.node 0 0 noS [] []) (p + 1)) := by rw [Hid, ← hR.out]; simp
      obtain ⟨v0, v1, v2, v3, v4, vf⟩ := row_cells n1
      have vf0 := vf 0; have vf1 := vf 1; have vf2 := vf 2; have vf3 := vf 3; have vf4 := vf 4
      clear vf
      go_wp2_with fail
      have hr5 := put5_cells n1 (.int .i64 0) (.int .i64 0) (.string ⟨#[]⟩) (.slice none 0 0) (.slice none 0 0)
      have r0 := hr5 0; have r1 := hr5 1; have r2 := hr5 2; have r3 := hr5 3; have r4 := hr5 4
      clear hr5
      refine bodyPost_ret (v := .agg #[.int .i64 0, .int .i64 0, .string ⟨#[]⟩, .slice none 0 0, .slice none 0 0]) (by simp [results, Tryd.results18, go_sem, r0, r1, r2, r3, r4]) rfl ?_
      rw [hRe.out]
      exact ⟨_, _, _, _, _, _, _, _, _, rfl, (fun t q e => by cases e; exact seen_flat _ _ _ _ _), RSt.put5 (R := (.ok (.node 0 0 noS [] []) (p + 1) : Rd Tr)) hS (by omega) _ _ _ _ _, hF2.put5 (.inr (Nat.le_refl _)) _ _ _ _ _⟩
    have h5 := hid_e hb
    clear hb
    by_cases hb : b = 80
    · skip
      subst hb
      have z0 : (((80 : UInt8).toNat : Nat) : Int) = 80 := rfl
      rw [z0]
      have hRe : Hid (R = .ok (.node 1 0 noS [] []) (p + 1)) := by rw [Hid, ← hR.out]; simp
      obtain ⟨v0, v1, v2, v3, v4, vf⟩ := row_cells n1
      have vf0 := vf 0; have vf1 := vf 1; have vf2 := vf 2; have vf3 := vf 3; have vf4 := vf 4
      clear vf
      go_wp2_with fail
      have hr5 := put5_cells n1 (.int .i64 1) (.int .i64 0) (.string ⟨#[]⟩) (.slice none 0 0) (.slice none 0 0)
      have r0 := hr5 0; have r1 := hr5 1; have r2 := hr5 2; have r3 := hr5 3; have r4 := hr5 4
      clear hr5
      refine bodyPost_ret (v := .agg #[.int .i64 1, .int .i64 0, .string ⟨#[]⟩, .slice none 0 0, .slice none 0 0]) (by simp [results, Tryd.results18, go_sem, r0, r1, r2, r3, r4]) rfl ?_
      rw [hRe.out]
      exact ⟨_, _, _, _, _, _, _, _, _, rfl, (fun t q e => by cases e; exact seen_flat _ _ _ _ _), RSt.put5 (R := (.ok (.node 1 0 noS [] []) (p + 1) : Rd Tr)) hS (by omega) _ _ _ _ _, hF2.put5 (.inr (Nat.le_refl _)) _ _ _ _ _⟩
    have h80 := hid_e hb
    clear hb
    by_cases hb : b = 81
    · skip
      subst hb
      have z0 : (((81 : UInt8).toNat : Nat) : Int) = 81 := rfl
      rw [z0]
      have hRe : Hid (R = .ok (.node 2 0 noS [] []) (p + 1)) := by rw [Hid, ← hR.out]; simp
      obtain ⟨v0, v1, v2, v3, v4, vf⟩ := row_cells n1
      have vf0 := vf 0; have vf1 := vf 1; have vf2 := vf 2; have vf3 := vf 3; have vf4 := vf 4
      clear vf
      go_wp2_with fail
      have hr5 := put5_cells n1 (.int .i64 2) (.int .i64 0) (.string ⟨#[]⟩) (.slice none 0 0) (.slice none 0 0)
      have r0 := hr5 0; have r1 := hr5 1; have r2 := hr5 2; have r3 := hr5 3; have r4 := hr5 4
      clear hr5
      refine bodyPost_ret (v := .agg #[.int .i64 2, .int .i64 0, .string ⟨#[]⟩, .slice none 0 0, .slice none 0 0]) (by simp [results, Tryd.results18, go_sem, r0, r1, r2, r3, r4]) rfl ?_
      rw [hRe.out]
      exact ⟨_, _, _, _, _, _, _, _, _, rfl, (fun t q e => by cases e; exact seen_flat _ _ _ _ _), RSt.put5 (R := (.ok (.node 2 0 noS [] []) (p + 1) : Rd Tr)) hS (by omega) _ _ _ _ _, hF2.put5 (.inr (Nat.le_refl _)) _ _ _ _ _⟩
    have h81 := hid_e hb
    clear hb
    by_cases hb : b = 16
    · skip
      subst hb
      have z0 : (((16 : UInt8).toNat : Nat) : Int) = 16 := rfl
      rw [z0]
      have hRe : Hid (R = numV (numR l (p + 1))) := by rw [Hid, ← hR.out]; simp
      have hn := hid_e (dnum_code r a c (p + 1) l w1 (hid_e (hB.out.keepR hF2)) (hid_e hS) m3)
      go_wp2_with fail
      go_fit hn.out
      clear hn
      rintro e w2 ⟨⟨z, rfl, hz⟩, hS2, hF3⟩
      have n2 := (hF3.block _ (Array.getElem?_eq_some_iff.1 n1).1 (by omega)).trans n1
      have hF4 := hF2.trans hF3
      clear hF3 n1 hF2 hS
      obtain ⟨v0, v1, v2, v3, v4, vf⟩ := row_cells n2
      have vf0 := vf 0; have vf1 := vf 1; have vf2 := vf 2; have vf3 := vf 3; have vf4 := vf 4
      clear vf
      go_wp2_with fail
      have hr5 := put5_cells n2 (.int .i64 3) (.int .i64 z) (.string ⟨#[]⟩) (.slice none 0 0) (.slice none 0 0)
      have r0 := hr5 0; have r1 := hr5 1; have r2 := hr5 2; have r3 := hr5 3; have r4 := hr5 4
      clear hr5
      refine bodyPost_ret (v := .agg #[.int .i64 3, .int .i64 z, .string ⟨#[]⟩, .slice none 0 0, .slice none 0 0]) (by simp [results, Tryd.results18, go_sem, r0, r1, r2, r3, r4]) rfl ?_
      rw [hRe.out]
      exact ⟨_, _, _, _, _, _, _, _, _, rfl, (fun t q e => by cases hy : numR l (p + 1) with | no e1 q1 => rw [hy] at e; cases e | ok y q1 => rw [hy] at e; cases e; rw [hz y _ hy]; exact seen_flat _ _ _ _ _), RSt.put5 hS2.num (by omega) _ _ _ _ _, hF4.put5 (.inr (Nat.le_refl _)) _ _ _ _ _⟩
    have h16 := hid_e hb
    clear hb
    by_cases hb : b = 32
    · skip
      subst hb
      have z0 : (((32 : UInt8).toNat : Nat) : Int) = 32 := rfl
      rw [z0]
      have hRe : Hid (R = textV (textR l (p + 1))) := by rw [Hid, ← hR.out]; simp
      have hn := hid_e (dtext_code r a c (p + 1) l w1 (hid_e (hB.out.keepR hF2)) (hid_e hS) m3)
      go_wp2_with fail
      go_fit hn.out
      clear hn
      rintro e w2 ⟨⟨z, rfl, hz⟩, hS2, hF3⟩
      have n2 := (hF3.block _ (Array.getElem?_eq_some_iff.1 n1).1 (by omega)).trans n1
      have hF4 := hF2.trans hF3
      clear hF3 n1 hF2 hS
      obtain ⟨v0, v1, v2, v3, v4, vf⟩ := row_cells n2
      have vf0 := vf 0; have vf1 := vf 1; have vf2 := vf 2; have vf3 := vf 3; have vf4 := vf 4
      clear vf
      go_wp2_with fail
      have hr5 := put5_cells n2 (.int .i64 4) (.int .i64 0) (.string z) (.slice none 0 0) (.slice none 0 0)
      have r0 := hr5 0; have r1 := hr5 1; have r2 := hr5 2; have r3 := hr5 3; have r4 := hr5 4
      clear hr5
      refine bodyPost_ret (v := .agg #[.int .i64 4, .int .i64 0, .string z, .slice none 0 0, .slice none 0 0]) (by simp [results, Tryd.results18, go_sem, r0, r1, r2, r3, r4]) rfl ?_
      rw [hRe.out]
      exact ⟨_, _, _, _, _, _, _, _, _, rfl, (fun t q e => by cases hy : textR l (p + 1) with | no e1 q1 => rw [hy] at e; cases e | ok y q1 => rw [hy] at e; cases e; rw [hz y _ hy]; exact seen_flat _ _ _ _ _), RSt.put5 hS2.text (by omega) _ _ _ _ _, hF4.put5 (.inr (Nat.le_refl _)) _ _ _ _ _⟩
    have h32 := hid_e hb
    clear hb
    by_cases hb : b = 48
    · skip
      subst hb
      have z0 : (((48 : UInt8).toNat : Nat) : Int) = 48 := rfl
      rw [z0]
      by_cases h64 : d = 64
      · have hRe : Hid (R = .no 17 p) := by rw [Hid, ← hR.out, hdeep, decide_eq_true h64]; simp
        have hge : decide ((64 : Int) ≤ (d : Int)) = true := by simp; omega
        have hfl := hid_e (fail_code r a c l.length (p + 1) p 17 w1 hS)
        go_wp2_with fail
        go_fit hfl.out
        rintro e w2 ⟨rfl, hS2, hF3⟩
        have n2 := (hF3.block _ (Array.getElem?_eq_some_iff.1 n1).1 (by omega)).trans n1
        have hF4 := hF2.trans hF3
        clear hF3 n1 hF2 hS
        obtain ⟨v0, v1, v2, v3, v4, vf⟩ := row_cells n2
        have vf0 := vf 0; have vf1 := vf 1; have vf2 := vf 2; have vf3 := vf 3; have vf4 := vf 4
        clear vf
        go_wp2_with fail
        have hr5 := put5_cells n2 (.int .i64 0) (.int .i64 0) (.string ⟨#[]⟩) (.slice none 0 0) (.slice none 0 0)
        have r0 := hr5 0; have r1 := hr5 1; have r2 := hr5 2; have r3 := hr5 3; have r4 := hr5 4
        clear hr5
        refine bodyPost_ret (v := .agg #[.int .i64 0, .int .i64 0, .string ⟨#[]⟩, .slice none 0 0, .slice none 0 0]) (by simp [results, Tryd.results18, go_sem, r0, r1, r2, r3, r4]) rfl ?_
        rw [hRe.out]
        exact ⟨_, _, _, _, _, _, _, _, _, rfl, (fun t q e => by cases e), RSt.put5 (R := (.no 17 p : Rd Tr)) ⟨by decide, _, hS2⟩ (by omega) _ _ _ _ _, hF4.put5 (.inr (Nat.le_refl _)) _ _ _ _ _⟩
      · have hRe : Hid (R = objR val l (l.length + 1) (p + 1) [] []) := by rw [Hid, ← hR.out, hdeep, decide_eq_false h64]; simp
        have hge : decide ((64 : Int) ≤ (d : Int)) = false := by simp; omega
        have hn := hid_e (hobj.out (by omega) (p + 1) w1 (hB.out.keepR hF2) hS m3)
        go_wp2_with fail
        go_fit hn.out
        clear hn
        rintro e w2 ⟨k2, x2, s2, an2, ln2, cn2, ai2, li2, ci2, rfl, hsn, hS2, hF3⟩
        have n2 := (hF3.block _ (Array.getElem?_eq_some_iff.1 n1).1 (by omega)).trans n1
        have hF4 := hF2.trans hF3
        clear hF3 n1 hF2 hS
        obtain ⟨v0, v1, v2, v3, v4, vf⟩ := row_cells n2
        have vf0 := vf 0; have vf1 := vf 1; have vf2 := vf 2; have vf3 := vf 3; have vf4 := vf 4
        clear vf
        go_wp2_with fail
        have hr5 := put5_cells n2 (.int .i64 k2) (.int .i64 x2) (.string s2) (.slice an2 ln2 cn2) (.slice ai2 li2 ci2)
        have r0 := hr5 0; have r1 := hr5 1; have r2 := hr5 2; have r3 := hr5 3; have r4 := hr5 4
        clear hr5
        refine bodyPost_ret (v := .agg #[.int .i64 k2, .int .i64 x2, .string s2, .slice an2 ln2 cn2, .slice ai2 li2 ci2]) (by simp [results, Tryd.results18, go_sem, r0, r1, r2, r3, r4]) rfl ?_
        rw [hRe.out]
        exact ⟨_, _, _, _, _, _, _, _, _, rfl, (fun t q e => seen_put (hsn t q e) (by have := hws.out; omega) _ _ _ _ _), RSt.put5 hS2 (by omega) _ _ _ _ _, hF4.put5 (.inr (Nat.le_refl _)) _ _ _ _ _⟩
    have h48 := hid_e hb
    clear hb
    by_cases hb : b = 64
    · skip
      subst hb
      have z0 : (((64 : UInt8).toNat : Nat) : Int) = 64 := rfl
      rw [z0]
      by_cases h64 : d = 64
      · have hRe : Hid (R = .no 17 p) := by rw [Hid, ← hR.out, hdeep, decide_eq_true h64]; simp
        have hge : decide ((64 : Int) ≤ (d : Int)) = true := by simp; omega
        have hfl := hid_e (fail_code r a c l.length (p + 1) p 17 w1 hS)
        go_wp2_with fail
        go_fit hfl.out
        rintro e w2 ⟨rfl, hS2, hF3⟩
        have n2 := (hF3.block _ (Array.getElem?_eq_some_iff.1 n1).1 (by omega)).trans n1
        have hF4 := hF2.trans hF3
        clear hF3 n1 hF2 hS
        obtain ⟨v0, v1, v2, v3, v4, vf⟩ := row_cells n2
        have vf0 := vf 0; have vf1 := vf 1; have vf2 := vf 2; have vf3 := vf 3; have vf4 := vf 4
        clear vf
        go_wp2_with fail
        have hr5 := put5_cells n2 (.int .i64 0) (.int .i64 0) (.string ⟨#[]⟩) (.slice none 0 0) (.slice none 0 0)
        have r0 := hr5 0; have r1 := hr5 1; have r2 := hr5 2; have r3 := hr5 3; have r4 := hr5 4
        clear hr5
        refine bodyPost_ret (v := .agg #[.int .i64 0, .int .i64 0, .string ⟨#[]⟩, .slice none 0 0, .slice none 0 0]) (by simp [results, Tryd.results18, go_sem, r0, r1, r2, r3, r4]) rfl ?_
        rw [hRe.out]
        exact ⟨_, _, _, _, _, _, _, _, _, rfl, (fun t q e => by cases e), RSt.put5 (R := (.no 17 p : Rd Tr)) ⟨by decide, _, hS2⟩ (by omega) _ _ _ _ _, hF4.put5 (.inr (Nat.le_refl _)) _ _ _ _ _⟩
      · have hRe : Hid (R = listR val l (l.length + 1) (p + 1) []) := by rw [Hid, ← hR.out, hdeep, decide_eq_false h64]; simp
        have hge : decide ((64 : Int) ≤ (d : Int)) = false := by simp; omega
        have hn := hid_e (hlist.out (by omega) (p + 1) w1 (hB.out.keepR hF2) hS m3)
        go_wp2_with fail
        go_fit hn.out
        clear hn
        rintro e w2 ⟨k2, x2, s2, an2, ln2, cn2, ai2, li2, ci2, rfl, hsn, hS2, hF3⟩
        have n2 := (hF3.block _ (Array.getElem?_eq_some_iff.1 n1).1 (by omega)).trans n1
        have hF4 := hF2.trans hF3
        clear hF3 n1 hF2 hS
        obtain ⟨v0, v1, v2, v3, v4, vf⟩ := row_cells n2
        have vf0 := vf 0; have vf1 := vf 1; have vf2 := vf 2; have vf3 := vf 3; have vf4 := vf 4
        clear vf
        go_wp2_with fail
        have hr5 := put5_cells n2 (.int .i64 k2) (.int .i64 x2) (.string s2) (.slice an2 ln2 cn2) (.slice ai2 li2 ci2)
        have r0 := hr5 0; have r1 := hr5 1; have r2 := hr5 2; have r3 := hr5 3; have r4 := hr5 4
        clear hr5
        refine bodyPost_ret (v := .agg #[.int .i64 k2, .int .i64 x2, .string s2, .slice an2 ln2 cn2, .slice ai2 li2 ci2]) (by simp [results, Tryd.results18, go_sem, r0, r1, r2, r3, r4]) rfl ?_
        rw [hRe.out]
        exact ⟨_, _, _, _, _, _, _, _, _, rfl, (fun t q e => seen_put (hsn t q e) (by have := hws.out; omega) _ _ _ _ _), RSt.put5 hS2 (by omega) _ _ _ _ _, hF4.put5 (.inr (Nat.le_refl _)) _ _ _ _ _⟩
    have h64 := hid_e hb
    clear hb
    have hRe : Hid (R = .no 30 p) := by rw [Hid, ← hR.out]; simp [h5.out, h16.out, h32.out, h48.out, h64.out, h80.out, h81.out]
    have k5 := byte_ne h5.out
    have k16 := byte_ne h16.out
    have k32 := byte_ne h32.out
    have k48 := byte_ne h48.out
    have k64 := byte_ne h64.out
    have k80 := byte_ne h80.out
    have k81 := byte_ne h81.out
    obtain ⟨z, hz⟩ : ∃ z, (b.toNat : Int) = z := ⟨_, rfl⟩
    rw [hz]
    have j5 : (z == 5) = false := by rw [← hz]; exact k5
    have j16 : (z == 16) = false := by rw [← hz]; exact k16
    have j32 : (z == 32) = false := by rw [← hz]; exact k32
    have j80 : (z == 80) = false := by rw [← hz]; exact k80
    have j81 : (z == 81) = false := by rw [← hz]; exact k81
    have j48 : (z != 48) = true := by rw [← hz]; simpa using k48
    have j64 : (z != 64) = true := by rw [← hz]; simpa using k64
    clear hz k5 h5 k16 h16 k32 h32 k48 h48 k64 h64 k80 h80 k81 h81
    have hfl := hid_e (fail_code r a c l.length (p + 1) p 30 w1 hS)
    go_wp2_with fail
    go_fit hfl.out
    rintro e w2 ⟨rfl, hS2, hF3⟩
    have n2 := (hF3.block _ (Array.getElem?_eq_some_iff.1 n1).1 (by omega)).trans n1
    have hF4 := hF2.trans hF3
    clear hF3 n1 hF2 hS
    obtain ⟨v0, v1, v2, v3, v4, vf⟩ := row_cells n2
    have vf0 := vf 0; have vf1 := vf 1; have vf2 := vf 2; have vf3 := vf 3; have vf4 := vf 4
    clear vf
    go_wp2_with fail
    have hr5 := put5_cells n2 (.int .i64 0) (.int .i64 0) (.string ⟨#[]⟩) (.slice none 0 0) (.slice none 0 0)
    have r0 := hr5 0; have r1 := hr5 1; have r2 := hr5 2; have r3 := hr5 3; have r4 := hr5 4
    clear hr5
    refine bodyPost_ret (v := .agg #[.int .i64 0, .int .i64 0, .string ⟨#[]⟩, .slice none 0 0, .slice none 0 0]) (by simp [results, Tryd.results18, go_sem, r0, r1, r2, r3, r4]) rfl ?_
    rw [hRe.out]
    exact ⟨_, _, _, _, _, _, _, _, _, rfl, (fun t q e => by cases e), RSt.put5 (R := (.no 30 p : Rd Tr)) ⟨by decide, _, hS2⟩ (by omega) _ _ _ _ _, hF4.put5 (.inr (Nat.le_refl _)) _ _ _ _ _⟩
end Go.Proofs.YtjmneiepcbpdpaaDoor
/-! The document's reader of lists and objects: what lies in memory. -/
namespace Go.Proofs.YtjmneiepcbpdpaaDoor
open Go Go.RowKit

/-- Lists under way: the box tells nm and it; N and I are as far as they have come. -/
structure QM (w : World) (r : Nat) (k : Int) (nm it : Value) (N I : Value) (nN : Nat) (sN : List Value) (nI : Nat) (xI : List Value) (its : List Tr) (xs : List Value) (W : World) : Prop where
  rl : r < w.heap.size
  fr : Fr (· = r) w W
  res : W.heap[w.heap.size]? = some (.cells #[.int .i64 0, .int .i64 0, .string ⟨#[]⟩, .slice none 0 0, .slice none 0 0] 25 (0, 0))
  box : W.heap[w.heap.size + 1]? = some (.cells #[.int .i64 k, .int .i64 0, .string ⟨#[]⟩, nm, it] 25 (0, 0))
  names : W.ownsRow (w.heap.size + 2) 9 1 N nN sN
  items : W.ownsRow (w.heap.size + 2) 25 5 I nI xI
  apart : ∀ j, N.ownBlock = some j → I.ownBlock ≠ some j
  seen : ItsSeen w (fun j => N.ownBlock = some j ∨ I.ownBlock = some j) its xs W
section
variable {w W : World} {r : Nat} {k : Int} {nm it : Value} {N I : Value} {nN : Nat} {sN : List Value} {nI : Nat} {xI : List Value} {its : List Tr} {xs : List Value}
theorem QM.size (h : QM w r k nm it N I nN sN nI xI its xs W) : w.heap.size + 2 ≤ W.heap.size := (Array.getElem?_eq_some_iff.1 h.box).1
theorem QM.blind (h : QM w r k nm it N I nN sN nI xI its xs W) : QM w r k nm it N I nN sN nI xI [] [] W := ⟨h.rl, h.fr, h.res, h.box, h.names, h.items, h.apart, fun W' _ => by unfold ItemsRep; rfl⟩
theorem QM.next {W' : World} (h : QM w r k nm it N I nN sN nI xI its xs W) (hF : Fr (· = r) W W') : QM w r k nm it N I nN sN nI xI its xs W' := by
  have hs := h.size
  have hr := h.rl
  exact ⟨h.rl, h.fr.trans hF, (hF.block _ (by omega) (by omega)).trans h.res, (hF.block _ (by omega) (by omega)).trans h.box, ownsRow_keep h.names (fun j hj => hF.block j (ownsRow_ge h.names hj).2 (by have := (ownsRow_ge h.names hj).1; omega)), ownsRow_keep h.items (fun j hj => hF.block j (ownsRow_ge h.items hj).2 (by have := (ownsRow_ge h.items hj).1; omega)), h.apart, h.seen.next hr hF⟩
theorem QM.alloc (h : QM w r k nm it N I nN sN nI xI its xs W) (o : Obj) : QM w r k nm it N I nN sN nI xI its xs (W.alloc o) := h.next ((Fr.refl _ W).alloc o)
theorem QM.drew (h : QM w r k nm it N I nN sN nI xI its xs W) : QM w r k nm it N I nN sN nI xI its xs W.drew := h.next ((Fr.refl _ W).drew)
/-- One more was read. -/
theorem QM.read {W' : World} {u : Tr} {cs : List Value} (h : QM w r k nm it N I nN sN nI xI its xs W) (hF : Fr (· = r) W W') (hu : Seen W' (fun j => W.heap.size ≤ j) u cs) (hcs : cs.length = 5) : QM w r k nm it N I nN sN nI xI (its ++ [u]) (xs ++ cs) W' := by
  have h' := h.next hF
  have hs := h.size
  refine ⟨h'.rl, h'.fr, h'.res, h'.box, h'.names, h'.items, h'.apart, fun W2 a => ?_⟩
  refine ItemsRep.snoc hcs (hu W2 ⟨a.1, fun p v hp hv => a.2 p v ⟨by omega, fun e => ?_⟩ hv⟩) (h'.seen W2 a)
  rcases e with e | e
  · have := (ownsRow_ge h.names e).2; omega
  · have := (ownsRow_ge h.items e).2; omega
theorem QM.growN {W' : World} {g4 m4 c4 : Nat} {s4 : List Value} (h : QM w r k nm it N I nN sN nI xI its xs W) (hgrow : W.grownBy W' N.ownBlock) (hat : N.ownBlock = some g4 ∨ g4 = W.heap.size)
    (hown : W'.ownsRow (w.heap.size + 2) 9 1 (.slice (some ⟨g4, 0, none⟩) m4 c4) m4 s4) : QM w r k nm it (.slice (some ⟨g4, 0, none⟩) m4 c4) I m4 s4 nI xI its xs W' := by
  have own_lt : ∀ j, N.ownBlock = some j → w.heap.size + 2 ≤ j ∧ j < W.heap.size := fun j hj => ownsRow_ge h.names hj
  have own_li : ∀ j, I.ownBlock = some j → w.heap.size + 2 ≤ j ∧ j < W.heap.size := fun j hj => ownsRow_ge h.items hj
  have far : ∀ j, j < W.heap.size → N.ownBlock ≠ some j → W'.heap[j]? = W.heap[j]? := fun j hj hne => hgrow.block j hj (fun e => hne e.symm)
  have hsz := hgrow.size
  have hws := h.size
  have old : ∀ j, j < w.heap.size + 2 → W'.heap[j]? = W.heap[j]? := fun j hj => far j (by omega) (fun e => by have := own_lt j e; omega)
  have g4i : I.ownBlock ≠ some g4 := fun e => by
    rcases hat with h' | h'
    · exact h.apart g4 h' e
    · have := own_li g4 e; omega
  have gone : ∀ j, j < W.heap.size → N.ownBlock ≠ some j → (Value.slice (some ⟨g4, 0, none⟩) m4 c4).ownBlock ≠ some j := fun j hj hne e => by
    have e' : g4 = j := by simpa [Value.ownBlock] using e
    rcases hat with h' | h'
    · exact hne (by rw [h', e'])
    · omega
  refine ⟨h.rl, h.fr.grown hgrow (fun g hg => .inr (by have := own_lt g hg; omega)), (old _ (by omega)).trans h.res, (old _ (by omega)).trans h.box, hown, ownsRow_keep h.items (fun j hj => far j (own_li j hj).2 (fun e => h.apart j e hj)), fun j hj e => ?_, fun W2 a => ?_⟩
  · have e' : g4 = j := by simpa [Value.ownBlock] using hj
    exact g4i (by rw [e']; exact e)
  · refine h.seen W2 ⟨Nat.le_trans hsz a.1, fun p v hp hv => ?_⟩
    have hl := lt_of_cell hv
    have h1 : N.ownBlock ≠ some p.block := fun e => hp.2 (.inl e)
    refine a.2 p v ⟨hp.1, fun e => ?_⟩ ((World.cell?_of_block (w := W) (a := p) (far _ hl h1)).trans hv)
    rcases e with e | e
    · exact gone _ hl h1 e
    · exact hp.2 (.inr e)
theorem QM.growI {W' : World} {g4 m4 c4 : Nat} {s4 : List Value} (h : QM w r k nm it N I nN sN nI xI its xs W) (hgrow : W.grownBy W' I.ownBlock) (hat : I.ownBlock = some g4 ∨ g4 = W.heap.size)
    (hown : W'.ownsRow (w.heap.size + 2) 25 5 (.slice (some ⟨g4, 0, none⟩) m4 c4) m4 s4) : QM w r k nm it N (.slice (some ⟨g4, 0, none⟩) m4 c4) nN sN m4 s4 its xs W' := by
  have own_lt : ∀ j, I.ownBlock = some j → w.heap.size + 2 ≤ j ∧ j < W.heap.size := fun j hj => ownsRow_ge h.items hj
  have own_li : ∀ j, N.ownBlock = some j → w.heap.size + 2 ≤ j ∧ j < W.heap.size := fun j hj => ownsRow_ge h.names hj
  have far : ∀ j, j < W.heap.size → I.ownBlock ≠ some j → W'.heap[j]? = W.heap[j]? := fun j hj hne => hgrow.block j hj (fun e => hne e.symm)
  have hsz := hgrow.size
  have hws := h.size
  have old : ∀ j, j < w.heap.size + 2 → W'.heap[j]? = W.heap[j]? := fun j hj => far j (by omega) (fun e => by have := own_lt j e; omega)
  have g4i : N.ownBlock ≠ some g4 := fun e => by
    rcases hat with h' | h'
    · exact h.apart g4 e h'
    · have := own_li g4 e; omega
  have gone : ∀ j, j < W.heap.size → I.ownBlock ≠ some j → (Value.slice (some ⟨g4, 0, none⟩) m4 c4).ownBlock ≠ some j := fun j hj hne e => by
    have e' : g4 = j := by simpa [Value.ownBlock] using e
    rcases hat with h' | h'
    · exact hne (by rw [h', e'])
    · omega
  refine ⟨h.rl, h.fr.grown hgrow (fun g hg => .inr (by have := own_lt g hg; omega)), (old _ (by omega)).trans h.res, (old _ (by omega)).trans h.box, ownsRow_keep h.names (fun j hj => far j (own_li j hj).2 (fun e => h.apart j hj e)), hown, fun j hj e => ?_, fun W2 a => ?_⟩
  · have e' : g4 = j := by simpa [Value.ownBlock] using e
    exact g4i (by rw [e']; exact hj)
  · refine h.seen W2 ⟨Nat.le_trans hsz a.1, fun p v hp hv => ?_⟩
    have hl := lt_of_cell hv
    have h1 : I.ownBlock ≠ some p.block := fun e => hp.2 (.inr e)
    refine a.2 p v ⟨hp.1, fun e => ?_⟩ ((World.cell?_of_block (w := W) (a := p) (far _ hl h1)).trans hv)
    rcases e with e | e
    · exact hp.2 (.inl e)
    · exact gone _ hl h1 e
/-- The box is told anew. -/
theorem QM.told {Z : World} {nm' it' : Value} (h : QM w r k nm it N I nN sN nI xI its xs W) (hsz : Z.heap.size = W.heap.size) (hfr : Fr (· = r) w Z) (far : ∀ j, j ≠ w.heap.size + 1 → Z.heap[j]? = W.heap[j]?)
    (hbox : Z.heap[w.heap.size + 1]? = some (.cells #[.int .i64 k, .int .i64 0, .string ⟨#[]⟩, nm', it'] 25 (0, 0))) : QM w r k nm' it' N I nN sN nI xI its xs Z :=
  ⟨h.rl, hfr, (far _ (by omega)).trans h.res, hbox, ownsRow_keep h.names (fun j hj => far j (by have := (ownsRow_ge h.names hj).1; omega)), ownsRow_keep h.items (fun j hj => far j (by have := (ownsRow_ge h.items hj).1; omega)), h.apart, fun W2 a => h.seen W2 ⟨by have := a.1; omega, fun p v hp hv => a.2 p v hp ((World.cell?_of_block (w := W) (a := p) (far _ (by omega))).trans hv)⟩⟩
theorem QM.setN (h : QM w r k nm it N I nN sN nI xI its xs W) (v : Value) : QM w r k v it N I nN sN nI xI its xs (W.setCell ⟨w.heap.size + 1, 3, none⟩ v) :=
  h.told (by simp [World.setCell]) (h.fr.set _ _ (.inr (by show w.heap.size ≤ w.heap.size + 1; omega))) (fun j hj => Below.heap_setCell _ _ _ _ hj) (by simp [World.setCell, Array.getElem?_modify, h.box])
theorem QM.setI (h : QM w r k nm it N I nN sN nI xI its xs W) (v : Value) : QM w r k nm v N I nN sN nI xI its xs (W.setCell ⟨w.heap.size + 1, 4, none⟩ v) :=
  h.told (by simp [World.setCell]) (h.fr.set _ _ (.inr (by show w.heap.size ≤ w.heap.size + 1; omega))) (fun j hj => Below.heap_setCell _ _ _ _ hj) (by simp [World.setCell, Array.getElem?_modify, h.box])
end
/-- The end. -/
theorem qm_end {w wr : World} {r : Nat} {k : Int} {ns : List ByteArray} {its : List Tr} {xs : List Value} {an : Option Addr} {cn : Nat} {ao : Option Addr} {ci : Nat} (h : QM w r k (.slice an ns.length cn) (.slice ao its.length ci) (.slice an ns.length cn) (.slice ao its.length ci) ns.length (strs ns) its.length xs its xs wr) (c0 c1 c2 c3 c4 : Value) :
    Seen (put5 wr w.heap.size c0 c1 c2 c3 c4) (fun j => w.heap.size ≤ j) (.node k 0 ⟨#[]⟩ ns its) (five k 0 ⟨#[]⟩ (.slice an ns.length cn) (.slice ao its.length ci)) := by
  intro W' hW
  have hAll : ∀ p v, w.heap.size < p.block → wr.cell? p = some v → W'.cell? p = some v := fun p v hp hv =>
    hW.2 p v (by omega) ((World.cell?_of_block (w := wr) (a := p) (put5_far _ _ _ _ _ (by omega))).trans hv)
  have hsz : wr.heap.size ≤ W'.heap.size := by have := hW.1; rw [put5_size] at this; exact this
  have hI := h.seen W' ⟨hsz, fun p v hp hv => hAll p v (by omega) hv⟩
  have hR : Reads W' (.slice an ns.length cn) ns := by
    rcases h.names.2 with ⟨hv, h0⟩ | ⟨gi, ci', cur, hv, hg, hh, hc, hm, rr⟩
    · have e := List.eq_nil_of_length_eq_zero h0
      subst e
      exact ⟨an, cn, rfl, ⟨Nat.zero_le _, by injection hv with _ _ h3; omega⟩, .inl rfl⟩
    · cases hv
      exact own_reads (S := fun j => w.heap.size < j) h.names (by show w.heap.size < gi; omega) ⟨hsz, fun p v hp hv => hAll p v hp hv⟩
  unfold VRep
  rcases h.items.2 with ⟨hv, h0⟩ | ⟨gi, ci', cur, hv, hg, hh, hc, hm, rr⟩
  · have e := List.eq_nil_of_length_eq_zero h0
    subst e
    exact ⟨_, ao, ci, rfl, hR, ⟨Nat.zero_le _, by injection hv with _ _ h3; omega⟩, .inl rfl⟩
  · cases hv
    refine ⟨_, _, ci, rfl, hR, ⟨hc, by unfold maxLen at hm; omega⟩, .inr ⟨gi, 0, rfl, Nat.lt_of_lt_of_le (Array.getElem?_eq_some_iff.1 hh).1 hsz, items_rep hI (fun j u hj => hAll ⟨gi, j, none⟩ u (by show w.heap.size < gi; omega) (row_cell h.items j u hj))⟩⟩
end Go.Proofs.YtjmneiepcbpdpaaDoor
