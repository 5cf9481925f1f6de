import Derived.Test.YteghmgjdibdnlaaGreatDoorW2
namespace Go.Proofs.YteghmgjdibdnlaaGreatDoor
open Go Go.RowKit

/-- Where the digits end. -/
def dgTo (T : ByteArray) : Nat → Nat → Nat
  | 0, n => n
  | f + 1, n => if n < T.size ∧ digit (byteAt T n) = true then dgTo T f (n + 1) else n
def dg (T : ByteArray) (n : Nat) : Nat := dgTo T (T.size - n) n
theorem dgTo_eq (T : ByteArray) (f n k : Nat) (hf : k ≤ n + f) (hnk : n ≤ k) (hb : ∀ i, n ≤ i → i < k → i < T.size ∧ digit (byteAt T i) = true) (he : ¬ (k < T.size ∧ digit (byteAt T k) = true)) : dgTo T f n = k := by
  induction f generalizing n with
  | zero => simp [dgTo]; omega
  | succ f ih =>
    unfold dgTo
    by_cases h : n = k
    · subst h; rw [if_neg he]
    · rw [if_pos (hb n (Nat.le_refl _) (by omega))]
      exact ih (n + 1) (by omega) (by omega) (fun i h1 h2 => hb i (by omega) h2)
theorem dg_eq (T : ByteArray) (n k : Nat) (hnk : n ≤ k) (hk : k ≤ T.size) (hb : ∀ i, n ≤ i → i < k → digit (byteAt T i) = true) (he : k = T.size ∨ digit (byteAt T k) = false) : dg T n = k :=
  dgTo_eq T _ n k (by omega) hnk (fun i h1 h2 => ⟨by omega, hb i h1 h2⟩) (by rcases he with h | h <;> simp [h])

/-- Where a number's digits end; they begin at n. -/
def numEnd (T : ByteArray) (n : Nat) : Nat := if byteAt T n = 48 then n + 1 else dg T (n + 1)

theorem digits_short (b : Nat) (T : ByteArray) (w : World) (hA : At b T T.size w) :
    Calls Tryz.prog 84 #[.pointer (some ⟨b, 0, none⟩)] w fun e w' => e = .panicked (faultC 3 T.size) ∧ w' = w.drew := by
  have h0 := hA.c0
  have h1 := hA.c1
  go_enter Tryz.func84, Tryz.ntmps84
  go_wp2_with (go_at_call 67; refine (here_short b T _ h0 h1).mono ?_; rintro e w' ⟨rfl, rfl⟩)
  exact ⟨rfl, rfl, rfl⟩
theorem digits_bad (b n : Nat) (T : ByteArray) (w : World) (hA : At b T n w) (hn : n < T.size) (hd : digit (byteAt T n) = false) :
    Calls Tryz.prog 84 #[.pointer (some ⟨b, 0, none⟩)] w fun e w' => e = .panicked (faultC 10 n) ∧ w' = w.drew.drew := by
  have h0 := hA.c0
  have h1 := hA.c1
  go_enter Tryz.func84, Tryz.ntmps84
  go_wp2_with (first | (go_at_call 67; refine (here_ok b n T _ h0 h1 hn).mono ?_; rintro e w' ⟨rfl, rfl⟩) | (go_at_call 69; refine (isDigit_any _ _).mono ?_; rintro e w' ⟨rfl, rfl⟩))
  exact ⟨rfl, rfl, rfl⟩

set_option maxHeartbeats 1000000 in
theorem digits_ok (b n : Nat) (T : ByteArray) (w : World) (hA : At b T n w) (hn : n < T.size) (hT : T.size ≤ 65536) (hd : digit (byteAt T n) = true) :
    Calls Tryz.prog 84 #[.pointer (some ⟨b, 0, none⟩)] w fun e w' => e = .returned (.tuple #[]) ∧ At b T (numEnd T n) w' ∧ Kp b w w' ∧ w'.heap.size = w.heap.size ∧ n < numEnd T n ∧ numEnd T n ≤ T.size := by
  have h0 := hA.c0
  have h1 := hA.c1
  have hf := hA.fz 1
  have hA1 : At b T (n + 1) (w.setCell ⟨b, 1, none⟩ (.int .i64 ((n : Int) + 1))) := hA.set _ (n + 1) (by omega)
  have hK1 : Kp b w (w.setCell ⟨b, 1, none⟩ (.int .i64 ((n : Int) + 1))) := (Kp.refl _ _).setCell _ _
  have hs1 : (w.setCell ⟨b, 1, none⟩ (.int .i64 ((n : Int) + 1))).heap.size = w.heap.size := by simp [World.setCell]
  go_enter Tryz.func84, Tryz.ntmps84
  go_wp2_with (first | (go_at_call 67; refine (here_ok b n T _ h0 h1 hn).mono ?_; rintro e w' ⟨rfl, rfl⟩) | (go_at_call 69; refine (isDigit_any _ _).mono ?_; rintro e w' ⟨rfl, rfl⟩))
  clear h0 h1 hf
  go_loopw [] (fun wr => ∃ k : Nat, n + 1 ≤ k ∧ k ≤ T.size ∧ At b T k wr ∧ Kp b w wr ∧ wr.heap.size = w.heap.size ∧ Hid (∀ i, n + 1 ≤ i → i < k → digit (byteAt T i) = true) ∧ Hid (byteAt T n = 48 → k = n + 1)) (fun wr => T.size - (intOf ((wr.cell? ⟨b, 1, none⟩).getD (.int .i64 0))).toNat)
  case atStart => exact ⟨n + 1, Nat.le_refl _, hn, hA1.drew.drew, hK1.drew.drew, hs1, fun i h1 h2 => by omega, fun _ => rfl⟩
  case round =>
    obtain ⟨k, hnk, hk, hAk, hK, hs, hB, hZ⟩ := hrel
    have h0 := hAk.c0
    have h1 := hAk.c1
    have hf := hAk.fz 1
    clear hA1 hK1 hs1
    by_cases hz : byteAt T n = 48
    · have hc : (((byteAt T n).toNat : Int) != 48) = false := by rw [hz]; rfl
      have HE : Hid (numEnd T n = k) := by unfold Hid numEnd; rw [if_pos hz, hZ.out hz]
      clear hz
      go_wp2
      go_quiet ((go_at_call 69; exact Calls.quiet_of_same (isDigit_any _ _)))
      go_wp2
      go_end0
      rw [HE.out]
      exact ⟨rfl, hAk.drewN _, hK.drewN _, hs, by omega, hk⟩
    · have hc : (((byteAt T n).toNat : Int) != 48) = true := by
        have := u8_beq (byteAt T n) 48
        have h48 : ((48 : UInt8).toNat : Int) = 48 := rfl
        rw [h48] at this
        simp only [bne, this]; simpa using hz
      have HN : Hid (numEnd T n = dg T (n + 1)) := by unfold Hid numEnd; rw [if_neg hz]
      clear hz hZ
      by_cases hlt : k < T.size
      · have hd1 : decide ((k : Int) < (T.size : Int)) = true := by simp; omega
        have he := byteAt_eq hlt
        by_cases hb : digit (byteAt T k) = true
        · go_wp2
          go_quiet ((go_at_call 69; exact Calls.quiet_of_same (isDigit_any _ _)))
          go_wp2
          go_roundw
          case rel =>
            exact ⟨k + 1, by omega, by omega, ((hAk.drewN _).set _ (k + 1) (by omega)), (hK.drewN _).setCell _ _, by simpa [World.setCell] using hs, fun i h1 h2 => by
              by_cases e : i = k
              · subst e; exact hb
              · exact hB.out i h1 (by omega), fun e => by rw [e] at hc; exact absurd hc (by decide)⟩
          case measure =>
            rw [((hAk.drewN nq).set _ (k + 1) (by omega)).c1, h1]
            simp [intOf]; omega
        · have hb' : digit (byteAt T k) = false := by simpa using hb
          clear hb
          go_wp2
          go_quiet ((go_at_call 69; exact Calls.quiet_of_same (isDigit_any _ _)))
          go_wp2
          have hs' := dg_eq T (n + 1) k hnk hk hB.out (Or.inr hb')
          go_end0
          rw [HN.out, hs']
          exact ⟨rfl, hAk.drewN _, hK.drewN _, hs, by omega, hk⟩
      · have hd1 : decide ((k : Int) < (T.size : Int)) = false := by simp; omega
        go_wp2
        go_quiet ((go_at_call 69; exact Calls.quiet_of_same (isDigit_any _ _)))
        go_wp2
        have hs' := dg_eq T (n + 1) k hnk hk hB.out (Or.inl (by omega))
        go_end0
        rw [HN.out, hs']
        exact ⟨rfl, hAk.drewN _, hK.drewN _, hs, by omega, hk⟩

/-- What a reading comes to: a thing and the place behind it, or a fault and its place. -/
inductive Res (α : Type) where
  | ok (x : α) (n : Nat)
  | bad (e p : Nat)
/-- A word, byte by byte. -/
def litR (T : ByteArray) : List UInt8 → Nat → Res Unit
  | [], n => .ok () n
  | c :: cs, n => if n < T.size then (if byteAt T n = c then litR T cs (n + 1) else .bad 10 n) else .bad 3 T.size
theorem litR_cons (T : ByteArray) (c : UInt8) (cs : List UInt8) (n : Nat) : litR T (c :: cs) n = if n < T.size then (if byteAt T n = c then litR T cs (n + 1) else .bad 10 n) else .bad 3 T.size := rfl
theorem heap_alloc_new (w : World) (o : Obj) : (w.alloc o).heap[w.heap.size]? = some o := by
  show (w.heap.push o)[w.heap.size]? = _
  simp
theorem cell_of {w : World} {g : Nat} {cs : Array Value} {t : TypeId} {f : Nat × Nat} (h : w.heap[g]? = some (.cells cs t f)) (o : Nat) : w.cell? ⟨g, o, none⟩ = cs[o]? := by
  simp [World.cell?, h]
theorem frozen_of {w : World} {g : Nat} {cs : Array Value} {t : TypeId} (h : w.heap[g]? = some (.cells cs t (0, 0))) (o : Nat) : w.frozen? ⟨g, o, none⟩ = false := by
  simp [World.frozen?, h]
def nilS : Value := .slice none 0 0
/-- A Value's cells. -/
def vv (kind x : Int) (s : ByteArray) (names items : Value) : Value := .agg #[.int .i64 kind, .int .i64 x, .string s, names, items]
def noS : ByteArray := { data := #[] }
theorem drop_cons (W : ByteArray) (k : Nat) (h : k < W.size) : W.data.toList.drop k = W[k] :: W.data.toList.drop (k + 1) := by
  rw [List.drop_eq_getElem_cons (by simpa using h)]; rfl

/-- What a call that reads comes to, where it answers a Value of one kind and nothing in it. -/
def LitPost (b : Nat) (T : ByteArray) (n : Nat) (kind : Int) (w : World) (e : Ending) (w' : World) : Res Unit → Prop
  | .ok _ n' => e = .returned (vv kind 0 noS nilS nilS) ∧ At b T n' w' ∧ Kp b w w' ∧ n ≤ n' ∧ n' ≤ T.size
  | .bad er p => e = .panicked (faultC er p) ∧ Kp b w w'

set_option maxHeartbeats 1000000 in
theorem literal_any (b n : Nat) (T W : ByteArray) (kind : Int) (w : World) (hA : At b T n w) (hn : n ≤ T.size) (hT : T.size ≤ 65536) (hW : W.size ≤ 100) :
    Calls Tryz.prog 68 #[.pointer (some ⟨b, 0, none⟩), .string W, .int .i64 kind] w fun e w' => LitPost b T n kind w e w' (litR T W.data.toList n) := by
  have hbs := hA.lt
  go_enter Tryz.func68, Tryz.ntmps68
  go_wp2
  go_loopw [10] (fun i wr => ∃ k m : Nat, k ≤ W.size ∧ i = .int .i64 k ∧ n ≤ m ∧ m ≤ T.size ∧ At b T m wr ∧ Kp b w wr ∧ wr.heap[w.heap.size]? = some (.cells #[.int .i64 0, .int .i64 0, .string noS, nilS, nilS] 25 (0, 0)) ∧ Hid (litR T W.data.toList n = litR T (W.data.toList.drop k) m)) (fun i wr => W.size - (intOf i).toNat)
  case atStart => exact ⟨0, n, Nat.zero_le _, rfl, Nat.le_refl _, hn, hA.alloc _, (Kp.refl _ _).alloc _, heap_alloc_new _ _, rfl⟩
  case round =>
    obtain ⟨k, m, hk, rfl, hnm, hm, hAk, hK, hres, HL⟩ := hrel
    have h0 := hAk.c0
    have h1 := hAk.c1
    have hf := hAk.fz 1
    by_cases hlt : k < W.size
    · have hdc := drop_cons W k hlt
      by_cases hmT : m < T.size
      · by_cases hc : byteAt T m = W[k]
        · have HL' : Hid (litR T W.data.toList n = litR T (W.data.toList.drop (k + 1)) (m + 1)) := by
            unfold Hid; rw [HL.out, hdc, litR_cons, if_pos hmT, if_pos hc]
          have HC : Hid (byteAt T m = W[k]) := hc
          clear hc hdc HL
          go_wp2_with (go_at_call 83; refine (pass_ok b m T W[k] _ h0 h1 hf hmT hT HC.out).mono ?_; rintro e w' ⟨rfl, rfl⟩)
          go_roundw
          case rel => exact ⟨k + 1, m + 1, by omega, by go_num, by omega, by omega, (hAk.set _ (m + 1) (by omega)).drew.drew, (hK.setCell _ _).drew.drew, (Below.heap_setCell _ _ _ _ (by show w.heap.size ≠ b; omega)).trans hres, HL'⟩
          case measure => simp [intOf]; omega
        · have HL' : Hid (litR T W.data.toList n = .bad 10 m) := by
            unfold Hid; rw [HL.out, hdc, litR_cons, if_pos hmT, if_neg hc]
          have HC : Hid (byteAt T m ≠ W[k]) := hc
          clear hc hdc HL
          go_wp2_with (go_at_call 83; refine (pass_bad b m T W[k] _ h0 h1 hmT HC.out).mono ?_; rintro e w' ⟨rfl, rfl⟩)
          refine ⟨rfl, ?_⟩
          rw [HL'.out]
          exact ⟨rfl, hK.drew.drew⟩
      · have hmE : m = T.size := by omega
        have HL' : Hid (litR T W.data.toList n = .bad 3 T.size) := by
          unfold Hid; rw [HL.out, hdc, litR_cons, if_neg hmT]
        subst hmE
        clear hdc HL
        go_wp2_with (go_at_call 83; refine (pass_short b T W[k] _ h0 h1).mono ?_; rintro e w' ⟨rfl, rfl⟩)
        refine ⟨rfl, ?_⟩
        rw [HL'.out]
        exact ⟨rfl, hK.drew⟩
    · have hkE : k = W.size := by omega
      have HL' : Hid (litR T W.data.toList n = .ok () m) := by
        unfold Hid; rw [HL.out, hkE, List.drop_of_length_le (by simp)]; rfl
      clear HL
      have q0 : wr.cell? ⟨w.heap.size, 0, none⟩ = some (.int .i64 0) := cell_of hres 0
      have q1 : wr.cell? ⟨w.heap.size, 1, none⟩ = some (.int .i64 0) := cell_of hres 1
      have q2 : wr.cell? ⟨w.heap.size, 2, none⟩ = some (.string noS) := cell_of hres 2
      have q3 : wr.cell? ⟨w.heap.size, 3, none⟩ = some (.slice none 0 0) := cell_of hres 3
      have q4 : wr.cell? ⟨w.heap.size, 4, none⟩ = some (.slice none 0 0) := cell_of hres 4
      have qf := fun o => frozen_of hres o
      go_wp2
      refine bodyPost_ret (v := vv kind 0 noS nilS nilS) ?_ rfl ?_
      · simp [results, Tryz.results68, go_sem, q0, q1, q2, q3, q4, vv, nilS, noS]
      · rw [HL'.out]
        have hx : b ≠ w.heap.size := by omega
        exact ⟨rfl, ((((hAk.setOther hx _).setOther hx _).setOther hx _).setOther hx _).setOther hx _, ((((hK.setNew (Nat.le_refl _) _).setNew (Nat.le_refl _) _).setNew (Nat.le_refl _) _).setNew (Nat.le_refl _) _).setNew (Nat.le_refl _) _, hnm, hm⟩
end Go.Proofs.YteghmgjdibdnlaaGreatDoor
