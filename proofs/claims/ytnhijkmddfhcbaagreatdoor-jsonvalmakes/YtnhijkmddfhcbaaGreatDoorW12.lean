import Derived.Test.YtnhijkmddfhcbaaGreatDoorW11
import Derived.Lib.OthersKept
namespace Go.Proofs.YtnhijkmddfhcbaaGreatDoor
open Go Go.RowKit Go.Maps

/-- A text of ASCII, with no backslash. -/
def Asc (T : ByteArray) : Prop := ∀ i, i < T.size → (byteAt T i).toNat < 128 ∧ byteAt T i ≠ 92
def endsT (c : UInt8) : Bool := c == 34 || c < 32
/-- Where a text ends. -/
def teTo (T : ByteArray) : Nat → Nat → Nat
  | 0, n => n
  | f + 1, n => if n < T.size ∧ endsT (byteAt T n) = false then teTo T f (n + 1) else n
def te (T : ByteArray) (n : Nat) : Nat := teTo T (T.size - n) n
theorem teTo_eq (T : ByteArray) (f n k : Nat) (hf : k ≤ n + f) (hnk : n ≤ k) (hb : ∀ i, n ≤ i → i < k → i < T.size ∧ endsT (byteAt T i) = false) (he : ¬ (k < T.size ∧ endsT (byteAt T k) = false)) : teTo T f n = k := by
  induction f generalizing n with
  | zero => simp [teTo]; omega
  | succ f ih =>
    unfold teTo
    by_cases h : n = k
    · subst h; rw [if_neg he]
    · rw [if_pos (hb n (Nat.le_refl _) (by omega))]
      exact ih (n + 1) (by omega) (by omega) (fun i h1 h2 => hb i (by omega) h2)
theorem te_eq (T : ByteArray) (n k : Nat) (hnk : n ≤ k) (hk : k ≤ T.size) (hb : ∀ i, n ≤ i → i < k → endsT (byteAt T i) = false) (he : k = T.size ∨ endsT (byteAt T k) = true) : te T n = k :=
  teTo_eq T _ n k (by omega) hnk (fun i h1 h2 => ⟨by omega, hb i h1 h2⟩) (by rcases he with h | h <;> simp [h])
/-- The text whose first sign is at n. -/
def textA (T : ByteArray) (n : Nat) : Res ByteArray :=
  if te T (n + 1) < T.size then (if byteAt T (te T (n + 1)) = 34 then .ok (T.extract (n + 1) (te T (n + 1))) (te T (n + 1) + 1) else .bad 11 (te T (n + 1))) else .bad 3 T.size
/-- Up to its end. -/
def plainA (T : ByteArray) (n : Nat) : Res ByteArray :=
  if te T n < T.size then (if byteAt T (te T n) = 34 then .ok (T.extract n (te T n)) (te T n) else .bad 11 (te T n)) else .bad 3 T.size
def PPost (b : Nat) (T : ByteArray) (n : Nat) (w : World) (e : Ending) (w' : World) : Res ByteArray → Prop
  | .ok s m => e = .returned (.string s) ∧ At b T m w' ∧ Kp b w w' ∧ n ≤ m ∧ m < T.size ∧ byteAt T m = 34
  | .bad er p => e = .panicked (faultC er p) ∧ Kp b w w'
theorem ext_at (T : ByteArray) (n p : Nat) (h : p < (T.extract n T.size).size) (h' : n + p < T.size) : (T.extract n T.size)[p] = byteAt T (n + p) := by
  rw [← byteAt_eq h']
  simp [ByteArray.getElem_extract]
theorem kp_iter {b : Nat} {x w : World} (h : Kp b x w) {k : Nat} (hk : x.heap.size ≤ k) (s : ByteArray) (pos : Nat) : Kp b x (w.iterAt k s pos) :=
  ⟨h.os, h.tape, h.output, by rw [Lib.iterAt_size]; exact h.size, fun i hi hb => (Lib.iterAt_other w k i s pos (by omega)).trans (h.block i hi hb)⟩
theorem at_iter {b n : Nat} {T : ByteArray} {w : World} (h : At b T n w) {k : Nat} (hk : b ≠ k) (s : ByteArray) (pos : Nat) : At b T n (w.iterAt k s pos) := (Lib.iterAt_other w k b s pos hk).trans h
theorem u8_lt (c k : UInt8) : decide ((c.toNat : Int) < (k.toNat : Int)) = decide (c < k) := by
  rw [Bool.eq_iff_iff]; simp [UInt8.lt_iff_toNat_lt]

set_option maxHeartbeats 1000000 in
theorem plain_any (b n : Nat) (T : ByteArray) (hasc : Asc T) (w : World) (hA : At b T n w) (hn : n ≤ T.size) (hT : T.size ≤ 65536) :
    Calls Tryz.prog 60 #[.pointer (some ⟨b, 0, none⟩)] w fun e w' => PPost b T n w e w' (plainA T n) := by
  have h0 := hA.c0
  have h1 := hA.c1
  have hbl := hA.lt
  have i1 : (0 : Int) ≤ (n : Int) := by omega
  have i2 : (n : Int) ≤ (T.size : Int) := by omega
  have hss : (T.extract n T.size).size = T.size - n := by rw [ByteArray.size_extract]; omega
  have HSS : Hid ((T.extract n T.size).size = T.size - n) := hss
  clear hss
  go_enter Tryz.func60, Tryz.ntmps60
  go_wp2
  clear h0 h1
  go_loopw [] (fun wr => ∃ pos q : Nat, pos ≤ T.size - n ∧ At b T q wr ∧ Kp b w wr ∧ wr.heap[w.heap.size]? = some (.stringIter (T.extract n T.size) pos) ∧ Hid (∀ i, n ≤ i → i < n + pos → endsT (byteAt T i) = false)) (fun wr => T.size - wr.iterPos w.heap.size)
  case atStart =>
    refine ⟨0, n, Nat.zero_le _, hA.alloc _, (Kp.refl _ _).alloc _, ?_, fun i h1 h2 => by omega⟩
    exact heap_alloc_new w _
  case round =>
    obtain ⟨pos, q, hpos, hAq, hK, hit, HB⟩ := hrel
    have hne : b ≠ w.heap.size := by omega
    by_cases hp : n + pos < T.size
    · have hps : pos < (T.extract n T.size).size := by rw [HSS.out]; omega
      have he := ext_at T n pos hps hp
      have ha := hasc _ hp
      have hnx : ∀ ty, (Instr.next (.pointer (some ⟨w.heap.size, 0, none⟩)) true ty).run Tryz.prog wr = .ok (.tuple #[.bool true, .int .i64 pos, .int .i32 ((byteAt T (n + pos)).toNat : Int)]) (wr.iterAt w.heap.size (T.extract n T.size) (pos + 1)) := fun ty => by
        rw [Lib.run_next_ascii_at wr w.heap.size _ pos ty hit hps (by rw [he]; exact ha.1), he]
      have hA2 : At b T q (wr.iterAt w.heap.size (T.extract n T.size) (pos + 1)) := at_iter hAq hne _ _
      have hK2 : Kp b w (wr.iterAt w.heap.size (T.extract n T.size) (pos + 1)) := kp_iter hK (Nat.le_refl _) _ _
      have hit2 := Lib.iterAt_heap wr w.heap.size _ pos (pos + 1) hit
      have hitp : wr.iterPos w.heap.size = pos := by simp [World.iterPos, hit]
      have HIT : Hid (wr.iterPos w.heap.size = pos) := hitp
      have HIT2 : Hid ((wr.iterAt w.heap.size (T.extract n T.size) (pos + 1)).heap[w.heap.size]? = some (.stringIter (T.extract n T.size) (pos + 1))) := hit2
      clear hit hit2 he hitp
      generalize wr.iterAt w.heap.size (T.extract n T.size) (pos + 1) = wx at *
      have x0 := hA2.c0
      have x1 := hA2.c1
      have xf := hA2.fz 1
      have e92 : (((byteAt T (n + pos)).toNat : Int) == 92) = false := beq_ne _ 92 ha.2
      have j1 : (n : Int) + (pos : Int) ≤ 65536 := by omega
      have j2 : (n : Int) + (pos : Int) ≤ (T.size : Int) := by omega
      have j3 : (n : Int) ≤ (n : Int) + (pos : Int) := by omega
      have j4 : (0 : Int) ≤ (n : Int) + (pos : Int) := by omega
      have hA3 : At b T (n + pos) (wx.setCell ⟨b, 1, none⟩ (.int .i64 ((n : Int) + (pos : Int)))) := hA2.set _ (n + pos) (by omega)
      by_cases c34 : byteAt T (n + pos) = 34
      · have hte : te T n = n + pos := te_eq T n (n + pos) (by omega) (by omega) HB.out (Or.inr (by rw [c34]; rfl))
        have HR : Hid (plainA T n = .ok (T.extract n (n + pos)) (n + pos)) := by unfold Hid plainA; rw [hte, if_pos hp, if_pos c34]
        have e34 : (((byteAt T (n + pos)).toNat : Int) == 34) = true := by rw [c34]; rfl
        have HC : Hid (byteAt T (n + pos) = 34) := c34
        clear c34 hte
        go_wp2
        go_quiet (fail)
        go_wp2
        go_ret
        rw [HR.out]
        exact ⟨rfl, hA3.drewN _, (hK2.setCell _ _).drewN _, by omega, hp, HC.out⟩
      · have e34 : (((byteAt T (n + pos)).toNat : Int) == 34) = false := beq_ne _ 34 c34
        by_cases c32 : byteAt T (n + pos) < 32
        · have hte : te T n = n + pos := te_eq T n (n + pos) (by omega) (by omega) HB.out (Or.inr (by simp [endsT, c32]))
          have HR : Hid (plainA T n = .bad 11 (n + pos)) := by unfold Hid plainA; rw [hte, if_pos hp, if_neg c34]
          have l32 : ((byteAt T (n + pos)).toNat : Int) < 32 := by have := UInt8.lt_iff_toNat_lt.1 c32; have h32 : (32 : UInt8).toNat = 32 := rfl; omega
          clear c34 hte c32
          go_wp2
          refine ⟨rfl, ?_⟩
          rw [HR.out]
          exact ⟨rfl, hK2.setCell _ _⟩
        · have l32 : ¬ ((byteAt T (n + pos)).toNat : Int) < 32 := fun h => c32 (UInt8.lt_iff_toNat_lt.2 (by have h32 : (32 : UInt8).toNat = 32 := rfl; omega))
          have hend : endsT (byteAt T (n + pos)) = false := by simp [endsT, c34, c32]
          have l65 : (((byteAt T (n + pos)).toNat : Int) == 65533) = false := by have := ha.1; simp; omega
          clear c34 c32
          go_wp2
          go_roundw
          case rel =>
            refine ⟨pos + 1, n + pos, by omega, hA3, hK2.setCell _ _, ?_, fun i h1 h2 => ?_⟩
            · rw [Below.heap_setCell _ _ _ _ (Ne.symm hne)]; exact HIT2.out
            · by_cases e : i = n + pos
              · subst e; exact hend
              · exact HB.out i h1 (by omega)
          case measure =>
            have : (wx.setCell ⟨b, 1, none⟩ (.int .i64 ((n : Int) + (pos : Int)))).iterPos w.heap.size = pos + 1 := by
              unfold World.iterPos
              rw [Below.heap_setCell _ _ _ _ (Ne.symm hne), HIT2.out]
            rw [this, HIT.out]
            omega
    · have hpe : n + pos = T.size := by omega
      have hnx : ∀ ty, (Instr.next (.pointer (some ⟨w.heap.size, 0, none⟩)) true ty).run Tryz.prog wr = .ok (.tuple #[.bool false]) wr := fun ty => Lib.run_next_end_at wr w.heap.size _ pos ty hit (by rw [HSS.out]; omega)
      have hte : te T n = n + pos := te_eq T n (n + pos) (by omega) (by omega) HB.out (Or.inl hpe)
      have HR : Hid (plainA T n = .bad 3 T.size) := by unfold Hid plainA; rw [hte, if_neg hp]
      have x0 := hAq.c0
      clear hte hpe hit
      go_wp2
      refine ⟨rfl, ?_⟩
      rw [HR.out]
      exact ⟨rfl, hK⟩

theorem fresh_b {w : World} {B : Nat} (h : w.heap[B]? = some (.cells #[.pointer none, .slice none 0 0] 57 (0, 0))) : Lib.IsBuilderF 57 5 B B [] w :=
  Lib.IsBuilderF.of (Or.inl ⟨Nat.le_refl _, .slice none 0 0, h, World.ownsRow_nil _ _ _ _, by simp [Value.ownBlock]⟩)

/-- A builder stays one while no block from B on turns. -/
theorem builder_keep {w w' : World} {B c : Nat} {p : Value} {bs : List Value} (h : Lib.BuilderAtF 57 5 B c p bs w) (hk : ∀ k, B ≤ k → k < w.heap.size → w'.heap[k]? = w.heap[k]?) : Lib.BuilderAtF 57 5 B c p bs w' := by
  obtain ⟨hB, v, hb, ⟨h1, h2⟩, hne⟩ := h
  have hlt : ∀ g o, w.heap[g]? = some o → g < w.heap.size := fun g o hg => (Array.getElem?_eq_some_iff.1 hg).1
  refine ⟨hB, v, by rw [hk c hB (hlt _ _ hb)]; exact hb, ⟨h1, ?_⟩, hne⟩
  rcases h2 with h2 | ⟨g, cap, cur, fz, e1, e2, e3, r⟩
  · exact Or.inl h2
  · exact Or.inr ⟨g, cap, cur, fz, e1, e2, by rw [hk g e2 (hlt _ _ e3)]; exact e3, r⟩
def quoteFin : Res ByteArray → Res ByteArray
  | .ok s m => .ok s (m + 1)
  | .bad e p => .bad e p

set_option maxHeartbeats 1000000 in
theorem quoted_asc (T : ByteArray) (hasc : Asc T) (hT : T.size ≤ 65536) : QuotedOk T (textA T) := by
  intro b n w hA hE hb8 hn hc
  have h0 := hA.c0
  have h1 := hA.c1
  have hf := hA.fz 1
  have hbl := hA.lt
  have hA1 : At b T (n + 1) (w.setCell ⟨b, 1, none⟩ (.int .i64 ((n : Int) + 1))) := hA.set _ (n + 1) (by omega)
  have hK1 : Kp b w (w.setCell ⟨b, 1, none⟩ (.int .i64 ((n : Int) + 1))) := (Kp.refl _ _).setCell _ _
  have hs1 : (w.setCell ⟨b, 1, none⟩ (.int .i64 ((n : Int) + 1))).heap.size = w.heap.size := Kp.sz_set _ _ _
  have HT : Hid (textA T n = quoteFin (plainA T (n + 1))) := by
    unfold Hid textA plainA
    split
    · split <;> rfl
    · rfl
  have HS : Hid ((w.setCell ⟨b, 1, none⟩ (.int .i64 ((n : Int) + 1))).heap.size = w.heap.size) := hs1
  clear hs1
  clear hc hE
  go_enter Tryz.func45, Tryz.ntmps45
  go_wp2_with fail
  refine wp_loop_rounds 1 ?_
  rw [rounds_succ]
  go_wp2_with fail
  refine (plain_any b (n + 1) T hasc ((w.setCell ⟨b, 1, none⟩ (.int .i64 ((n : Int) + 1))).alloc (.cells #[.pointer none, .slice none 0 0] 57)) (hA1.alloc _) (by omega) hT).mono ?_
  intro e w2 hp
  cases hl : plainA T (n + 1) with
  | bad er p =>
    rw [hl] at hp
    obtain ⟨rfl, hK2⟩ := hp
    have HR : Hid (textA T n = .bad er p) := by unfold Hid; rw [HT.out, hl]; rfl
    clear hl HT
    go_wp2_with fail
    refine ⟨rfl, ?_⟩
    rw [HR.out]
    exact ⟨rfl, (hK1.alloc _).trans hK2⟩
  | ok s m =>
    rw [hl] at hp
    obtain ⟨rfl, hA2, hK2, hm1, hm2, hm3⟩ := hp
    have HR : Hid (textA T n = .ok s (m + 1)) := by unfold Hid; rw [HT.out, hl]; rfl
    have hss : s.size ≤ 65536 := by
      unfold plainA at hl
      split at hl
      · split at hl
        · simp only [Res.ok.injEq] at hl; rw [← hl.1, ByteArray.size_extract]; omega
        · cases hl
      · cases hl
    have hsz2 : w.heap.size + 1 ≤ w2.heap.size := by have := hK2.size; simp only [World.size_alloc, HS.out] at this; exact this
    have hB2 : w2.heap[w.heap.size]? = some (.cells #[.pointer none, .slice none 0 0] 57 (0, 0)) := by
      rw [hK2.block w.heap.size (by simp only [World.size_alloc, HS.out]; omega) (by omega)]
      exact alloc_at HS.out.symm
    have hI2 := fresh_b hB2
    have HC : Hid (byteAt T m = 34) := hm3
    clear hl HT hB2 hm3
    go_wp2_with fail
    refine (Tryz.wrString w.heap.size w.heap.size [] s w2 hI2 (by simp; omega) (by omega)).mono ?_
    rintro e w3 ⟨rfl, hb3, hbw, _⟩
    have hA3 : At b T m w3 := (hbw.block b hbl).trans hA2
    have x0 := hA3.c0
    have x1 := hA3.c1
    have xf := hA3.fz 1
    have he := byteAt_eq hm2
    have e34 : (((byteAt T m).toNat : Int) == 34) = true := by rw [HC.out]; rfl
    have hsz3 := hbw.size
    have HB3 : Hid (Lib.BuilderAtF 57 5 w.heap.size w.heap.size (.pointer (some ⟨w.heap.size, 0, none⟩)) ([] ++ Lib.strCells s) w3) := hb3
    clear hb3 hI2
    go_wp2_with fail
    go_quiet (fail)
    go_wp2_with fail
    have hI4 : Lib.IsBuilderF 57 5 w.heap.size w.heap.size (Lib.byteCells s.data.toList) ((w3.drewN nq).setCell ⟨b, 1, none⟩ (.int .i64 ((m : Int) + 1))) :=
      Or.inr (builder_keep HB3.out (fun k hk _ => Below.heap_setCell _ _ _ _ (by show k ≠ b; omega)))
    have hA4 : At b T (m + 1) ((w3.drewN nq).setCell ⟨b, 1, none⟩ (.int .i64 ((m : Int) + 1))) := (hA3.drewN nq).set _ (m + 1) (by omega)
    have hK4 : Kp b w ((w3.drewN nq).setCell ⟨b, 1, none⟩ (.int .i64 ((m : Int) + 1))) := by
      have k2 := (hK1.alloc (.cells #[.pointer none, .slice none 0 0] 57)).trans hK2
      have k3 : Kp b w w3 := ⟨hbw.os.trans k2.os, hbw.tape.trans k2.tape, hbw.output.trans k2.output, Nat.le_trans k2.size hsz3, fun k hk hkb => (hbw.block k hk).trans (k2.block k hk hkb)⟩
      exact (k3.drewN nq).setCell _ _
    refine (Tryz.Builder_String_any_k w.heap.size w.heap.size s.data.toList _ hI4 (by rw [Kp.sz_set]; show w.heap.size ≤ w3.heap.size; omega)).mono ?_
    rintro e w5 ⟨rfl, _, hb5, _⟩
    have hs : (⟨s.data.toList.toArray⟩ : ByteArray) = s := by simp
    have hA5 : At b T (m + 1) w5 := (hb5.block b hbl).trans hA4
    have hK5 : Kp b w w5 := ⟨hb5.os.trans hK4.os, hb5.tape.trans hK4.tape, hb5.output.trans hK4.output, Nat.le_trans hK4.size hb5.size, fun k hk hkb => (hb5.block k hk).trans (hK4.block k hk hkb)⟩
    rw [hs]
    clear hI4 hA4 hK4 HB3 hs
    go_wp2_with fail
    go_ret
    rw [HR.out]
    exact ⟨rfl, hss, hA5, hK5, by omega, by omega⟩
end Go.Proofs.YtnhijkmddfhcbaaGreatDoor
