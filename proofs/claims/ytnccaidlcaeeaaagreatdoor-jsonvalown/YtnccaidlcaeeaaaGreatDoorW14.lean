import Derived.Test.YtnccaidlcaeeaaaGreatDoorW11
import Derived.Lib.OthersKept
import Derived.Recover
import Derived.Laws.Pointers
namespace Go.Proofs.YtnccaidlcaeeaaaGreatDoor
open Go Go.RowKit Go.Maps

/-- A text of ASCII, with no backslash. -/
def Asc (T : ByteArray) : Prop := ∀ i, i < T.size → (byteAt T i).toNat < 128 ∧ byteAt T i ≠ 92
def endsT (c : UInt8) : Bool := c == 34 || c < 32
/-- Where a text ends. -/
def teTo (T : ByteArray) : Nat → Nat → Nat
  | 0, n => n
  | f + 1, n => if n < T.size ∧ endsT (byteAt T n) = false then teTo T f (n + 1) else n
def te (T : ByteArray) (n : Nat) : Nat := teTo T (T.size - n) n
theorem teTo_eq (T : ByteArray) (f n k : Nat) (hf : k ≤ n + f) (hnk : n ≤ k) (hb : ∀ i, n ≤ i → i < k → i < T.size ∧ endsT (byteAt T i) = false) (he : ¬ (k < T.size ∧ endsT (byteAt T k) = false)) : teTo T f n = k := by
  induction f generalizing n with
  | zero => simp [teTo]; omega
  | succ f ih =>
    unfold teTo
    by_cases h : n = k
    · subst h; rw [if_neg he]
    · rw [if_pos (hb n (Nat.le_refl _) (by omega))]
      exact ih (n + 1) (by omega) (by omega) (fun i h1 h2 => hb i (by omega) h2)
theorem te_eq (T : ByteArray) (n k : Nat) (hnk : n ≤ k) (hk : k ≤ T.size) (hb : ∀ i, n ≤ i → i < k → endsT (byteAt T i) = false) (he : k = T.size ∨ endsT (byteAt T k) = true) : te T n = k :=
  teTo_eq T _ n k (by omega) hnk (fun i h1 h2 => ⟨by omega, hb i h1 h2⟩) (by rcases he with h | h <;> simp [h])
/-- The text whose first sign is at n. -/
def textA (T : ByteArray) (n : Nat) : Res ByteArray :=
  if te T (n + 1) < T.size then (if byteAt T (te T (n + 1)) = 34 then .ok (T.extract (n + 1) (te T (n + 1))) (te T (n + 1) + 1) else .bad 11 (te T (n + 1))) else .bad 3 T.size
/-- Up to its end. -/
def plainA (T : ByteArray) (n : Nat) : Res ByteArray :=
  if te T n < T.size then (if byteAt T (te T n) = 34 then .ok (T.extract n (te T n)) (te T n) else .bad 11 (te T n)) else .bad 3 T.size
def PPost (b : Nat) (T : ByteArray) (n : Nat) (w : World) (e : Ending) (w' : World) : Res ByteArray → Prop
  | .ok s m => e = .returned (.string s) ∧ At b T m w' ∧ Kp b w w' ∧ n ≤ m ∧ m < T.size ∧ byteAt T m = 34
  | .bad er p => e = .panicked (faultC er p) ∧ Kp b w w'
theorem ext_at (T : ByteArray) (n p : Nat) (h : p < (T.extract n T.size).size) (h' : n + p < T.size) : (T.extract n T.size)[p] = byteAt T (n + p) := by
  rw [← byteAt_eq h']
  simp [ByteArray.getElem_extract]
theorem kp_iter {b : Nat} {x w : World} (h : Kp b x w) {k : Nat} (hk : x.heap.size ≤ k) (s : ByteArray) (pos : Nat) : Kp b x (w.iterAt k s pos) :=
  ⟨h.os, h.tape, h.output, by rw [Lib.iterAt_size]; exact h.size, fun i hi hb => (Lib.iterAt_other w k i s pos (by omega)).trans (h.block i hi hb)⟩
theorem at_iter {b n : Nat} {T : ByteArray} {w : World} (h : At b T n w) {k : Nat} (hk : b ≠ k) (s : ByteArray) (pos : Nat) : At b T n (w.iterAt k s pos) := (Lib.iterAt_other w k b s pos hk).trans h
theorem u8_lt (c k : UInt8) : decide ((c.toNat : Int) < (k.toNat : Int)) = decide (c < k) := by
  rw [Bool.eq_iff_iff]; simp [UInt8.lt_iff_toNat_lt]

set_option maxHeartbeats 1000000 in
theorem plain_any (b n : Nat) (T : ByteArray) (hasc : Asc T) (w : World) (hA : At b T n w) (hn : n ≤ T.size) (hT : T.size ≤ 65536) :
    Calls Tryz.prog 85 #[.pointer (some ⟨b, 0, none⟩)] w fun e w' => PPost b T n w e w' (plainA T n) := by
  have h0 := hA.c0
  have h1 := hA.c1
  have hbl := hA.lt
  have i1 : (0 : Int) ≤ (n : Int) := by omega
  have i2 : (n : Int) ≤ (T.size : Int) := by omega
  have hss : (T.extract n T.size).size = T.size - n := by rw [ByteArray.size_extract]; omega
  have HSS : Hid ((T.extract n T.size).size = T.size - n) := hss
  clear hss
  go_enter Tryz.func85, Tryz.ntmps85
  go_wp2
  clear h0 h1
  go_loopw [] (fun wr => ∃ pos q : Nat, pos ≤ T.size - n ∧ At b T q wr ∧ Kp b w wr ∧ wr.heap[w.heap.size]? = some (.stringIter (T.extract n T.size) pos) ∧ Hid (∀ i, n ≤ i → i < n + pos → endsT (byteAt T i) = false)) (fun wr => T.size - wr.iterPos w.heap.size)
  case atStart =>
    refine ⟨0, n, Nat.zero_le _, hA.alloc _, (Kp.refl _ _).alloc _, ?_, fun i h1 h2 => by omega⟩
    exact heap_alloc_new w _
  case round =>
    obtain ⟨pos, q, hpos, hAq, hK, hit, HB⟩ := hrel
    have hne : b ≠ w.heap.size := by omega
    by_cases hp : n + pos < T.size
    · have hps : pos < (T.extract n T.size).size := by rw [HSS.out]; omega
      have he := ext_at T n pos hps hp
      have ha := hasc _ hp
      have hnx : ∀ ty, (Instr.next (.pointer (some ⟨w.heap.size, 0, none⟩)) true ty).run Tryz.prog wr = .ok (.tuple #[.bool true, .int .i64 pos, .int .i32 ((byteAt T (n + pos)).toNat : Int)]) (wr.iterAt w.heap.size (T.extract n T.size) (pos + 1)) := fun ty => by
        rw [Lib.run_next_ascii_at wr w.heap.size _ pos ty hit hps (by rw [he]; exact ha.1), he]
      have hA2 : At b T q (wr.iterAt w.heap.size (T.extract n T.size) (pos + 1)) := at_iter hAq hne _ _
      have hK2 : Kp b w (wr.iterAt w.heap.size (T.extract n T.size) (pos + 1)) := kp_iter hK (Nat.le_refl _) _ _
      have hit2 := Lib.iterAt_heap wr w.heap.size _ pos (pos + 1) hit
      have hitp : wr.iterPos w.heap.size = pos := by simp [World.iterPos, hit]
      have HIT : Hid (wr.iterPos w.heap.size = pos) := hitp
      have HIT2 : Hid ((wr.iterAt w.heap.size (T.extract n T.size) (pos + 1)).heap[w.heap.size]? = some (.stringIter (T.extract n T.size) (pos + 1))) := hit2
      clear hit hit2 he hitp
      generalize wr.iterAt w.heap.size (T.extract n T.size) (pos + 1) = wx at *
      have x0 := hA2.c0
      have x1 := hA2.c1
      have xf := hA2.fz 1
      have e92 : (((byteAt T (n + pos)).toNat : Int) == 92) = false := beq_ne _ 92 ha.2
      have j1 : (n : Int) + (pos : Int) ≤ 65536 := by omega
      have j2 : (n : Int) + (pos : Int) ≤ (T.size : Int) := by omega
      have j3 : (n : Int) ≤ (n : Int) + (pos : Int) := by omega
      have j4 : (0 : Int) ≤ (n : Int) + (pos : Int) := by omega
      have hA3 : At b T (n + pos) (wx.setCell ⟨b, 1, none⟩ (.int .i64 ((n : Int) + (pos : Int)))) := hA2.set _ (n + pos) (by omega)
      by_cases c34 : byteAt T (n + pos) = 34
      · have hte : te T n = n + pos := te_eq T n (n + pos) (by omega) (by omega) HB.out (Or.inr (by rw [c34]; rfl))
        have HR : Hid (plainA T n = .ok (T.extract n (n + pos)) (n + pos)) := by unfold Hid plainA; rw [hte, if_pos hp, if_pos c34]
        have e34 : (((byteAt T (n + pos)).toNat : Int) == 34) = true := by rw [c34]; rfl
        have HC : Hid (byteAt T (n + pos) = 34) := c34
        clear c34 hte
        go_wp2
        go_quiet (fail)
        go_wp2
        go_ret
        rw [HR.out]
        exact ⟨rfl, hA3.drewN _, (hK2.setCell _ _).drewN _, by omega, hp, HC.out⟩
      · have e34 : (((byteAt T (n + pos)).toNat : Int) == 34) = false := beq_ne _ 34 c34
        by_cases c32 : byteAt T (n + pos) < 32
        · have hte : te T n = n + pos := te_eq T n (n + pos) (by omega) (by omega) HB.out (Or.inr (by simp [endsT, c32]))
          have HR : Hid (plainA T n = .bad 11 (n + pos)) := by unfold Hid plainA; rw [hte, if_pos hp, if_neg c34]
          have l32 : ((byteAt T (n + pos)).toNat : Int) < 32 := by have := UInt8.lt_iff_toNat_lt.1 c32; have h32 : (32 : UInt8).toNat = 32 := rfl; omega
          clear c34 hte c32
          go_wp2
          refine ⟨rfl, ?_⟩
          rw [HR.out]
          exact ⟨rfl, hK2.setCell _ _⟩
        · have l32 : ¬ ((byteAt T (n + pos)).toNat : Int) < 32 := fun h => c32 (UInt8.lt_iff_toNat_lt.2 (by have h32 : (32 : UInt8).toNat = 32 := rfl; omega))
          have hend : endsT (byteAt T (n + pos)) = false := by simp [endsT, c34, c32]
          have l65 : (((byteAt T (n + pos)).toNat : Int) == 65533) = false := by have := ha.1; simp; omega
          clear c34 c32
          go_wp2
          go_roundw
          case rel =>
            refine ⟨pos + 1, n + pos, by omega, hA3, hK2.setCell _ _, ?_, fun i h1 h2 => ?_⟩
            · rw [Below.heap_setCell _ _ _ _ (Ne.symm hne)]; exact HIT2.out
            · by_cases e : i = n + pos
              · subst e; exact hend
              · exact HB.out i h1 (by omega)
          case measure =>
            have : (wx.setCell ⟨b, 1, none⟩ (.int .i64 ((n : Int) + (pos : Int)))).iterPos w.heap.size = pos + 1 := by
              unfold World.iterPos
              rw [Below.heap_setCell _ _ _ _ (Ne.symm hne), HIT2.out]
            rw [this, HIT.out]
            omega
    · have hpe : n + pos = T.size := by omega
      have hnx : ∀ ty, (Instr.next (.pointer (some ⟨w.heap.size, 0, none⟩)) true ty).run Tryz.prog wr = .ok (.tuple #[.bool false]) wr := fun ty => Lib.run_next_end_at wr w.heap.size _ pos ty hit (by rw [HSS.out]; omega)
      have hte : te T n = n + pos := te_eq T n (n + pos) (by omega) (by omega) HB.out (Or.inl hpe)
      have HR : Hid (plainA T n = .bad 3 T.size) := by unfold Hid plainA; rw [hte, if_neg hp]
      have x0 := hAq.c0
      clear hte hpe hit
      go_wp2
      refine ⟨rfl, ?_⟩
      rw [HR.out]
      exact ⟨rfl, hK⟩

theorem fresh_b {w : World} {B : Nat} (h : w.heap[B]? = some (.cells #[.pointer none, .slice none 0 0] 64 (0, 0))) : Lib.IsBuilderF 64 5 B B [] w :=
  Lib.IsBuilderF.of (Or.inl ⟨Nat.le_refl _, .slice none 0 0, h, World.ownsRow_nil _ _ _ _, by simp [Value.ownBlock]⟩)

/-- A builder stays one while no block from B on turns. -/
theorem builder_keep {w w' : World} {B c : Nat} {p : Value} {bs : List Value} (h : Lib.BuilderAtF 64 5 B c p bs w) (hk : ∀ k, B ≤ k → k < w.heap.size → w'.heap[k]? = w.heap[k]?) : Lib.BuilderAtF 64 5 B c p bs w' := by
  obtain ⟨hB, v, hb, ⟨h1, h2⟩, hne⟩ := h
  have hlt : ∀ g o, w.heap[g]? = some o → g < w.heap.size := fun g o hg => (Array.getElem?_eq_some_iff.1 hg).1
  refine ⟨hB, v, by rw [hk c hB (hlt _ _ hb)]; exact hb, ⟨h1, ?_⟩, hne⟩
  rcases h2 with h2 | ⟨g, cap, cur, fz, e1, e2, e3, r⟩
  · exact Or.inl h2
  · exact Or.inr ⟨g, cap, cur, fz, e1, e2, by rw [hk g e2 (hlt _ _ e3)]; exact e3, r⟩
def quoteFin : Res ByteArray → Res ByteArray
  | .ok s m => .ok s (m + 1)
  | .bad e p => .bad e p

set_option maxHeartbeats 1000000 in
theorem quoted_asc (T : ByteArray) (hasc : Asc T) (hT : T.size ≤ 65536) : QuotedOk T (textA T) := by
  intro b n w hA hE hb8 hn hc
  have h0 := hA.c0
  have h1 := hA.c1
  have hf := hA.fz 1
  have hbl := hA.lt
  have hA1 : At b T (n + 1) (w.setCell ⟨b, 1, none⟩ (.int .i64 ((n : Int) + 1))) := hA.set _ (n + 1) (by omega)
  have hK1 : Kp b w (w.setCell ⟨b, 1, none⟩ (.int .i64 ((n : Int) + 1))) := (Kp.refl _ _).setCell _ _
  have hs1 : (w.setCell ⟨b, 1, none⟩ (.int .i64 ((n : Int) + 1))).heap.size = w.heap.size := Kp.sz_set _ _ _
  have HT : Hid (textA T n = quoteFin (plainA T (n + 1))) := by
    unfold Hid textA plainA
    split
    · split <;> rfl
    · rfl
  have HS : Hid ((w.setCell ⟨b, 1, none⟩ (.int .i64 ((n : Int) + 1))).heap.size = w.heap.size) := hs1
  clear hs1
  clear hc hE
  go_enter Tryz.func66, Tryz.ntmps66
  go_wp2_with fail
  refine wp_loop_rounds 1 ?_
  rw [rounds_succ]
  go_wp2_with fail
  refine (plain_any b (n + 1) T hasc ((w.setCell ⟨b, 1, none⟩ (.int .i64 ((n : Int) + 1))).alloc (.cells #[.pointer none, .slice none 0 0] 64)) (hA1.alloc _) (by omega) hT).mono ?_
  intro e w2 hp
  cases hl : plainA T (n + 1) with
  | bad er p =>
    rw [hl] at hp
    obtain ⟨rfl, hK2⟩ := hp
    have HR : Hid (textA T n = .bad er p) := by unfold Hid; rw [HT.out, hl]; rfl
    clear hl HT
    go_wp2_with fail
    refine ⟨rfl, ?_⟩
    rw [HR.out]
    exact ⟨rfl, (hK1.alloc _).trans hK2⟩
  | ok s m =>
    rw [hl] at hp
    obtain ⟨rfl, hA2, hK2, hm1, hm2, hm3⟩ := hp
    have HR : Hid (textA T n = .ok s (m + 1)) := by unfold Hid; rw [HT.out, hl]; rfl
    have hss : s.size ≤ 65536 := by
      unfold plainA at hl
      split at hl
      · split at hl
        · simp only [Res.ok.injEq] at hl; rw [← hl.1, ByteArray.size_extract]; omega
        · cases hl
      · cases hl
    have hsz2 : w.heap.size + 1 ≤ w2.heap.size := by have := hK2.size; simp only [World.size_alloc, HS.out] at this; exact this
    have hB2 : w2.heap[w.heap.size]? = some (.cells #[.pointer none, .slice none 0 0] 64 (0, 0)) := by
      rw [hK2.block w.heap.size (by simp only [World.size_alloc, HS.out]; omega) (by omega)]
      exact alloc_at HS.out.symm
    have hI2 := fresh_b hB2
    have HC : Hid (byteAt T m = 34) := hm3
    clear hl HT hB2 hm3
    go_wp2_with fail
    refine (Tryz.wrString w.heap.size w.heap.size [] s w2 hI2 (by simp; omega) (by omega)).mono ?_
    rintro e w3 ⟨rfl, hb3, hbw, _⟩
    have hA3 : At b T m w3 := (hbw.block b hbl).trans hA2
    have x0 := hA3.c0
    have x1 := hA3.c1
    have xf := hA3.fz 1
    have he := byteAt_eq hm2
    have e34 : (((byteAt T m).toNat : Int) == 34) = true := by rw [HC.out]; rfl
    have hsz3 := hbw.size
    have HB3 : Hid (Lib.BuilderAtF 64 5 w.heap.size w.heap.size (.pointer (some ⟨w.heap.size, 0, none⟩)) ([] ++ Lib.strCells s) w3) := hb3
    clear hb3 hI2
    go_wp2_with fail
    go_quiet (fail)
    go_wp2_with fail
    have hI4 : Lib.IsBuilderF 64 5 w.heap.size w.heap.size (Lib.byteCells s.data.toList) ((w3.drewN nq).setCell ⟨b, 1, none⟩ (.int .i64 ((m : Int) + 1))) :=
      Or.inr (builder_keep HB3.out (fun k hk _ => Below.heap_setCell _ _ _ _ (by show k ≠ b; omega)))
    have hA4 : At b T (m + 1) ((w3.drewN nq).setCell ⟨b, 1, none⟩ (.int .i64 ((m : Int) + 1))) := (hA3.drewN nq).set _ (m + 1) (by omega)
    have hK4 : Kp b w ((w3.drewN nq).setCell ⟨b, 1, none⟩ (.int .i64 ((m : Int) + 1))) := by
      have k2 := (hK1.alloc (.cells #[.pointer none, .slice none 0 0] 64)).trans hK2
      have k3 : Kp b w w3 := ⟨hbw.os.trans k2.os, hbw.tape.trans k2.tape, hbw.output.trans k2.output, Nat.le_trans k2.size hsz3, fun k hk hkb => (hbw.block k hk).trans (k2.block k hk hkb)⟩
      exact (k3.drewN nq).setCell _ _
    refine (Tryz.Builder_String_any_k w.heap.size w.heap.size s.data.toList _ hI4 (by rw [Kp.sz_set]; show w.heap.size ≤ w3.heap.size; omega)).mono ?_
    rintro e w5 ⟨rfl, _, hb5, _⟩
    have hs : (⟨s.data.toList.toArray⟩ : ByteArray) = s := by simp
    have hA5 : At b T (m + 1) w5 := (hb5.block b hbl).trans hA4
    have hK5 : Kp b w w5 := ⟨hb5.os.trans hK4.os, hb5.tape.trans hK4.tape, hb5.output.trans hK4.output, Nat.le_trans hK4.size hb5.size, fun k hk hkb => (hb5.block k hk).trans (hK4.block k hk hkb)⟩
    rw [hs]
    clear hI4 hA4 hK4 HB3 hs
    go_wp2_with fail
    go_ret
    rw [HR.out]
    exact ⟨rfl, hss, hA5, hK5, by omega, by omega⟩
end Go.Proofs.YtnccaidlcaeeaaaGreatDoor
namespace Go.Proofs.YtnccaidlcaeeaaaGreatDoor
open Go Go.RowKit Go.Maps

theorem catch_idle (p q : Addr) (w : World) :
    CallsD Tryz.prog 40 #[.pointer (some p), .pointer (some q)] .returning w fun e u' w' => e = .returned (.tuple #[]) ∧ u' = .returning ∧ w' = w := by
  refine callsD_of_wpS Tryz.func40 rfl fun c₀ cs hu => ?_
  apply wpS_seq
  apply wpS_region
  simp [wpOpsS, go_sem, recoverD, hu, Tryz.ntmps40, Exit.thenS]
  refine wpS_of_wp ?_
  go_wp2
  cases c₀
  simp_all [bodyPostS, results, Tryz.results40]
theorem ta38 (v : Value) (w : World) : (Instr.typeAssert (.iface 54 v) 20 54 true).run Tryz.prog w = .ok (.tuple #[v, .bool true]) w := by kernel_rfl
theorem en38 (v : Value) (w : World) : (binOp .eql 20 (.iface 54 v) .nilIface).run Tryz.prog w = .ok (.bool false) w := by kernel_rfl
theorem rep11 : (Array.replicate 11 undef : Array Value) = #[undef, undef, undef, undef, undef, undef, undef, undef, undef, undef, undef] := rfl
/-- What the deferred function leaves: v zero, f told; else nothing has turned. -/
structure Caught (pv pf : Nat) (e p : Int) (w w' : World) : Prop where
  cv : w'.heap[pv]? = some (.cells #[.int .i64 0, .int .i64 0, .string noS, .slice none 0 0, .slice none 0 0] 25 (0, 0))
  cf : w'.heap[pf]? = some (.cells #[.int .i64 e, .int .i64 p] 54 (0, 0))
  os : w'.os = w.os
  tape : w'.tape = w.tape
  output : w'.output = w.output
  size : w.heap.size ≤ w'.heap.size
  block : ∀ k, k < w.heap.size → k ≠ pv → k ≠ pf → w'.heap[k]? = w.heap[k]?
theorem put2 {w : World} {g : Nat} {c0 c1 : Value} {t : TypeId} (h : w.heap[g]? = some (.cells #[c0, c1] t (0, 0))) (a0 a1 : Value) : ((w.setCell ⟨g, 0, none⟩ a0).setCell ⟨g, 1, none⟩ a1).heap[g]? = some (.cells #[a0, a1] t (0, 0)) := by
  simp [World.setCell, Array.getElem?_modify, h]
theorem put5_at {w : World} {g : Nat} {c0 c1 c2 c3 c4 : Value} {t : TypeId} (h : w.heap[g]? = some (.cells #[c0, c1, c2, c3, c4] t (0, 0))) (a0 a1 a2 a3 a4 : Value) : (put5 w g 0 a0 a1 a2 a3 a4).heap[g]? = some (.cells #[a0, a1, a2, a3, a4] t (0, 0)) := by
  simp [put5, World.setCell, Array.getElem?_modify, h]
theorem caught_alloc {pv pf : Nat} {e p : Int} {w X : World} (o : Obj) (lv : pv < w.heap.size) (lf : pf < w.heap.size) (cv : X.heap[pv]? = some (.cells #[.int .i64 0, .int .i64 0, .string noS, .slice none 0 0, .slice none 0 0] 25 (0, 0))) (cf : X.heap[pf]? = some (.cells #[.int .i64 e, .int .i64 p] 54 (0, 0)))
    (h1 : X.os = w.os) (h2 : X.tape = w.tape) (h3 : X.output = w.output) (h4 : X.heap.size = w.heap.size) (h5 : ∀ k, k < w.heap.size → k ≠ pv → k ≠ pf → X.heap[k]? = w.heap[k]?) : Caught pv pf e p w (X.alloc o).drew :=
  ⟨(alloc_old (by omega)).trans cv, (alloc_old (by omega)).trans cf, h1, h2, h3, by show w.heap.size ≤ (X.alloc o).heap.size; rw [World.size_alloc]; omega, fun k hk a b => (alloc_old (by omega)).trans (h5 k hk a b)⟩
theorem caught_of {pv pf : Nat} {e p : Int} {w : World} {c0 c1 c2 c3 c4 d0 d1 : Value} (hne : pv ≠ pf) (cv : w.heap[pv]? = some (.cells #[c0, c1, c2, c3, c4] 25 (0, 0))) (cf : w.heap[pf]? = some (.cells #[d0, d1] 54 (0, 0))) :
    Caught pv pf e p w ((((put5 w pv 0 (.int .i64 0) (.int .i64 0) (.string noS) (.slice none 0 0) (.slice none 0 0)).setCell ⟨pf, 0, none⟩ (.int .i64 e)).setCell ⟨pf, 1, none⟩ (.int .i64 p)).alloc (.cells #[.int .i64 e, .int .i64 p] 54)).drew := by
  have lv : pv < w.heap.size := (Array.getElem?_eq_some_iff.1 cv).1
  have lf : pf < w.heap.size := (Array.getElem?_eq_some_iff.1 cf).1
  refine caught_alloc _ lv lf ?_ ?_ ?_ ?_ ?_ ?_ ?_
  · rw [Below.heap_setCell _ _ _ _ hne, Below.heap_setCell _ _ _ _ hne]; exact put5_at cv _ _ _ _ _
  · exact put2 ((put5_far _ _ _ _ _ (Ne.symm hne)).trans cf) _ _
  · rw [set_os, set_os, put5_os]
  · rw [set_tape, set_tape, put5_tape]
  · rw [set_out, set_out, put5_out]
  · rw [Kp.sz_set, Kp.sz_set, put5_size]
  · intro k hk h1 h2
    rw [Below.heap_setCell _ _ _ _ h2, Below.heap_setCell _ _ _ _ h2, put5_far _ _ _ _ _ h1]
theorem catch_fault (pv pf : Nat) (e p : Int) (hne : pv ≠ pf) (w : World) (c0 c1 c2 c3 c4 : Value) (cv : w.heap[pv]? = some (.cells #[c0, c1, c2, c3, c4] 25 (0, 0))) (cf : w.heap[pf]? = some (.cells #[.int .i64 0, .int .i64 0] 54 (0, 0))) :
    CallsD Tryz.prog 40 #[.pointer (some ⟨pv, 0, none⟩), .pointer (some ⟨pf, 0, none⟩)] (.panicking (faultC e p)) w fun e' u' w' => e' = .returned (.tuple #[]) ∧ u' = .panicking [{ v := faultV e p, recovered := true }] ∧ Caught pv pf e p w w' := by
  refine callsD_of_wpS Tryz.func40 rfl fun c₀ cs hu => ?_
  apply wpS_seq
  apply wpS_region
  unfold faultC faultV at hu
  simp [wpOpsS, go_sem, recoverD, hu, Tryz.ntmps40, Exit.thenS, rep11]
  refine wpS_of_wp ?_
  have v0 : w.cell? ⟨pv, 0, none⟩ = some c0 := cell_of cv 0
  have v1 : w.cell? ⟨pv, 1, none⟩ = some c1 := cell_of cv 1
  have v2 : w.cell? ⟨pv, 2, none⟩ = some c2 := cell_of cv 2
  have v3 : w.cell? ⟨pv, 3, none⟩ = some c3 := cell_of cv 3
  have v4 : w.cell? ⟨pv, 4, none⟩ = some c4 := cell_of cv 4
  have vf := fun o => frozen_of cv o
  have f0 : w.cell? ⟨pf, 0, none⟩ = some (.int .i64 0) := cell_of cf 0
  have f1 : w.cell? ⟨pf, 1, none⟩ = some (.int .i64 0) := cell_of cf 1
  have ff := fun o => frozen_of cf o
  have lv : pv < w.heap.size := (Array.getElem?_eq_some_iff.1 cv).1
  have lf : pf < w.heap.size := (Array.getElem?_eq_some_iff.1 cf).1
  have HU := hu
  have HU' : Hid (c₀.mode = FrameMode.panicking [{ v := Value.iface 54 (Value.agg #[Value.int IntKind.i64 e, Value.int IntKind.i64 p]), recovered := false }]) := hu
  clear HU hu
  have CV : Hid (w.heap[pv]? = some (.cells #[c0, c1, c2, c3, c4] 25 (0, 0))) := cv
  have n1 : ¬ pv = w.heap.size := by omega
  have n2 : ¬ pf = w.heap.size := by omega
  have n3 : ¬ pf = pv := fun h => hne h.symm
  have CF : Hid (w.heap[pf]? = some (.cells #[.int .i64 0, .int .i64 0] 54 (0, 0))) := cf
  clear cv cf
  have ta := ta38
  have en := en38
  go_wp2
  go_region
  have hC : Caught pv pf e p w ((((((((w.setCell ⟨pv, 0, none⟩ (.int .i64 0)).setCell ⟨pv, 1, none⟩ (.int .i64 0)).setCell ⟨pv, 2, none⟩ (.string noS)).setCell ⟨pv, 3, none⟩ (.slice none 0 0)).setCell ⟨pv, 4, none⟩ (.slice none 0 0)).setCell ⟨pf, 0, none⟩ (.int .i64 e)).setCell ⟨pf, 1, none⟩ (.int .i64 p)).alloc (.cells #[.int .i64 e, .int .i64 p] 54)).drew :=
    caught_of hne CV.out CF.out
  go_wp2
  have HC : Hid (Caught pv pf e p w ((((((((w.setCell ⟨pv, 0, none⟩ (.int .i64 0)).setCell ⟨pv, 1, none⟩ (.int .i64 0)).setCell ⟨pv, 2, none⟩ (.string noS)).setCell ⟨pv, 3, none⟩ (.slice none 0 0)).setCell ⟨pv, 4, none⟩ (.slice none 0 0)).setCell ⟨pf, 0, none⟩ (.int .i64 e)).setCell ⟨pf, 1, none⟩ (.int .i64 p)).alloc (.cells #[.int .i64 e, .int .i64 p] 54)).drew) := hC
  clear hC
  exact ⟨rfl, _, rfl, .tuple #[], by simp [results, Tryz.results40, go_sem], rfl, rfl, HC.out⟩

/-- The whole text. -/
def tailR (T : ByteArray) : Res J → Res J
  | .bad e p => .bad e p
  | .ok j n => if skip T n < T.size then .bad 4 (skip T n) else .ok j 0
def wholeR (T : ByteArray) (tx : Nat → Res ByteArray) : Res J := tailR T (valR T tx 64 (skip T 0))
def WPost (w : World) (e : Ending) (w' : World) : Res J → Prop
  | .ok j _ => ∃ (kd x : Int) (s : ByteArray) (a1 : Option Addr) (l1 c1 : Nat) (a2 : Option Addr) (l2 c2 : Nat), e = .returned (.tuple #[.agg #[.int .i64 kd, .int .i64 x, .string s, .slice a1 l1 c1, .slice a2 l2 c2], .agg #[.int .i64 0, .int .i64 0]]) ∧
      Rep w' w.heap.size w'.heap.size j (five kd x s (.slice a1 l1 c1) (.slice a2 l2 c2))
  | .bad er p => e = .returned (.tuple #[.agg #[.int .i64 0, .int .i64 0, .string noS, .slice none 0 0, .slice none 0 0], .agg #[.int .i64 er, .int .i64 p]])

def wWh (w : World) : World := (w.alloc (.cells #[.int .i64 0, .int .i64 0, .string noS, .slice none 0 0, .slice none 0 0] 25)).alloc (.cells #[.int .i64 0, .int .i64 0] 54)
theorem wWh_size (w : World) : (wWh w).heap.size = w.heap.size + 2 := by simp [wWh]
theorem wWh_old (w : World) {k : Nat} (h : k < w.heap.size) : (wWh w).heap[k]? = w.heap[k]? := by
  unfold wWh; rw [alloc_old (by simp; omega), alloc_old h]
theorem wWh_0 (w : World) : (wWh w).heap[w.heap.size]? = some (.cells #[.int .i64 0, .int .i64 0, .string noS, .slice none 0 0, .slice none 0 0] 25 (0, 0)) := by
  unfold wWh; rw [alloc_old (by simp), alloc_at rfl]
theorem wWh_1 (w : World) : (wWh w).heap[w.heap.size + 1]? = some (.cells #[.int .i64 0, .int .i64 0] 54 (0, 0)) := by
  unfold wWh; rw [alloc_at (by simp)]
theorem wWh_kp (w : World) (b : Nat) : Kp b w (wWh w) := ((Kp.refl b w).alloc _).alloc _
theorem Caught.kp {pv pf b : Nat} {e p : Int} {w0 w w' : World} (h : Caught pv pf e p w w') (hk : Kp b w0 w) (h1 : w0.heap.size ≤ pv) (h2 : w0.heap.size ≤ pf) : Kp b w0 w' :=
  ⟨h.os.trans hk.os, h.tape.trans hk.tape, h.output.trans hk.output, Nat.le_trans hk.size h.size, fun k hk' hb => (h.block k (Nat.lt_of_lt_of_le hk' hk.size) (by omega) (by omega)).trans (hk.block k hk' hb)⟩

theorem Rep.up {w : World} {lo hi hi2 : Nat} (j : J) (cs : List Value) (h : Rep w lo hi j cs) (hl : hi ≤ hi2) : Rep w lo hi2 j cs := by
  cases j with
  | list l =>
    unfold Rep at *
    obtain ⟨it, xs, h1, h2, h3, h4⟩ := h
    exact ⟨it, xs, h1, h2, fun g hg => Nat.lt_of_lt_of_le (h3 g hg) hl, RepL.up _ _ h4 hl⟩
  | obj ns l =>
    unfold Rep at *
    obtain ⟨nm, it, xs, h1, h2, h3, h4, h5, h6, h7⟩ := h
    exact ⟨nm, it, xs, h1, h2, fun g hg => Nat.lt_of_lt_of_le (h3 g hg) hl, h4, fun g hg => Nat.lt_of_lt_of_le (h5 g hg) hl, h6, RepL.up _ _ h7 hl⟩
  | _ => exact h
theorem whole_fin {b hi : Nat} {w w4 W : World} {j : J} {kd x : Int} {s : ByteArray} {a1 : Option Addr} {l1 c1 : Nat} {a2 : Option Addr} {l2 c2 : Nat}
    (hK : Kp b w w4) (hhi : hi ≤ w4.heap.size) (hrep : Rep w4 (w.heap.size + 2) hi j (five kd x s (.slice a1 l1 c1) (.slice a2 l2 c2)))
    (hW : W = ((put5 w4 w.heap.size 0 (.int .i64 kd) (.int .i64 x) (.string s) (.slice a1 l1 c1) (.slice a2 l2 c2)).setCell ⟨w.heap.size + 1, 0, none⟩ (.int .i64 0)).setCell ⟨w.heap.size + 1, 1, none⟩ (.int .i64 0)) :
    WPost w (.returned (.tuple #[.agg #[.int .i64 kd, .int .i64 x, .string s, .slice a1 l1 c1, .slice a2 l2 c2], .agg #[.int .i64 0, .int .i64 0]])) W (.ok j 0) ∧ Kp b w W := by
  have hsz : W.heap.size = w4.heap.size := by rw [hW, Kp.sz_set, Kp.sz_set, put5_size]
  have hfar : ∀ k, w.heap.size + 2 ≤ k → W.heap[k]? = w4.heap[k]? := fun k hk => by
    rw [hW, Below.heap_setCell _ _ _ _ (by show k ≠ w.heap.size + 1; omega), Below.heap_setCell _ _ _ _ (by show k ≠ w.heap.size + 1; omega), put5_far _ _ _ _ _ (by omega)]
  refine ⟨⟨kd, x, s, a1, l1, c1, a2, l2, c2, rfl, ?_⟩, ?_⟩
  · exact Rep.down j _ (Rep.up j _ (Rep.keep j _ hrep (fun k ka kb => hfar k ka)) (by omega)) (by omega)
  · rw [hW]
    exact ((put5_kp hK (Nat.le_refl _) _ _ _ _ _ _).setNew (by show w.heap.size ≤ w.heap.size + 1; omega) _).setNew (by show w.heap.size ≤ w.heap.size + 1; omega) _

set_option maxHeartbeats 1000000 in
theorem whole_any (b : Nat) (T : ByteArray) (tx : Nat → Res ByteArray) (hQ : QuotedOk T tx) (w : World) (hA : At b T 0 w) (hE : Env w) (hb8 : 8 ≤ b) (hT : T.size ≤ 65536) :
    Calls Tryz.prog 26 #[.pointer (some ⟨b, 0, none⟩)] w fun e w' => WPost w e w' (wholeR T tx) ∧ Kp b w w' := by
  have hmf : ∀ (fn : Fn) (first cap : Array Value) (w : World), (Instr.makeFunc fn first cap).run Tryz.prog w = .ok (.func fn first cap) w := fun _ _ _ _ => rfl
  have hV := value_any T tx hQ hT 64 (Nat.le_refl _)
  have hbl := hA.lt
  have hAw : At b T 0 (wWh w) := (wWh_old w hbl).trans hA
  have hsw := wWh_size w
  have HSW : Hid ((wWh w).heap.size = w.heap.size + 2) := hsw
  have HR0 : Hid (wholeR T tx = tailR T (valR T tx 64 (skip T 0))) := rfl
  have hE0 : Env (wWh w) := hE.keep (fun k hk => wWh_old w (by omega))
  clear hE hsw
  go_enter_defers Tryz.func26, Tryz.ntmps26
  go_wp2_with fail
  refine (blanks_any b 0 T (wWh w) hAw (Nat.zero_le _) hT).mono ?_
  rintro e w1 ⟨rfl, hA1, hK1, hs1, _, hn1⟩
  have hs1' : w1.heap.size = w.heap.size + 2 := hs1.trans HSW.out
  have HS1 : Hid (w1.heap.size = w.heap.size + 2) := hs1'
  have hE1 : Env w1 := hE0.keep (fun k hk => hK1.block k (by rw [HSW.out]; omega) (by omega))
  have p0 := (hK1.block w.heap.size (by rw [HSW.out]; omega) (by omega)).trans (wWh_0 w)
  have p1 := (hK1.block (w.heap.size + 1) (by rw [HSW.out]; omega) (by omega)).trans (wWh_1 w)
  have P0 : Hid (w1.heap[w.heap.size]? = some (.cells #[.int .i64 0, .int .i64 0, .string noS, .slice none 0 0, .slice none 0 0] 25 (0, 0))) := p0
  have P1 : Hid (w1.heap[w.heap.size + 1]? = some (.cells #[.int .i64 0, .int .i64 0] 54 (0, 0))) := p1
  clear hs1 hs1' p0 p1
  generalize skip T 0 = m at *
  have hKw1 : Kp b w w1 := (wWh_kp w b).trans hK1
  go_wp2_with fail
  refine (hV b m 0 w1 hA1 hE1 hb8 hn1 (by omega)).mono ?_
  intro e w2 hp
  cases hv : valR T tx 64 m with
  | bad er p =>
    rw [hv] at hp
    obtain ⟨rfl, hK2⟩ := hp
    have HR : Hid (wholeR T tx = .bad er p) := by unfold Hid; rw [HR0.out, hv]; rfl
    have c0 := (hK2.block w.heap.size (by rw [HS1.out]; omega) (by omega)).trans P0.out
    have c1 := (hK2.block (w.heap.size + 1) (by rw [HS1.out]; omega) (by omega)).trans P1.out
    clear hv HR0
    go_wp2_with fail
    refine leaves_cons (f := 40) (args := #[.pointer (some ⟨w.heap.size, 0, none⟩), .pointer (some ⟨w.heap.size + 1, 0, none⟩)]) (by simp) (by simp [go_sem]) ?_
    refine (catch_fault w.heap.size (w.heap.size + 1) er p (by omega) w2 _ _ _ _ _ c0 c1).mono ?_
    rintro e u' w3 ⟨rfl, rfl, hC⟩
    have hKC : Kp b w w3 := hC.kp (hKw1.trans hK2) (Nat.le_refl _) (by omega)
    have d0 : w3.cell? ⟨w.heap.size, 0, none⟩ = some (.int .i64 0) := cell_of hC.cv 0
    have d1 : w3.cell? ⟨w.heap.size, 1, none⟩ = some (.int .i64 0) := cell_of hC.cv 1
    have d2 : w3.cell? ⟨w.heap.size, 2, none⟩ = some (.string noS) := cell_of hC.cv 2
    have d3 : w3.cell? ⟨w.heap.size, 3, none⟩ = some (.slice none 0 0) := cell_of hC.cv 3
    have d4 : w3.cell? ⟨w.heap.size, 4, none⟩ = some (.slice none 0 0) := cell_of hC.cv 4
    have f0 : w3.cell? ⟨w.heap.size + 1, 0, none⟩ = some (.int .i64 er) := cell_of hC.cf 0
    have f1 : w3.cell? ⟨w.heap.size + 1, 1, none⟩ = some (.int .i64 p) := cell_of hC.cf 1
    simp [Leaves, settle, results, Tryz.results26, go_sem, d0, d1, d2, d3, d4, f0, f1]
    rw [HR.out]
    exact ⟨rfl, hKC⟩
  | ok j n1 =>
    rw [hv] at hp
    obtain ⟨kd, x, s, a1, l1, c1, a2, l2, c2, rfl, hrep, hA2, hK2, hl1, hl2⟩ := hp
    have HR1 : Hid (wholeR T tx = tailR T (.ok j n1)) := by unfold Hid; rw [HR0.out, hv]
    have hs2 : w.heap.size + 2 ≤ w2.heap.size := by have := hK2.size; rw [HS1.out] at this; exact this
    have q0 := (hK2.block w.heap.size (by rw [HS1.out]; omega) (by omega)).trans P0.out
    have q1 := (hK2.block (w.heap.size + 1) (by rw [HS1.out]; omega) (by omega)).trans P1.out
    have Q1 : Hid (w2.heap[w.heap.size + 1]? = some (.cells #[.int .i64 0, .int .i64 0] 54 (0, 0))) := q1
    have Q0 : Hid (w2.heap[w.heap.size]? = some (.cells #[.int .i64 0, .int .i64 0, .string noS, .slice none 0 0, .slice none 0 0] 25 (0, 0))) := q0
    have r0 : w2.cell? ⟨w.heap.size, 0, none⟩ = some (.int .i64 0) := cell_of q0 0
    have r1 : w2.cell? ⟨w.heap.size, 1, none⟩ = some (.int .i64 0) := cell_of q0 1
    have r2 : w2.cell? ⟨w.heap.size, 2, none⟩ = some (.string noS) := cell_of q0 2
    have r3 : w2.cell? ⟨w.heap.size, 3, none⟩ = some (.slice none 0 0) := cell_of q0 3
    have r4 : w2.cell? ⟨w.heap.size, 4, none⟩ = some (.slice none 0 0) := cell_of q0 4
    have rf := fun o => frozen_of q0 o
    have hKw2 : Kp b w w2 := hKw1.trans hK2
    have hrep' : Rep w2 (w.heap.size + 2) w2.heap.size j (five kd x s (.slice a1 l1 c1) (.slice a2 l2 c2)) := by have h := hrep; rw [HS1.out] at h; exact h
    clear hv HR0 q0 q1 hrep
    go_wp2_with fail
    refine (blanks_any b n1 T (put5 w2 w.heap.size 0 (.int .i64 kd) (.int .i64 x) (.string s) (.slice a1 l1 c1) (.slice a2 l2 c2)) ((put5_far _ _ _ _ _ (by omega)).trans hA2) hl2 hT).mono ?_
    rintro e w4 ⟨rfl, hA4, hK4, hs4, hb1, hb2⟩
    have hs4' : w4.heap.size = w2.heap.size := hs4.trans (put5_size _ _ _ _ _ _ _ _)
    have HS4 : Hid (w4.heap.size = w2.heap.size) := hs4'
    have hKw4 : Kp b w w4 := (put5_kp hKw2 (Nat.le_refl _) _ _ _ _ _ _).trans hK4
    have c0 := (hK4.block w.heap.size (by rw [put5_size]; omega) (by omega)).trans (put5_at Q0.out _ _ _ _ _)
    have c1' := (hK4.block (w.heap.size + 1) (by rw [put5_size]; omega) (by omega)).trans ((put5_far _ _ _ _ _ (by omega)).trans Q1.out)
    have hrep4 : Rep w4 (w.heap.size + 2) w2.heap.size j (five kd x s (.slice a1 l1 c1) (.slice a2 l2 c2)) := Rep.keep j _ hrep' (fun k ka kb => (hK4.block k (by rw [put5_size]; omega) (by omega)).trans (put5_far _ _ _ _ _ (by omega)))
    have HT : Hid (tailR T (.ok j n1) = if skip T n1 < T.size then .bad 4 (skip T n1) else .ok j 0) := rfl
    clear hs4 hs4' r0 r1 r2 r3 r4 rf hrep' hK4
    generalize skip T n1 = m4 at *
    have x0 := hA4.c0
    have x1 := hA4.c1
    by_cases hlt : m4 < T.size
    · have hd1 : decide ((m4 : Int) < (T.size : Int)) = true := by simp; omega
      have HR : Hid (wholeR T tx = .bad 4 m4) := by unfold Hid; rw [HR1.out, HT.out, if_pos hlt]
      have C0 : Hid (w4.heap[w.heap.size]? = some (.cells #[.int .i64 kd, .int .i64 x, .string s, .slice a1 l1 c1, .slice a2 l2 c2] 25 (0, 0))) := c0
      have C1 : Hid (w4.heap[w.heap.size + 1]? = some (.cells #[.int .i64 0, .int .i64 0] 54 (0, 0))) := c1'
      clear c0 c1' HR1 HT
      go_wp2_with fail
      go_quiet (fail)
      go_wp2_with fail
      refine leaves_cons (f := 40) (args := #[.pointer (some ⟨w.heap.size, 0, none⟩), .pointer (some ⟨w.heap.size + 1, 0, none⟩)]) (by simp) (by simp [go_sem]) ?_
      refine (catch_fault w.heap.size (w.heap.size + 1) 4 m4 (by omega) (w4.drewN nq) _ _ _ _ _ C0.out C1.out).mono ?_
      rintro e u' w3 ⟨rfl, rfl, hC⟩
      have hKC : Kp b w w3 := hC.kp (hKw4.drewN nq) (Nat.le_refl _) (by omega)
      have d0 : w3.cell? ⟨w.heap.size, 0, none⟩ = some (.int .i64 0) := cell_of hC.cv 0
      have d1 : w3.cell? ⟨w.heap.size, 1, none⟩ = some (.int .i64 0) := cell_of hC.cv 1
      have d2 : w3.cell? ⟨w.heap.size, 2, none⟩ = some (.string noS) := cell_of hC.cv 2
      have d3 : w3.cell? ⟨w.heap.size, 3, none⟩ = some (.slice none 0 0) := cell_of hC.cv 3
      have d4 : w3.cell? ⟨w.heap.size, 4, none⟩ = some (.slice none 0 0) := cell_of hC.cv 4
      have f0 : w3.cell? ⟨w.heap.size + 1, 0, none⟩ = some (.int .i64 4) := cell_of hC.cf 0
      have f1 : w3.cell? ⟨w.heap.size + 1, 1, none⟩ = some (.int .i64 m4) := cell_of hC.cf 1
      simp [Leaves, settle, results, Tryz.results26, go_sem, d0, d1, d2, d3, d4, f0, f1]
      rw [HR.out]
      exact ⟨rfl, hKC⟩
    · have hd1 : decide ((m4 : Int) < (T.size : Int)) = false := by simp; omega
      have HR : Hid (wholeR T tx = .ok j 0) := by unfold Hid; rw [HR1.out, HT.out, if_neg hlt]
      have v0 : w4.cell? ⟨w.heap.size, 0, none⟩ = some (.int .i64 kd) := cell_of c0 0
      have v1 : w4.cell? ⟨w.heap.size, 1, none⟩ = some (.int .i64 x) := cell_of c0 1
      have v2 : w4.cell? ⟨w.heap.size, 2, none⟩ = some (.string s) := cell_of c0 2
      have v3 : w4.cell? ⟨w.heap.size, 3, none⟩ = some (.slice a1 l1 c1) := cell_of c0 3
      have v4 : w4.cell? ⟨w.heap.size, 4, none⟩ = some (.slice a2 l2 c2) := cell_of c0 4
      have vf := fun o => frozen_of c0 o
      have g0 : w4.cell? ⟨w.heap.size + 1, 0, none⟩ = some (.int .i64 0) := cell_of c1' 0
      have g1 : w4.cell? ⟨w.heap.size + 1, 1, none⟩ = some (.int .i64 0) := cell_of c1' 1
      have gf := fun o => frozen_of c1' o
      clear c0 c1' HR1 HT
      go_wp2_with fail
      go_quiet (fail)
      go_wp2_with fail
      refine leaves_cons (f := 40) (args := #[.pointer (some ⟨w.heap.size, 0, none⟩), .pointer (some ⟨w.heap.size + 1, 0, none⟩)]) (by simp) (by simp [go_sem]) ?_
      refine (catch_idle ⟨w.heap.size, 0, none⟩ ⟨w.heap.size + 1, 0, none⟩ _).mono ?_
      rintro e u' w3 ⟨rfl, rfl, rfl⟩
      simp [Leaves, settle, results, Tryz.results26, go_sem, v0, v1, v2, v3, v4, g0, g1]
      rw [HR.out]
      exact whole_fin (w4 := w4.drewN nq) (hKw4.drewN nq) (by show w2.heap.size ≤ w4.heap.size; rw [HS4.out]; exact Nat.le_refl _) (Rep.keep j _ hrep4 (fun _ _ _ => rfl)) rfl
end Go.Proofs.YtnccaidlcaeeaaaGreatDoor
namespace Go.Proofs.YtnccaidlcaeeaaaGreatDoor
open Go Go.RowKit Go.Maps

def ParsePost (w : World) (e : Ending) (w' : World) : Res J → Prop
  | .ok j _ => ∃ (kd x : Int) (s : ByteArray) (a1 : Option Addr) (l1 c1 : Nat) (a2 : Option Addr) (l2 c2 : Nat), e = .returned (.tuple #[.agg #[.int .i64 kd, .int .i64 x, .string s, .slice a1 l1 c1, .slice a2 l2 c2], .int .i64 0, .int .i64 0]) ∧
      Rep w' w.heap.size w'.heap.size j (five kd x s (.slice a1 l1 c1) (.slice a2 l2 c2))
  | .bad er p => e = .returned (.tuple #[.agg #[.int .i64 0, .int .i64 0, .string noS, .slice none 0 0, .slice none 0 0], .int .i64 er, .int .i64 p])

def wPar (w : World) (T : ByteArray) : World := (w.alloc (.cells #[.int .i64 0, .int .i64 0, .string noS, .slice none 0 0, .slice none 0 0] 25)).alloc (.cells #[.string T, .int .i64 0] 52)
theorem wPar_size (w : World) (T : ByteArray) : (wPar w T).heap.size = w.heap.size + 2 := by simp [wPar]
theorem wPar_old (w : World) (T : ByteArray) {k : Nat} (h : k < w.heap.size) : (wPar w T).heap[k]? = w.heap[k]? := by
  unfold wPar; rw [alloc_old (by simp; omega), alloc_old h]
theorem wPar_0 (w : World) (T : ByteArray) : (wPar w T).heap[w.heap.size]? = some (.cells #[.int .i64 0, .int .i64 0, .string noS, .slice none 0 0, .slice none 0 0] 25 (0, 0)) := by
  unfold wPar; rw [alloc_old (by simp), alloc_at rfl]
theorem wPar_1 (w : World) (T : ByteArray) : At (w.heap.size + 1) T 0 (wPar w T) := by
  unfold At wPar; rw [alloc_at (by simp)]; rfl

theorem drew_heap (X : World) : X.drew.heap = X.heap := rfl
theorem drew_os (X : World) : X.drew.os = X.os := rfl
theorem drew_tape (X : World) : X.drew.tape = X.tape := rfl
theorem drew_out (X : World) : X.drew.output = X.output := rfl
theorem alloc_os (X : World) (o : Obj) : (X.alloc o).os = X.os := rfl
theorem alloc_tape (X : World) (o : Obj) : (X.alloc o).tape = X.tape := rfl
theorem alloc_out (X : World) (o : Obj) : (X.alloc o).output = X.output := rfl
theorem parse_fin {w w1 W : World} {o1 o2 : Obj} (j : J) {kd x : Int} {s : ByteArray} {nm it : Value} (hB : Below w.heap.size w w1) (hs : w.heap.size + 2 ≤ w1.heap.size)
    (hW : W = (put5 ((w1.alloc o1).alloc o2) w.heap.size 0 (.int .i64 kd) (.int .i64 x) (.string s) nm it).drew) :
    Below w.heap.size w W ∧ (Rep w1 (w.heap.size + 2) w1.heap.size j (five kd x s nm it) → Rep W w.heap.size W.heap.size j (five kd x s nm it)) := by
  have hsz : W.heap.size = w1.heap.size + 2 := by rw [hW, drew_heap, put5_size, World.size_alloc, World.size_alloc]
  have hfar : ∀ k, k ≠ w.heap.size → k < w1.heap.size → W.heap[k]? = w1.heap[k]? := fun k hk hk1 => by
    rw [hW, drew_heap, put5_far _ _ _ _ _ hk, alloc_old (by rw [World.size_alloc]; omega), alloc_old hk1]
  have h1 : W.os = w1.os := by rw [hW, drew_os, put5_os, alloc_os, alloc_os]
  have h2 : W.tape = w1.tape := by rw [hW, drew_tape, put5_tape, alloc_tape, alloc_tape]
  have h3 : W.output = w1.output := by rw [hW, drew_out, put5_out, alloc_out, alloc_out]
  clear hW
  refine ⟨⟨h1.trans hB.os, h2.trans hB.tape, h3.trans hB.output, by omega, fun k hk => (hfar k (by omega) (by omega)).trans (hB.block k hk)⟩, fun hr => ?_⟩
  exact Rep.down j _ (Rep.up j _ (Rep.keep j _ hr (fun k ka kb => hfar k (by omega) kb)) (by omega)) (by omega)

set_option maxHeartbeats 1000000 in
theorem parse_any (T : ByteArray) (tx : Nat → Res ByteArray) (hQ : QuotedOk T tx) (w : World) (hE : Env w) (h8 : 8 ≤ w.heap.size) (hT : T.size ≤ 65536) :
    Calls Tryz.prog 14 #[.string T] w fun e w' => ParsePost w e w' (wholeR T tx) ∧ Below w.heap.size w w' := by
  have hA := wPar_1 w T
  have hEp : Env (wPar w T) := hE.keep (fun k hk => wPar_old w T (by omega))
  have hlong : ¬ (65536 : Int) < (T.size : Int) := by omega
  clear hE
  go_enter Tryz.func14, Tryz.ntmps14
  go_wp2_with fail
  refine (whole_any (w.heap.size + 1) T tx hQ (wPar w T) hA hEp (by omega) hT).mono ?_
  rintro e w1 ⟨hp, hK⟩
  have hs1 : w.heap.size + 2 ≤ w1.heap.size := by have := hK.size; rw [wPar_size] at this; exact this
  have p0 := (hK.block w.heap.size (by rw [wPar_size]; omega) (by omega)).trans (wPar_0 w T)
  have pa : ∀ o1 o2, ((w1.alloc o1).alloc o2).heap[w.heap.size]? = some (.cells #[.int .i64 0, .int .i64 0, .string noS, .slice none 0 0, .slice none 0 0] 25 (0, 0)) := fun o1 o2 => by rw [alloc_old (by simp; omega), alloc_old (by omega)]; exact p0
  have r0 : ∀ o1 o2, ((w1.alloc o1).alloc o2).cell? ⟨w.heap.size, 0, none⟩ = some (.int .i64 0) := fun o1 o2 => cell_of (pa o1 o2) 0
  have r1 : ∀ o1 o2, ((w1.alloc o1).alloc o2).cell? ⟨w.heap.size, 1, none⟩ = some (.int .i64 0) := fun o1 o2 => cell_of (pa o1 o2) 1
  have r2 : ∀ o1 o2, ((w1.alloc o1).alloc o2).cell? ⟨w.heap.size, 2, none⟩ = some (.string noS) := fun o1 o2 => cell_of (pa o1 o2) 2
  have r3 : ∀ o1 o2, ((w1.alloc o1).alloc o2).cell? ⟨w.heap.size, 3, none⟩ = some (.slice none 0 0) := fun o1 o2 => cell_of (pa o1 o2) 3
  have r4 : ∀ o1 o2, ((w1.alloc o1).alloc o2).cell? ⟨w.heap.size, 4, none⟩ = some (.slice none 0 0) := fun o1 o2 => cell_of (pa o1 o2) 4
  have rf : ∀ o1 o2 o, ((w1.alloc o1).alloc o2).frozen? ⟨w.heap.size, o, none⟩ = false := fun o1 o2 o => frozen_of (pa o1 o2) o
  have hne1 : ¬ w.heap.size = w1.heap.size := by omega
  have hne2 : ¬ w.heap.size = w1.heap.size + 1 := by omega
  have hB1 : Below w.heap.size w w1 := ⟨hK.os, hK.tape, hK.output, by omega, fun k hk => (hK.block k (by rw [wPar_size]; omega) (by omega)).trans (wPar_old w T hk)⟩
  clear p0 pa hK hEp hA
  cases hr : wholeR T tx with
  | bad er p =>
    rw [hr] at hp
    have hp' : e = _ := hp
    subst hp'
    clear hp
    go_wp2_with fail
    go_region
    go_wp2_with fail
    refine bodyPost_ret (v := .tuple #[.agg #[.int .i64 0, .int .i64 0, .string noS, .slice none 0 0, .slice none 0 0], .int .i64 er, .int .i64 p]) (by simp [results, Tryz.results14, go_sem, r0, r1, r2, r3, r4]) rfl ?_
    rw [hr]
    exact ⟨rfl, (parse_fin .null hB1 hs1 (o1 := .cells #[.int .i64 0, .int .i64 0, .string noS, .slice none 0 0, .slice none 0 0] 25) (o2 := .cells #[.int .i64 er, .int .i64 p] 54) rfl).1⟩
  | ok j n =>
    rw [hr] at hp
    obtain ⟨kd, x, s, a1, l1, c1, a2, l2, c2, rfl, hrep⟩ := hp
    have HREP : Hid (Rep w1 (wPar w T).heap.size w1.heap.size j (five kd x s (.slice a1 l1 c1) (.slice a2 l2 c2))) := hrep
    clear hrep
    go_wp2_with fail
    go_region
    go_wp2_with fail
    refine bodyPost_ret (v := .tuple #[.agg #[.int .i64 kd, .int .i64 x, .string s, .slice a1 l1 c1, .slice a2 l2 c2], .int .i64 0, .int .i64 0]) (by simp [results, Tryz.results14, go_sem, r0, r1, r2, r3, r4]) rfl ?_
    rw [hr]
    have hf := parse_fin j (kd := kd) (x := x) (s := s) (nm := .slice a1 l1 c1) (it := .slice a2 l2 c2) hB1 hs1 (o1 := .cells #[.int .i64 kd, .int .i64 x, .string s, .slice a1 l1 c1, .slice a2 l2 c2] 25) (o2 := .cells #[.int .i64 0, .int .i64 0] 54) rfl
    exact ⟨⟨kd, x, s, a1, l1, c1, a2, l2, c2, rfl, hf.2 (by have h := HREP.out; rw [wPar_size] at h; exact h)⟩, hf.1⟩
end Go.Proofs.YtnccaidlcaeeaaaGreatDoor
