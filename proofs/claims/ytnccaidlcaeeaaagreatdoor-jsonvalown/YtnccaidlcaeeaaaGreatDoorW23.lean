import Derived.Test.YtnccaidlcaeeaaaGreatDoorW22
import Derived.Lib.RuneBytes
namespace Go.Proofs.YtnccaidlcaeeaaaGreatDoor
open Go Go.RowKit Go.Maps

def Bd (B : Nat) (acc : List UInt8) (w : World) : Prop := Lib.IsBuilderF 64 5 B B (Lib.byteCells acc) w
structure St (B : Nat) (w w' : World) : Prop where
  below : Below B w w'
  oth : Lib.OthersKept 5 (some B) w w'
theorem St.refl (B : Nat) (w : World) : St B w w := ⟨Below.refl _ _, Lib.OthersKept.refl _ _ _⟩
theorem St.trans {B : Nat} {a b c : World} (h : St B a b) (k : St B b c) : St B a c := ⟨h.below.trans k.below, h.oth.trans k.oth⟩
theorem St.alloc {B : Nat} {a w : World} (h : St B a w) (hB : B ≤ w.heap.size) (o : Obj) : St B a (w.alloc o) := ⟨h.below.alloc hB o, h.oth.alloc o⟩
theorem St.of {B : Nat} {a w : World} (h : Below a.heap.size a w) (hB : B ≤ a.heap.size) : St B a w := ⟨h.mono hB, fun k _ hk _ _ => (h.block k (Array.getElem?_eq_some_iff.1 hk).1).trans hk⟩
/-- A block of cells that are no bytes stays. -/
theorem St.cells {B : Nat} {w w' : World} (h : St B w w') {k : Nat} {c : Array Value} {t : TypeId} {f : Nat × Nat} (hk : w.heap[k]? = some (.cells c t f)) (hb : k ≠ B) (ht : t ≠ 5) : w'.heap[k]? = some (.cells c t f) :=
  h.oth k _ hk (fun e => hb (Option.some.inj e)) (fun c' fz e => ht (by simp only [Obj.cells.injEq] at e; exact e.2.1))
theorem Bd.lt {B : Nat} {acc : List UInt8} {w : World} (h : Bd B acc w) : B < w.heap.size := by
  rcases h with ⟨_, v, hb, _⟩ | ⟨_, v, hb, _⟩
  · exact (Array.getElem?_eq_some_iff.1 hb).1
  · exact (Array.getElem?_eq_some_iff.1 hb).1
theorem Bd.alloc {B : Nat} {acc : List UInt8} {w : World} (h : Bd B acc w) (o : Obj) : Bd B acc (w.alloc o) := Lib.IsBuilderF.alloc h o
theorem Bd.keep {B : Nat} {acc : List UInt8} {w w' : World} (h : Bd B acc w) (hb : Below w.heap.size w w') : Bd B acc w' := by
  rcases h with h | h
  · exact Or.inl (builder_keep h (fun k _ hk => hb.block k hk))
  · exact Or.inr (builder_keep h (fun k _ hk => hb.block k hk))
theorem wB (B : Nat) (acc : List UInt8) (c : UInt8) (w : World) (h : Bd B acc w) (hl : acc.length ≤ 1000000000) :
    Calls Tryz.prog 52 #[.pointer (some ⟨B, 0, none⟩), .int .u8 (c.toNat : Int)] w fun e w' => e = .returned .nilIface ∧ Bd B (acc ++ [c]) w' ∧ St B w w' := by
  refine (Tryz.wrByte B B (Lib.byteCells acc) (c.toNat : Int) w h (by rw [Lib.byteCells_length]; omega) (Nat.le_of_lt h.lt)).mono ?_
  rintro e w' ⟨rfl, h1, h2, h3⟩
  exact ⟨rfl, Or.inr (by rw [Lib.byteCells_append]; exact h1), h2, h3⟩
theorem wS (B : Nat) (acc : List UInt8) (s : ByteArray) (w : World) (h : Bd B acc w) (hl : acc.length ≤ 1000000000) (hs : s.size ≤ 1000000000) :
    Calls Tryz.prog 50 #[.pointer (some ⟨B, 0, none⟩), .string s] w fun e w' => e = .returned (.tuple #[.int .i64 s.size, .nilIface]) ∧ Bd B (acc ++ s.data.toList) w' ∧ St B w w' := by
  refine (Tryz.wrString B B (Lib.byteCells acc) s w h (by rw [Lib.byteCells_length]; omega) (Nat.le_of_lt h.lt)).mono ?_
  rintro e w' ⟨rfl, h1, h2, h3⟩
  exact ⟨rfl, Or.inr (by rw [Lib.byteCells_append]; exact h1), h2, h3⟩
theorem wRn (B : Nat) (acc : List UInt8) (c : Nat) (hc : c ≤ 1114111) (w : World) (h : Bd B acc w) (hl : acc.length ≤ 1000000000) :
    Calls Tryz.prog 76 #[.pointer (some ⟨B, 0, none⟩), .int .i32 (c : Int)] w fun e w' => (∃ v, e = .returned (.tuple #[v, .nilIface])) ∧ Bd B (acc ++ encB c) w' ∧ St B w w' := by
  refine (Tryz.wrRune B B (Lib.byteCells acc) (c : Int) (by omega) (by omega) w h (by rw [Lib.byteCells_length]; omega) (Nat.le_of_lt h.lt)).mono ?_
  rintro e w' ⟨rfl, h1, h2, h3⟩
  exact ⟨⟨_, rfl⟩, Or.inr (by rw [Lib.byteCells_append, encB, Lib.byteCells_encodeRune]; exact h1), h2, h3⟩
theorem Bd.drewN {B : Nat} {acc : List UInt8} {w : World} (h : Bd B acc w) (n : Nat) : Bd B acc (w.drewN n) := h.keep ⟨rfl, rfl, rfl, Nat.le_refl _, fun _ _ => rfl⟩
theorem St.drewN {B : Nat} {a w : World} (h : St B a w) (n : Nat) : St B a (w.drewN n) := ⟨below_drewN h.below n, fun k o hk h1 h2 => h.oth k o hk h1 h2⟩
set_option maxHeartbeats 1000000 in
theorem wq_any (B : Nat) (acc : List UInt8) (s : ByteArray) (hs : okT s) (w : World) (h : Bd B acc w) (hl : acc.length ≤ 900000000) :
    Calls Tryz.prog 51 #[.pointer (some ⟨B, 0, none⟩), .string s] w fun e w' => e = .returned (.tuple #[]) ∧ Bd B (acc ++ qT s) w' ∧ St B w w' := by
  have HV : Hid (Lib.validD (tl s 0) = true) := hs.2
  have hsz := hs.1
  have HB : Hid (Bd B acc w) := h
  clear hs h
  go_enter Tryz.func51, Tryz.ntmps51
  go_wp2_with fail
  refine (wB B acc 34 w HB.out (by omega)).mono ?_
  rintro e w1 ⟨rfl, hb1, hst1⟩
  have hB1 := hb1.lt
  have HB1 : Hid (Bd B (acc ++ [34]) w1) := hb1
  clear hb1
  go_wp2_with fail
  go_loopw [] (fun wr => ∃ pos : Nat, pos ≤ s.size ∧ wr.heap[w1.heap.size]? = some (.stringIter s pos) ∧ Hid (Bd B (acc ++ [34] ++ eT s pos) wr) ∧ St B w wr ∧ Hid (Lib.validD (tl s pos) = true)) (fun wr => s.size - wr.iterPos w1.heap.size)
  case atStart => exact ⟨0, Nat.zero_le _, heap_alloc_new w1 _, by unfold Hid eT; rw [List.take_zero, escT_nil, List.append_nil]; exact HB1.out.alloc (.stringIter s 0), hst1.alloc (Nat.le_of_lt hB1) _, HV⟩
  case round =>
    obtain ⟨pos, hpos, hit, hBd, hst, HVp⟩ := hrel
    have HLN : Hid ((acc ++ [34] ++ eT s pos).length ≤ 1000000000) := by
      have h1 := eT_len s pos hpos
      simp only [Hid, List.length_append, List.length_cons, List.length_nil]; omega
    by_cases hp : pos < s.size
    · have HC := hid' (char_at hp HVp.out)
      have HIT : Hid (wr.iterPos w1.heap.size = pos) := by simp [Hid, World.iterPos, hit]
      have hnx : ∀ ty, (Instr.next (.pointer (some ⟨w1.heap.size, 0, none⟩)) true ty).run Tryz.prog wr = .ok (.tuple #[.bool true, .int .i64 pos, .int .i32 ((Utf8.decode s pos).1 : Int)]) (wr.iterAt w1.heap.size s (pos + (Utf8.decode s pos).2)) := fun ty => Lib.run_next_any_at wr w1.heap.size _ pos ty hit hp
      generalize (Utf8.decode s pos).1 = c at *
      generalize (Utf8.decode s pos).2 = k at *
      have hit2 : (wr.iterAt w1.heap.size s (pos + k)).heap[w1.heap.size]? = some (.stringIter s (pos + k)) := Lib.iterAt_heap wr w1.heap.size _ pos (pos + k) hit
      have hBd2 : Bd B (acc ++ [34] ++ eT s pos) (wr.iterAt w1.heap.size s (pos + k)) := Lib.IsBuilderF.iterAt hBd.out hit _
      have hbel2 : Below B w (wr.iterAt w1.heap.size s (pos + k)) := Lib.below_iterAt hst.below (Nat.le_of_lt hB1) _ _
      have hoth2 : Lib.OthersKept 5 (some B) w (wr.iterAt w1.heap.size s (pos + k)) := fun k' o hk h1 h2 => by
        have hlt : k' < w.heap.size := (Array.getElem?_eq_some_iff.1 hk).1
        have := hst1.below.size
        rw [Lib.iterAt_other wr w1.heap.size k' s (pos + k) (by omega)]
        exact hst.oth k' o hk h1 h2
      have HIT2 : Hid ((wr.iterAt w1.heap.size s (pos + k)).heap[w1.heap.size]? = some (.stringIter s (pos + k))) := hit2
      have HBD2 : Hid (Bd B (acc ++ [34] ++ eT s pos) (wr.iterAt w1.heap.size s (pos + k))) := hBd2
      have hst2 : St B w (wr.iterAt w1.heap.size s (pos + k)) := ⟨hbel2, hoth2⟩
      have HGE : Hid (pos + k ≤ s.size ∧ 1 ≤ k) := ⟨HC.out.le, HC.out.ge⟩
      clear hit hit2 hBd2 hbel2 hoth2
      generalize wr.iterAt w1.heap.size s (pos + k) = wx at *
      go_wp2_with fail
      refine (esc_is c wx).mono ?_
      rintro e w2 ⟨rfl, rfl⟩
      cases hesc : isEsc c with
      | true =>
        have HK : Hid (eT s (pos + k) = eT s pos ++ escB c) := by have := HC.out.txt; rw [if_pos hesc] at this; exact this
        go_wp2_with fail
        refine (esc45_any c hesc w2).mono ?_
        rintro e w3 ⟨rfl, nd, rfl⟩
        have HIT3 : Hid ((w2.drewN nd).heap[w1.heap.size]? = some (.stringIter s (pos + k))) := HIT2.out
        have HBD3 : Hid (Bd B (acc ++ [34] ++ eT s pos) (w2.drewN nd)) := HBD2.out.drewN nd
        have hst3 : St B w (w2.drewN nd) := hst2.drewN nd
        have HES : Hid ((⟨(escB c).toArray⟩ : ByteArray).size ≤ 1000000000) := by
          unfold Hid; show (escB c).toArray.size ≤ _
          have := esc_size c
          rw [List.size_toArray]; omega
        clear hesc hst2
        generalize w2.drewN nd = w4 at *
        go_wp2_with fail
        refine (wS B _ ⟨(escB c).toArray⟩ w4 HBD3.out HLN.out HES.out).mono ?_
        rintro e w5 ⟨rfl, hb5, hst5⟩
        have HIT5 : Hid (w5.heap[w1.heap.size]? = some (.stringIter s (pos + k))) := hst5.oth.iter HIT3.out (by omega)
        have HB5 : Hid (Bd B (acc ++ [34] ++ eT s (pos + k)) w5) := by unfold Hid; rw [HK.out, ← List.append_assoc]; exact hb5
        have hstw : St B w w5 := hst3.trans hst5
        clear hb5 hst5 hst3
        go_wp2_with fail
        go_roundw
        case rel => exact ⟨pos + k, HGE.out.1, HIT5.out, HB5, hstw, HC.out.next⟩
        case measure =>
          have h2 : w5.iterPos w1.heap.size = pos + k := by unfold World.iterPos; rw [HIT5.out]
          rw [h2, HIT.out]
          have := HGE.out
          omega
      | false =>
        have HK : Hid (eT s (pos + k) = eT s pos ++ encB c) := by have := HC.out.txt; rw [if_neg (by rw [hesc]; decide)] at this; exact this
        clear hesc
        go_wp2_with fail
        refine (wRn B _ c HC.out.rng w2 HBD2.out HLN.out).mono ?_
        rintro e w3 ⟨⟨v, rfl⟩, hb3, hst3⟩
        have HIT3 : Hid (w3.heap[w1.heap.size]? = some (.stringIter s (pos + k))) := hst3.oth.iter HIT2.out (by omega)
        have HB3 : Hid (Bd B (acc ++ [34] ++ eT s (pos + k)) w3) := by unfold Hid; rw [HK.out, ← List.append_assoc]; exact hb3
        have hstw : St B w w3 := hst2.trans hst3
        clear hb3 hst3 hst2
        go_wp2_with fail
        go_roundw
        case rel => exact ⟨pos + k, HGE.out.1, HIT3.out, HB3, hstw, HC.out.next⟩
        case measure =>
          have h2 : w3.iterPos w1.heap.size = pos + k := by unfold World.iterPos; rw [HIT3.out]
          rw [h2, HIT.out]
          have := HGE.out
          omega
    · have hpe : pos = s.size := by omega
      have hnx : ∀ ty, (Instr.next (.pointer (some ⟨w1.heap.size, 0, none⟩)) true ty).run Tryz.prog wr = .ok (.tuple #[.bool false]) wr := fun ty => Lib.run_next_end_at wr w1.heap.size _ pos ty hit (by omega)
      have HBE : Hid (Bd B (acc ++ [34] ++ escT s.data.toList) wr) := by
        have h := hBd.out
        rw [hpe, eT_end] at h
        exact h
      have HLN2 : Hid ((acc ++ [34] ++ escT s.data.toList).length ≤ 1000000000) := by
        have h := HLN.out
        rw [hpe, eT_end] at h
        exact h
      clear hit hpe hBd
      go_wp2_with fail
      refine (wB B _ 34 wr HBE.out HLN2.out).mono ?_
      rintro e w3 ⟨rfl, hb3, hst3⟩
      have HB3 : Hid (Bd B (acc ++ qT s) w3) := by unfold Hid qT; rw [← List.append_assoc, ← List.append_assoc]; exact hb3
      have hstw : St B w w3 := hst.trans hst3
      clear hb3 hst3
      go_wp2_with fail
      go_end0
      exact ⟨rfl, HB3.out, hstw⟩
end Go.Proofs.YtnccaidlcaeeaaaGreatDoor
