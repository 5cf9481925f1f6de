import Derived.Test.YtgohjkblfojmaaaDoorW22
import Derived.Lib.RuneBytes
namespace Go.Proofs.YtgohjkblfojmaaaDoor
open Go Go.RowKit Go.Maps

def Bd (B : Nat) (acc : List UInt8) (w : World) : Prop := Lib.IsBuilderF 46 5 B B (Lib.byteCells acc) w
structure St (B : Nat) (w w' : World) : Prop where
  below : Below B w w'
  oth : Lib.OthersKept 5 (some B) w w'
theorem St.refl (B : Nat) (w : World) : St B w w := ⟨Below.refl _ _, Lib.OthersKept.refl _ _ _⟩
theorem St.trans {B : Nat} {a b c : World} (h : St B a b) (k : St B b c) : St B a c := ⟨h.below.trans k.below, h.oth.trans k.oth⟩
theorem St.alloc {B : Nat} {a w : World} (h : St B a w) (hB : B ≤ w.heap.size) (o : Obj) : St B a (w.alloc o) := ⟨h.below.alloc hB o, h.oth.alloc o⟩
theorem St.of {B : Nat} {a w : World} (h : Below a.heap.size a w) (hB : B ≤ a.heap.size) : St B a w := ⟨h.mono hB, fun k _ hk _ _ => (h.block k (Array.getElem?_eq_some_iff.1 hk).1).trans hk⟩
/-- A block of cells that are no bytes stays. -/
theorem St.cells {B : Nat} {w w' : World} (h : St B w w') {k : Nat} {c : Array Value} {t : TypeId} {f : Nat × Nat} (hk : w.heap[k]? = some (.cells c t f)) (hb : k ≠ B) (ht : t ≠ 5) : w'.heap[k]? = some (.cells c t f) :=
  h.oth k _ hk (fun e => hb (Option.some.inj e)) (fun c' fz e => ht (by simp only [Obj.cells.injEq] at e; exact e.2.1))
theorem Bd.lt {B : Nat} {acc : List UInt8} {w : World} (h : Bd B acc w) : B < w.heap.size := by
  rcases h with ⟨_, v, hb, _⟩ | ⟨_, v, hb, _⟩
  · exact (Array.getElem?_eq_some_iff.1 hb).1
  · exact (Array.getElem?_eq_some_iff.1 hb).1
theorem Bd.alloc {B : Nat} {acc : List UInt8} {w : World} (h : Bd B acc w) (o : Obj) : Bd B acc (w.alloc o) := Lib.IsBuilderF.alloc h o
theorem Bd.keep {B : Nat} {acc : List UInt8} {w w' : World} (h : Bd B acc w) (hb : Below w.heap.size w w') : Bd B acc w' := by
  rcases h with h | h
  · exact Or.inl (builder_keep h (fun k _ hk => hb.block k hk))
  · exact Or.inr (builder_keep h (fun k _ hk => hb.block k hk))
theorem wB (B : Nat) (acc : List UInt8) (c : UInt8) (w : World) (h : Bd B acc w) (hl : acc.length ≤ 1000000000) :
    Calls Tryd.prog 29 #[.pointer (some ⟨B, 0, none⟩), .int .u8 (c.toNat : Int)] w fun e w' => e = .returned .nilIface ∧ Bd B (acc ++ [c]) w' ∧ St B w w' := by
  refine (Tryd.wrByte B B (Lib.byteCells acc) (c.toNat : Int) w h (by rw [Lib.byteCells_length]; omega) (Nat.le_of_lt h.lt)).mono ?_
  rintro e w' ⟨rfl, h1, h2, h3⟩
  exact ⟨rfl, Or.inr (by rw [Lib.byteCells_append]; exact h1), h2, h3⟩
theorem wS (B : Nat) (acc : List UInt8) (s : ByteArray) (w : World) (h : Bd B acc w) (hl : acc.length ≤ 1000000000) (hs : s.size ≤ 1000000000) :
    Calls Tryd.prog 27 #[.pointer (some ⟨B, 0, none⟩), .string s] w fun e w' => e = .returned (.tuple #[.int .i64 s.size, .nilIface]) ∧ Bd B (acc ++ s.data.toList) w' ∧ St B w w' := by
  refine (Tryd.wrString B B (Lib.byteCells acc) s w h (by rw [Lib.byteCells_length]; omega) (Nat.le_of_lt h.lt)).mono ?_
  rintro e w' ⟨rfl, h1, h2, h3⟩
  exact ⟨rfl, Or.inr (by rw [Lib.byteCells_append]; exact h1), h2, h3⟩
theorem rune_ascii (c : UInt8) (h : c.toNat < 128) : Lib.runeCells (c.toNat : Int) = Lib.byteCells [c] := by
  unfold Lib.runeCells
  rw [Lib.encodeRuneZ_one (by omega) (by omega)]
  rfl
theorem wR (B : Nat) (acc : List UInt8) (c : UInt8) (hc : c.toNat < 128) (w : World) (h : Bd B acc w) (hl : acc.length ≤ 1000000000) :
    Calls Tryd.prog 48 #[.pointer (some ⟨B, 0, none⟩), .int .i32 (c.toNat : Int)] w fun e w' => (∃ v, e = .returned (.tuple #[v, .nilIface])) ∧ Bd B (acc ++ [c]) w' ∧ St B w w' := by
  refine (Tryd.wrRune B B (Lib.byteCells acc) (c.toNat : Int) (by omega) (by omega) w h (by rw [Lib.byteCells_length]; omega) (Nat.le_of_lt h.lt)).mono ?_
  rintro e w' ⟨rfl, h1, h2, h3⟩
  exact ⟨⟨_, rfl⟩, Or.inr (by rw [Lib.byteCells_append, ← rune_ascii c hc]; exact h1), h2, h3⟩

def qT (s : ByteArray) : List UInt8 := [34] ++ s.data.toList ++ [34]
theorem take_byte (s : ByteArray) (k : Nat) (h : k < s.size) : s.data.toList.take (k + 1) = s.data.toList.take k ++ [byteAt s k] := by
  rw [List.take_succ_eq_append_getElem (by simpa using h), ← byteAt_eq h]; rfl
set_option maxHeartbeats 1000000 in
theorem wq_any (B : Nat) (acc : List UInt8) (s : ByteArray) (hs : okT s) (w : World) (h : Bd B acc w) (hl : acc.length ≤ 900000000) :
    Calls Tryd.prog 28 #[.pointer (some ⟨B, 0, none⟩), .string s] w fun e w' => e = .returned (.tuple #[]) ∧ Bd B (acc ++ qT s) w' ∧ St B w w' := by
  have HS : Hid (okT s) := hs
  have hsz := hs.1
  have HB : Hid (Bd B acc w) := h
  clear hs h
  go_enter Tryd.func28, Tryd.ntmps28
  go_wp2_with fail
  refine (wB B acc 34 w HB.out (by omega)).mono ?_
  rintro e w1 ⟨rfl, hb1, hst1⟩
  have hB1 := hb1.lt
  have HB1 : Hid (Bd B (acc ++ [34]) w1) := hb1
  clear hb1
  go_wp2_with fail
  go_loopw [] (fun wr => ∃ pos : Nat, pos ≤ s.size ∧ wr.heap[w1.heap.size]? = some (.stringIter s pos) ∧ Hid (Bd B (acc ++ [34] ++ s.data.toList.take pos) wr) ∧ St B w wr) (fun wr => s.size - wr.iterPos w1.heap.size)
  case atStart => exact ⟨0, Nat.zero_le _, heap_alloc_new w1 _, by unfold Hid; rw [List.take_zero, List.append_nil]; exact HB1.out.alloc (.stringIter s 0), hst1.alloc (Nat.le_of_lt hB1) _⟩
  case round =>
    obtain ⟨pos, hpos, hit, hBd, hst⟩ := hrel
    by_cases hp : pos < s.size
    · have hb := HS.out.2 pos hp
      have he := byteAt_eq hp
      have hnx : ∀ ty, (Instr.next (.pointer (some ⟨w1.heap.size, 0, none⟩)) true ty).run Tryd.prog wr = .ok (.tuple #[.bool true, .int .i64 pos, .int .i32 ((byteAt s pos).toNat : Int)]) (wr.iterAt w1.heap.size s (pos + 1)) := fun ty => by
        rw [Lib.run_next_ascii_at wr w1.heap.size _ pos ty hit hp (by rw [he]; exact hb.2.1), he]
      have hit2 : (wr.iterAt w1.heap.size s (pos + 1)).heap[w1.heap.size]? = some (.stringIter s (pos + 1)) := Lib.iterAt_heap wr w1.heap.size _ pos (pos + 1) hit
      have hBd2 : Bd B (acc ++ [34] ++ s.data.toList.take pos) (wr.iterAt w1.heap.size s (pos + 1)) := Lib.IsBuilderF.iterAt hBd.out hit _
      have hbel2 : Below B w (wr.iterAt w1.heap.size s (pos + 1)) := Lib.below_iterAt hst.below (Nat.le_of_lt hB1) _ _
      have hoth2 : Lib.OthersKept 5 (some B) w (wr.iterAt w1.heap.size s (pos + 1)) := fun k o hk h1 h2 => by
        have hlt : k < w.heap.size := (Array.getElem?_eq_some_iff.1 hk).1
        have := hst1.below.size
        rw [Lib.iterAt_other wr w1.heap.size k s (pos + 1) (by omega)]
        exact hst.oth k o hk h1 h2
      have HIT : Hid (wr.iterPos w1.heap.size = pos) := by simp [Hid, World.iterPos, hit]
      have HIT2 : Hid ((wr.iterAt w1.heap.size s (pos + 1)).heap[w1.heap.size]? = some (.stringIter s (pos + 1))) := hit2
      have HBD2 : Hid (Bd B (acc ++ [34] ++ s.data.toList.take pos) (wr.iterAt w1.heap.size s (pos + 1))) := hBd2
      have HTK : Hid (s.data.toList.take (pos + 1) = s.data.toList.take pos ++ [byteAt s pos]) := take_byte s pos hp
      have HLN : Hid ((acc ++ [34] ++ s.data.toList.take pos).length ≤ 1000000000) := by
        have h1 : (s.data.toList.take pos).length ≤ pos := List.length_take_le _ _
        simp only [Hid, List.length_append, List.length_cons, List.length_nil]; omega
      clear hit hit2 he hBd2
      generalize wr.iterAt w1.heap.size s (pos + 1) = wx at *
      go_wp2_with fail
      refine (esc_no (byteAt s pos) hb.1 hb.2.2.1 hb.2.2.2 wx).mono ?_
      rintro e w2 ⟨rfl, rfl⟩
      go_wp2_with fail
      refine (wR B _ (byteAt s pos) hb.2.1 w2 HBD2.out HLN.out).mono ?_
      rintro e w3 ⟨⟨v, rfl⟩, hb3, hst3⟩
      have hit3 : w3.heap[w1.heap.size]? = some (.stringIter s (pos + 1)) := hst3.oth.iter HIT2.out (by omega)
      have HIT3 : Hid (w3.heap[w1.heap.size]? = some (.stringIter s (pos + 1))) := hit3
      have HB3 : Hid (Bd B (acc ++ [34] ++ s.data.toList.take (pos + 1)) w3) := by unfold Hid; rw [HTK.out, ← List.append_assoc]; exact hb3
      have hstw : St B w w3 := (St.mk hbel2 hoth2).trans hst3
      clear hb3 hit3 hst3 hbel2 hoth2
      go_wp2_with fail
      go_roundw
      case rel => exact ⟨pos + 1, by omega, HIT3.out, HB3, hstw⟩
      case measure =>
        have h2 : w3.iterPos w1.heap.size = pos + 1 := by unfold World.iterPos; rw [HIT3.out]
        rw [h2, HIT.out]
        omega
    · have hpe : pos = s.size := by omega
      have hnx : ∀ ty, (Instr.next (.pointer (some ⟨w1.heap.size, 0, none⟩)) true ty).run Tryd.prog wr = .ok (.tuple #[.bool false]) wr := fun ty => Lib.run_next_end_at wr w1.heap.size _ pos ty hit (by omega)
      have HBE : Hid (Bd B (acc ++ [34] ++ s.data.toList) wr) := by
        have h := hBd.out
        rw [hpe, List.take_of_length_le (by simp)] at h
        exact h
      have HLN : Hid ((acc ++ [34] ++ s.data.toList).length ≤ 1000000000) := by
        have h1 : s.data.toList.length = s.size := by simp
        simp only [Hid, List.length_append, List.length_cons, List.length_nil, h1]; omega
      clear hit hpe hBd
      go_wp2_with fail
      refine (wB B _ 34 wr HBE.out HLN.out).mono ?_
      rintro e w3 ⟨rfl, hb3, hst3⟩
      have HB3 : Hid (Bd B (acc ++ qT s) w3) := by unfold Hid qT; rw [← List.append_assoc, ← List.append_assoc]; exact hb3
      have hstw : St B w w3 := hst.trans hst3
      clear hb3 hst3
      go_wp2_with fail
      go_end0
      exact ⟨rfl, HB3.out, hstw⟩
end Go.Proofs.YtgohjkblfojmaaaDoor
