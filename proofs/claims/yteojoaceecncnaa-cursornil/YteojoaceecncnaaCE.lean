import Derived.Test.YteojoaceecncnaaCD
import Derived.Test.YteojoaceecncnaaAP
/-! cursor: the places of three items, and their order. -/
namespace Go.Proofs.Yteojoaceecncnaa
open Go Go.RowKit

/-- An item with a number: its cells. -/
def itCs (k : ByteArray) (n : Int) : List Value := [.string k, .int .i64 n, .int .i64 3, .int .i64 n, .string ⟨#[]⟩, .slice none 0 0, .slice none 0 0]
/-- Three items in block b. -/
def ItsAt (w : World) (b : Nat) (kk : Nat → ByteArray) (nn : Nat → Int) : Prop := ∀ i, i < 3 → w.cell? ⟨b, i * 7, none⟩ = some (.string (kk i)) ∧ w.cell? ⟨b, i * 7 + 1, none⟩ = some (.int .i64 (nn i)) ∧ w.cell? ⟨b, i * 7 + 2, none⟩ = some (.int .i64 3) ∧ w.cell? ⟨b, i * 7 + 3, none⟩ = some (.int .i64 (nn i)) ∧ w.cell? ⟨b, i * 7 + 4, none⟩ = some (.string ⟨#[]⟩) ∧ w.cell? ⟨b, i * 7 + 5, none⟩ = some (.slice none 0 0) ∧ w.cell? ⟨b, i * 7 + 6, none⟩ = some (.slice none 0 0)
theorem ItsAt.frame {S : Nat → Prop} {w w' : World} {b : Nat} {kk : Nat → ByteArray} {nn : Nat → Int} (h : ItsAt w b kk nn) (hf : Fr S w w') (hS : ¬ S b) : ItsAt w' b kk nn := fun i hi => by
  obtain ⟨h0, h1, h2, h3, h4, h5, h6⟩ := h i hi
  exact ⟨hf.cell h0 hS, hf.cell h1 hS, hf.cell h2 hS, hf.cell h3 hS, hf.cell h4 hS, hf.cell h5 hS, hf.cell h6 hS⟩
theorem ItsAt.keep {w w' : World} {b : Nat} {kk : Nat → ByteArray} {nn : Nat → Int} (h : ItsAt w b kk nn) (hf : Below w.heap.size w w') : ItsAt w' b kk nn := h.frame (S := fun _ => False) (Fr.of_below hf) (fun h => h)
theorem make_p3 (w : World) : (Instr.makeSlice 77 (.int .i64 3) (.int .i64 3)).run Try.prog w = .ok (.slice (some ⟨w.heap.size, 0, none⟩) 3 3) (w.alloc (.cells #[.int .u64 0, .string ⟨#[]⟩, .int .u64 0, .string ⟨#[]⟩, .int .u64 0, .string ⟨#[]⟩] 60)) := by
  kernel_rfl
theorem make_n3 (w : World) : (Instr.makeSlice 79 (.int .i64 3) (.int .i64 3)).run Try.prog w = .ok (.slice (some ⟨w.heap.size, 0, none⟩) 3 3) (w.alloc (.cells #[.int .i64 0, .int .i64 0, .int .i64 0] 3)) := by
  kernel_rfl
/-- Three places in a block of their own, the first n of them laid. -/
def Pl3 (w : World) (b : Nat) (kk : Nat → ByteArray) (n : Nat) : Prop := w.heap[b]? = some (.cells #[.int .u64 (if 0 < n then rankK (kk 0) else 0 : Nat), .string (if 0 < n then kk 0 else ⟨#[]⟩), .int .u64 (if 1 < n then rankK (kk 1) else 0 : Nat), .string (if 1 < n then kk 1 else ⟨#[]⟩), .int .u64 (if 2 < n then rankK (kk 2) else 0 : Nat), .string (if 2 < n then kk 2 else ⟨#[]⟩)] 60 (0, 0))
theorem Pl3.next {w : World} {b n : Nat} {kk : Nat → ByteArray} (h : Pl3 w b kk n) (hn : n < 3) : Pl3 ((w.setCell ⟨b, n * 2, none⟩ (.int .u64 (rankK (kk n)))).setCell ⟨b, n * 2 + 1, none⟩ (.string (kk n))) b kk (n + 1) := by
  unfold Pl3 at *
  rcases n with _ | _ | _ | n
  · simp [World.setCell, Array.getElem?_modify, h]
  · simp [World.setCell, Array.getElem?_modify, h]
  · simp [World.setCell, Array.getElem?_modify, h]
  · omega
theorem Pl3.there {w : World} {b n j : Nat} {kk : Nat → ByteArray} (h : Pl3 w b kk n) (hj : j < 3) : (∃ x y, w.cell? ⟨b, j * 2, none⟩ = some x ∧ w.cell? ⟨b, j * 2 + 1, none⟩ = some y) ∧ w.frozen? ⟨b, j * 2, none⟩ = false ∧ w.frozen? ⟨b, j * 2 + 1, none⟩ = false := by
  unfold Pl3 at h
  rcases j with _ | _ | _ | j
  · simp [World.cell?, World.frozen?, h]
  · simp [World.cell?, World.frozen?, h]
  · simp [World.cell?, World.frozen?, h]
  · omega
theorem Pl3.all {w : World} {b : Nat} {kk : Nat → ByteArray} (h : Pl3 w b kk 3) {j : Nat} (hj : j < 3) : w.cell? ⟨b, j * 2, none⟩ = some (.int .u64 (rankK (kk j))) ∧ w.cell? ⟨b, j * 2 + 1, none⟩ = some (.string (kk j)) := by
  unfold Pl3 at h
  rcases j with _ | _ | _ | j
  · simp [World.cell?, h]
  · simp [World.cell?, h]
  · simp [World.cell?, h]
  · omega
theorem Pl3.keep {w w' : World} {b n : Nat} {kk : Nat → ByteArray} (h : Pl3 w b kk n) (hb : Below w.heap.size w w') : Pl3 w' b kk n := (hb.block _ (Array.getElem?_eq_some_iff.1 h).1).trans h
theorem Pl3.zero {w : World} {kk : Nat → ByteArray} : Pl3 (w.alloc (.cells #[.int .u64 0, .string ⟨#[]⟩, .int .u64 0, .string ⟨#[]⟩, .int .u64 0, .string ⟨#[]⟩] 60)) w.heap.size kk 0 := by
  unfold Pl3
  rw [heap_alloc_new]
  simp
theorem below_set {B : Nat} {x w : World} (h : Below B x w) {p : Addr} {v : Value} (hp : B ≤ p.block) : Below B x (w.setCell p v) := ⟨h.os, h.tape, h.output, by simpa [World.setCell] using h.size, fun k hk => (Below.heap_setCell _ _ _ _ (by omega)).trans (h.block k hk)⟩
set_option maxHeartbeats 4000000 in
theorem placesOf3 (ib c : Nat) (kk : Nat → ByteArray) (nn : Nat → Int) (w : World) (hs : ∀ i, (kk i).size ≤ 9223372036854775806) (hI : ItsAt w ib kk nn) :
    Calls Try.prog 21 #[.slice (some ⟨ib, 0, none⟩) 3 c] w fun e w' => e = .returned (.slice (some ⟨w.heap.size, 0, none⟩) 3 3) ∧ Below w.heap.size w w' ∧ Pl3 w' w.heap.size kk 3 := by
  have hmk := make_p3 w
  have hp := fun i W => hid_of (placeOf_any (kk i) (hs i) W)
  replace hI := hid_of hI
  go_enter Try.func21, Try.ntmps21
  go_wp2_with fail
  clear hmk
  have hP0 := hid_of (Pl3.zero (w := w) (kk := kk))
  have hB0 := hid_of ((Below.refl _ w).alloc (Nat.le_refl _) (.cells #[.int .u64 0, .string ⟨#[]⟩, .int .u64 0, .string ⟨#[]⟩, .int .u64 0, .string ⟨#[]⟩] 60))
  go_loopw [11] (fun i wr => ∃ q : Nat, q ≤ 3 ∧ i = .int .i64 q ∧ Below w.heap.size w wr ∧ Pl3 wr w.heap.size kk q) (fun i _ => 3 - (intOf i).toNat)
  case atStart => exact ⟨0, Nat.zero_le _, rfl, hB0.out, hP0.out⟩
  case round =>
    clear hP0 hB0
    rename_i wr
    obtain ⟨q, hq, rfl, hB, hP⟩ := hrel
    replace hB := hid_of hB
    replace hP := hid_of hP
    by_cases hlt : q < 3
    · have hd1 : decide ((q : Int) < 3) = true := by simp; omega
      obtain ⟨h0, h1, h2, h3, h4, h5, h6⟩ := hI.out.keep hB.out q hlt
      go_wp2_with fail
      have hB1 := hid_of (hB.out.alloc hB.out.size (.cells (itCs (kk q) (nn q)).toArray 50))
      have hP1 := hid_of (hP.out.keep ((Below.refl _ wr).alloc (Nat.le_refl _) (.cells (itCs (kk q) (nn q)).toArray 50)))
      unfold itCs at hB1 hP1
      clear hB hP h0 h1 h2 h3 h4 h5 h6
      refine (hp q _).out.mono ?_
      rintro e X1 ⟨rfl, hX⟩
      replace hB1 := hid_of (hB1.out.trans (hX.mono hB1.out.size))
      replace hP1 := hid_of (hP1.out.keep hX)
      clear hX
      obtain ⟨⟨x, y, c0, c1⟩, f0, f1⟩ := hP1.out.there hlt
      go_wp2_with fail
      go_roundw
      case rel => exact ⟨q + 1, by omega, by simp, below_set (below_set hB1.out (Nat.le_refl _)) (Nat.le_refl _), hP1.out.next hlt⟩
      case measure => simp [intOf]; omega
    · obtain rfl : q = 3 := by omega
      go_wp2_with fail
      go_ret
      exact ⟨rfl, hB.out, hP.out⟩
end Go.Proofs.Yteojoaceecncnaa
