import Derived.Test.YteghmgjdibdnlaaGreatDoorS3
namespace Go.Proofs.YteghmgjdibdnlaaGreatDoor
open Go Go.RowKit

/-- The list that is being read: its variable v at block bv; the reader's and the depth's variables at br, bd. -/
structure ListInv (base b bv br bd : Nat) (d : Int) (w0 wI : World) (l : List J) (w : World) : Prop where
  env : Env w
  kp : Kp b w0 w
  hb : b < w0.heap.size
  hba : w0.heap.size ≤ base ∧ base ≤ w.heap.size
  fx : ∀ k, k < base → k ≠ b → k ≠ bv → w.heap[k]? = wI.heap[k]?
  lo : w0.heap.size ≤ bv ∧ w0.heap.size ≤ br ∧ w0.heap.size ≤ bd ∧ bv < w.heap.size ∧ br < w.heap.size ∧ bd < w.heap.size
  hbr : w.heap[br]? = some (.cells #[.pointer (some ⟨b, 0, none⟩)] 81 (0, 0))
  hbd : w.heap[bd]? = some (.cells #[.int .i64 d] 3 (0, 0))
  val : ItemsInv base bv (.int .i64 5) nilS [bv, br, bd, b] l w

theorem list_close {base b bv br bd : Nat} {d : Int} {w0 wI w W : World} {l : List J} {j : J} {ao : Option Addr} {cap : Nat}
    (hE : Env w) (hK : Kp b w0 w) (hb : b < w0.heap.size) (hba : w0.heap.size ≤ base ∧ base ≤ w.heap.size) (hfx : ∀ k, k < base → k ≠ b → k ≠ bv → w.heap[k]? = wI.heap[k]?) (hb8 : 8 ≤ b) (lo : w0.heap.size ≤ bv ∧ w0.heap.size ≤ br ∧ w0.heap.size ≤ bd ∧ bv < w.heap.size ∧ br < w.heap.size ∧ bd < w.heap.size) (hdis : br ≠ bv ∧ bd ≠ bv)
    (hbr : w.heap[br]? = some (.cells #[.pointer (some ⟨b, 0, none⟩)] 81 (0, 0))) (hbd : w.heap[bd]? = some (.cells #[.int .i64 d] 3 (0, 0)))
    (hge : ∀ g, (Value.slice ao l.length cap).ownBlock = some g → base ≤ g) (hne : ∀ g, (Value.slice ao l.length cap).ownBlock = some g → g ≠ bv ∧ g ≠ br ∧ g ≠ bd ∧ g ≠ b)
    (f1 : ItemsInv base bv (.int .i64 5) nilS [bv, br, bd, b] (l ++ [j]) W) (f3 : W.os = w.os) (f4 : W.tape = w.tape) (f5 : W.output = w.output) (f6 : w.heap.size ≤ W.heap.size)
    (f7 : ∀ k, k < w.heap.size → k ≠ b → k ≠ bv → (∀ g0, (Value.slice ao l.length cap).ownBlock = some g0 → k ≠ g0) → W.heap[k]? = w.heap[k]?) : ListInv base b bv br bd d w0 wI (l ++ [j]) W := by
  obtain ⟨lo1, lo2, lo3, lo4, lo5, lo6⟩ := lo
  have hlow : ∀ k, k < base → k ≠ b → k ≠ bv → W.heap[k]? = w.heap[k]? := fun k hk hkb hkv => f7 k (by omega) hkb hkv (fun g0 hg0 => by have := hge g0 hg0; omega)
  refine ⟨hE.keep (fun k hk => hlow k (by omega) (by omega) (by omega)), ⟨f3.trans hK.os, f4.trans hK.tape, f5.trans hK.output, Nat.le_trans hK.size f6, fun k hk hkb => (hlow k (by omega) hkb (by omega)).trans (hK.block k hk hkb)⟩, hb, ⟨hba.1, by omega⟩, fun k hk hkb hkv => (hlow k hk hkb hkv).trans (hfx k hk hkb hkv), ⟨lo1, lo2, lo3, by omega, by omega, by omega⟩, ?_, ?_, f1⟩
  · rw [f7 br lo5 (by omega) hdis.1 (fun g0 h0 e => (hne g0 h0).2.1 e.symm)]; exact hbr
  · rw [f7 bd lo6 (by omega) hdis.2 (fun g0 h0 e => (hne g0 h0).2.2.1 e.symm)]; exact hbd
end Go.Proofs.YteghmgjdibdnlaaGreatDoor
