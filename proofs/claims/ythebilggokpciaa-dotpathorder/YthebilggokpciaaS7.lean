import Derived.Test.YthebilggokpciaaS6
import Derived.LoopIn
/-! slices.Backward over a list of turns of any length. -/
namespace Go.Proofs.Ythebilggokpciaa
open Go Go.RowKit Go.Shelf
attribute [local go_sem] Oper.semAt_some

/-- A turn. -/
structure Trn where
  k : Int
  x : Int
  tx : ByteArray
  ns : List ByteArray
  its : List Tr
  an : Option Addr
  cn : Nat
  ai : Option Addr
  ci : Nat
  sg : ByteArray
  m : Nat
def Trn.cells (t : Trn) : List Value := [.int .i64 t.k, .int .i64 t.x, .string t.tx, .slice t.an t.ns.length t.cn, .slice t.ai t.its.length t.ci, .string t.sg, .int .i64 t.m]
/-- The order in which Backward goes. -/
def backs (n q : Nat) : List Nat := (List.range q).map (n - 1 - ·)
theorem backs_succ (n q : Nat) : backs n (q + 1) = backs n q ++ [n - 1 - q] := by simp [backs, List.range_succ]
theorem backs_len (n q : Nat) : (backs n q).length = q := by simp [backs]

/-- What A has in the blocks of U, in cells, B has too. -/
def KpU (U : Nat → Prop) (A B : World) : Prop := ∀ p u, U p.block → A.cell? p = some u → B.cell? p = some u
theorem KpU.trans {U : Nat → Prop} {A B C : World} (h : KpU U A B) (h' : KpU U B C) : KpU U A C := fun p u hp hc => h' p u hp (h p u hp hc)
set_option maxRecDepth 100000 in
set_option maxHeartbeats 1000000 in
theorem back_t_n (F : Fence) (r : Nat) (hf : F.fn 63) (hro : F.round = none) (hr : 1 ≤ r) (Bs n c : Nat) (a : Option Addr) (tf : Nat → Trn) (U : Nat → Prop) (w : World) (hBs : Bs < w.heap.size) (hUB : U Bs) (hn : n ≤ 9223372036854775807)
    (hc : w.cell? ⟨Bs, 0, none⟩ = some (.slice a n c)) (hs : ∀ i, i < n → ∃ g o, a = some ⟨g, o, none⟩ ∧ U g ∧ CellsAt w g (o + i * 7) (tf i).cells) :
    SeqStopsK F r Try.prog 63 #[.pointer (some ⟨Bs, 0, none⟩)] (fun i : Nat => #[Value.int .i64 i, Value.agg (tf i).cells.toArray]) (KpU U) (fun ys => ys = backs n n) (fun _ => True) n w := fun l J Jx W hW _ _ hY h0 => by
  have hc' := (hW.cell (p := ⟨Bs, 0, none⟩) hBs).trans hc
  refine callsIn_of_wp Try.func63 rfl hf ?_ hro
  simp only [Try.ntmps63, List.size_toArray, List.length_cons, List.length_nil, Nat.reduceAdd, Nat.reduceSub, Array.replicate_succ, Array.replicate_zero, List.push_toArray, List.append_toArray, List.nil_append, List.cons_append]
  gi_wp2
  replace hs := hid_of hs; replace hW := hid_of hW; replace hY := hid_of hY
  gi_loopw [3] (fun i wr => ∃ q : Nat, q ≤ n ∧ i = .int .i64 ((n : Int) - 1 - q) ∧ Hid (J (backs n q) wr) ∧ Hid (KpU U W wr)) (fun i _ => (intOf i + 1).toNat)
  case atStart => exact ⟨0, Nat.zero_le _, by simp, hid_of h0, hid_of (fun _ _ _ h => h)⟩
  case round =>
    obtain ⟨q, hq, rfl, hJ, hK⟩ := hrel
    by_cases hlt : q < n
    · obtain ⟨j, hj⟩ : ∃ j : Nat, (n : Int) - 1 - q = (j : Int) := ⟨n - 1 - q, by omega⟩
      have hjq : n - 1 - q = j := by omega
      have hjn : j < n := by omega
      obtain ⟨g, o, rfl, hUg, hcl⟩ := hs.out j hjn
      have cB : wr.cell? ⟨Bs, 0, none⟩ = some (.slice (some ⟨g, o, none⟩) n c) := hK.out _ _ hUB hc'
      have cT : ∀ e u, (tf j).cells[e]? = some u → wr.cell? ⟨g, o + j * 7 + e, none⟩ = some u := fun e u he => hK.out _ _ hUg ((hW.out.cell (cell_lt (hcl e u he))).trans (hcl e u he))
      have c0 : wr.cell? ⟨g, o + j * 7, none⟩ = some (.int .i64 (tf j).k) := cT 0 _ rfl
      have c1 : wr.cell? ⟨g, o + j * 7 + 1, none⟩ = some (.int .i64 (tf j).x) := cT 1 _ rfl
      have c2 : wr.cell? ⟨g, o + j * 7 + 2, none⟩ = some (.string (tf j).tx) := cT 2 _ rfl
      have c3 : wr.cell? ⟨g, o + j * 7 + 3, none⟩ = some (.slice (tf j).an (tf j).ns.length (tf j).cn) := cT 3 _ rfl
      have c4 : wr.cell? ⟨g, o + j * 7 + 4, none⟩ = some (.slice (tf j).ai (tf j).its.length (tf j).ci) := cT 4 _ rfl
      have c5 : wr.cell? ⟨g, o + j * 7 + 5, none⟩ = some (.string (tf j).sg) := cT 5 _ rfl
      have c6 : wr.cell? ⟨g, o + j * 7 + 6, none⟩ = some (.int .i64 (tf j).m) := cT 6 _ rfl
      clear cT hcl
      have i1 : (j : Int) < (n : Int) := by omega
      have i2 : (0 : Int) ≤ (j : Int) := by omega
      have hd : decide ((0 : Int) ≤ (j : Int)) = true := by simp
      obtain ⟨fn, tmps, assign, body, hy, hR⟩ := hY.out (backs n q) j wr hJ.out (by rw [backs_len]; exact hlt)
      unfold Trn.cells at hy
      rw [hj]
      gi_wp2
      refine hR.mono ?_
      rintro e W3 (⟨rfl, hJ3, hk3⟩ | ⟨rfl, hJx3⟩)
      · have hJ' : Hid (J (backs n (q + 1)) W3) := hid_of (by rw [backs_succ, hjq]; exact hJ3)
        have hK' : Hid (KpU U W W3) := hid_of (hK.out.trans hk3)
        gi_wp2
        go_roundw
        case rel => exact ⟨q + 1, by omega, by congr 1; omega, hJ', hK'⟩
        case measure => first | (simp [intOf]; done) | (simp [intOf]; omega)
      · gi_wp2
        refine bodyPost_ret (results_none rfl _ _ _) rfl ?_
        exact ⟨⟨_, rfl⟩, .inr ⟨_, trivial, hJx3⟩⟩
    · obtain rfl : q = n := by omega
      have hd : decide ((0 : Int) ≤ ((q : Int) - 1 - q)) = false := by simp; omega
      gi_wp2
      go_end0
      exact ⟨⟨_, rfl⟩, .inl ⟨_, rfl, hJ.out⟩⟩
end Go.Proofs.Ythebilggokpciaa
