import Derived.Test.YtloeongljbgmnaaHD
import Derived.Deep.AppendLies
import Derived.Deep.AppendSrc
/-! heap: a heap in memory; what is looked at. -/
namespace Go.Proofs.Ytloeongljbgmnaa
open Go Go.RowKit
/-- A node. -/
structure Nd where
  gen : Int
  live : Bool
  val : Int
def ifN (n : Nat) : Value := .iface 209 (.pointer (some ⟨n, 0, none⟩))
def rowN (N : Nat → Nat) (k : Nat) : List Value := (List.range k).map fun i => ifN (N i)
/-- Where a heap lies. -/
structure Pl where
  wb : Nat
  pb : Nat
  mb : Nat
  cnt : Int
  sa : Option Addr
  rest : Option Addr
  mv : Value
  nx : Value
  N : Nat → Nat
structure HeapV (lo : Nat) (w : World) (hb : Nat) (obj most : Int) (ns : List Nd) (c : List Int) (cs : List (List Int)) (p : Pl) : Prop where
  hbk : w.heap[hb]? = some (.cells #[.pointer (some ⟨p.wb, 0, none⟩), .int .i64 obj, .int .i64 most, .pointer (some ⟨p.pb, 0, none⟩), .pointer (some ⟨p.mb, 0, none⟩), p.nx] 158 (0, 0))
  wbk : w.heap[p.wb]? = some (.cells #[.bool false] 55 (0, 0))
  pbk : w.heap[p.pb]? = some (.cells (pCs obj 0 p.cnt p.sa c.length c.length p.rest) 177 (0, 0))
  pool : PoolRep lo w c cs p.cnt p.sa p.rest
  mbk : w.heap[p.mb]? = some (.cells #[p.mv] 168 (0, 0))
  row : w.ownsRow lo 132 1 p.mv ns.length (rowN p.N ns.length)
  nd : ∀ i x, ns[i]? = some x → w.heap[p.N i]? = some (.cells (nCs obj ((i : Int) + 1) x.gen x.live x.val) 219 (0, 0))
  inj : ∀ i j, i < ns.length → j < ns.length → p.N i = p.N j → i = j
  lh : lo ≤ hb
  lp : lo ≤ p.pb
  ln : ∀ i, i < ns.length → lo ≤ p.N i
/-- The types of blocks that a heap writes. -/
def hotT (t : TypeId) : Bool := t == 158 || t == 177 || t == 219 || t == 132
def hotO : Obj → Bool
  | .cells _ t _ => hotT t
  | _ => false
/-- All that a heap does not write, and all below lo, is as it was. -/
structure FT (lo : Nat) (w w' : World) : Prop where
  below : Below lo w w'
  cold : ∀ (b : Nat) o, w.heap[b]? = some o → hotO o = false → w'.heap[b]? = some o
theorem FT.refl (lo : Nat) (w : World) : FT lo w w := ⟨Below.refl _ _, fun _ _ h _ => h⟩
theorem FT.trans {lo : Nat} {x y z : World} (h : FT lo x y) (k : FT lo y z) : FT lo x z := ⟨h.below.trans k.below, fun b o hb hh => k.cold b o (h.cold b o hb hh) hh⟩
theorem FT.of_below {lo : Nat} {w w' : World} (h : Below w.heap.size w w') (hlo : lo ≤ w.heap.size) : FT lo w w' := ⟨h.mono hlo, fun b _ hb _ => (h.block b (Array.getElem?_eq_some_iff.1 hb).1).trans hb⟩
theorem FT.size {lo : Nat} {w w' : World} (h : FT lo w w') : w.heap.size ≤ w'.heap.size := h.below.size
theorem FT.of_fr {lo nb : Nat} {w w' : World} {o : Obj} (h : Fr (· = nb) w w') (ho : w.heap[nb]? = some o) (hh : hotO o = true) (hlo : lo ≤ nb) : FT lo w w' := by
  have hn := (Array.getElem?_eq_some_iff.1 ho).1
  refine ⟨h.below (by omega) (fun i hi => by omega), fun b o' hb hc => (h.block b (Array.getElem?_eq_some_iff.1 hb).1 (fun e => ?_)).trans hb⟩
  subst e
  rw [ho] at hb
  cases hb
  rw [hh] at hc
  cases hc
theorem FT.still {lo : Nat} {w w' : World} (h : FT lo w w') : Still w w' := fun b cs hb => by
  rcases hb with hb | hb
  · exact (h.cold b _ hb rfl).trans hb.symm
  · exact (h.cold b _ hb rfl).trans hb.symm
theorem ownsRow_keep {w w' : World} {lo : Nat} {e : TypeId} {size n : Nat} {v : Value} {xs : List Value} (h : w.ownsRow lo e size v n xs) (hk : ∀ (g : Nat) (cs : Array Value), w.heap[g]? = some (Obj.cells cs e (0, 0)) → w'.heap[g]? = w.heap[g]?) : w'.ownsRow lo e size v n xs := by
  obtain ⟨h1, h2⟩ := h
  refine ⟨h1, ?_⟩
  rcases h2 with h2 | ⟨g', cap', cur, hv, hg, hh, r⟩
  · exact .inl h2
  · exact .inr ⟨g', cap', cur, hv, hg, (hk g' _ hh).trans hh, r⟩
theorem HeapV.keep {lo : Nat} {w w' : World} {hb : Nat} {obj most : Int} {ns : List Nd} {c : List Int} {cs : List (List Int)} {p : Pl} (h : HeapV lo w hb obj most ns c cs p) (hk : ∀ b, b < w.heap.size → w'.heap[b]? = w.heap[b]?) : HeapV lo w' hb obj most ns c cs p := by
  have k : ∀ {b : Nat} {o : Obj}, w.heap[b]? = some o → w'.heap[b]? = some o := fun {b o} e => (hk b (Array.getElem?_eq_some_iff.1 e).1).trans e
  exact ⟨k h.hbk, k h.wbk, k h.pbk, h.pool.keep (fun b cs hb => hb.elim (fun e => (k e).trans e.symm) (fun e => (k e).trans e.symm)), k h.mbk, ownsRow_keep h.row (fun g cs e => (k e).trans e.symm), fun i x hx => k (h.nd i x hx), h.inj, h.lh, h.lp, h.ln⟩
theorem HeapV.under {lo : Nat} {w w' : World} {hb : Nat} {obj most : Int} {ns : List Nd} {c : List Int} {cs : List (List Int)} {p : Pl} (h : HeapV lo w hb obj most ns c cs p) (hk : Below w.heap.size w w') : HeapV lo w' hb obj most ns c cs p := h.keep hk.block
theorem ownsRow_form {w : World} {lo : Nat} {e : TypeId} {size n : Nat} {v : Value} {xs : List Value} (h : w.ownsRow lo e size v n xs) : ∃ (a : Option Addr) (cap : Nat), v = .slice a n cap ∧ n ≤ cap ∧ cap ≤ maxLen ∧ (0 < n → ∃ g, a = some ⟨g, 0, none⟩) := by
  obtain ⟨h1, h2⟩ := h
  rcases h2 with ⟨hv, h0⟩ | ⟨g', cap', cur, hv, hg, hh, hc, hm, hs, hr⟩
  · subst h0
    exact ⟨none, 0, hv, by omega, by unfold maxLen; omega, fun h => by omega⟩
  · exact ⟨_, cap', hv, hc, hm, fun _ => ⟨g', rfl⟩⟩
theorem ownsRow_cell {w : World} {lo : Nat} {e : TypeId} {size n g cap : Nat} {xs : List Value} (h : w.ownsRow lo e size (.slice (some ⟨g, 0, none⟩) n cap) n xs) {k : Nat} {u : Value} (hk : xs[k]? = some u) : w.cell? ⟨g, k, none⟩ = some u := by
  obtain ⟨h1, h2⟩ := h
  rcases h2 with ⟨hv, _⟩ | ⟨g', cap', cur, hv, hg, hh, hc, hm, hs, hr⟩
  · cases hv
  · cases hv
    have hlt : k < n * size := by have := (List.getElem?_eq_some_iff.1 hk).1; omega
    rw [← hr, List.getElem?_take_of_lt hlt, Array.getElem?_toList] at hk
    simp [World.cell?, hh, hk]
section
variable {lo : Nat} {w : World} {hb : Nat} {obj most : Int} {ns : List Nd} {c : List Int} {cs : List (List Int)} {p : Pl}
set_option maxRecDepth 100000 in
set_option maxHeartbeats 1000000 in
theorem made_any (h : HeapV lo w hb obj most ns c cs p) : Calls Try.prog 71 #[.pointer (some ⟨hb, 0, none⟩)] w fun e w' => e = .returned (.int .i64 (ns.length : Nat)) ∧ w' = w := by
  obtain ⟨a, cap, hmv, hc, hm, hg⟩ := ownsRow_form h.row
  obtain ⟨-, -, -, -, x4, -⟩ := cells6 h.hbk
  have hmb := h.mbk
  rw [hmv] at hmb
  have hl := hid_of (aload_any hb p.mb _ w x4 hmb)
  have y := cell_of (k := 0) hmb rfl
  clear h hmb hmv
  go_enter Try.func71, Try.ntmps71
  go_wp2_with fail
  refine hl.out.mono ?_
  rintro e W2 ⟨rfl, hw⟩
  obtain rfl : w = W2 := hw.symm
  clear hl hw
  go_wp2_with fail
  go_ret
  exact ⟨rfl, rfl⟩
set_option maxRecDepth 100000 in
set_option maxHeartbeats 1000000 in
theorem count_of (cnt : Int) (sa rest : Option Addr) (n m : Nat) (w : World) : (Instr.field 162 (.agg #[.int .i64 cnt, .slice sa n m, .pointer rest]) 0).run Try.prog w = .ok (.int .i64 cnt) w := by kernel_rfl
/-- What cell answers. -/
def cellV (ns : List Nd) (N : Nat → Nat) (num : Int) : Value := if 1 ≤ num ∧ num ≤ ns.length then .tuple #[ifN (N (num - 1).toNat), .bool true] else .tuple #[.nilIface, .bool false]
set_option maxRecDepth 100000 in
set_option maxHeartbeats 1000000 in
theorem cell_any (h : HeapV lo w hb obj most ns c cs p) (num : Int) : Calls Try.prog 54 #[.pointer (some ⟨hb, 0, none⟩), .int .i64 num] w fun e w' => e = .returned (cellV ns p.N num) ∧ w' = w := by
  have hl := hid_of (made_any h)
  obtain ⟨a, cap, hmv, hc, hm, hg⟩ := ownsRow_form h.row
  have hrow := h.row
  obtain ⟨-, -, -, -, x4, -⟩ := cells6 h.hbk
  have hmb := h.mbk
  rw [hmv] at hmb hrow
  have ha := hid_of (aload_any hb p.mb _ w x4 hmb)
  have y := cell_of (k := 0) hmb rfl
  by_cases h1 : num < 1
  · have e1 : cellV ns p.N num = .tuple #[.nilIface, .bool false] := by unfold cellV; rw [if_neg (by omega)]
    rw [e1]
    clear h hmb hmv hrow ha
    go_enter Try.func54, Try.ntmps54
    go_wp2_with fail
    go_ret2
    exact ⟨rfl, rfl⟩
  by_cases h2 : (ns.length : Int) < num
  · have e1 : cellV ns p.N num = .tuple #[.nilIface, .bool false] := by unfold cellV; rw [if_neg (by omega)]
    rw [e1]
    clear h hmb hmv hrow ha
    go_enter Try.func54, Try.ntmps54
    go_wp2_with fail
    refine hl.out.mono ?_
    rintro e W2 ⟨rfl, hw⟩
    obtain rfl : w = W2 := hw.symm
    clear hl hw
    go_wp2_with fail
    go_ret2
    exact ⟨rfl, rfl⟩
  obtain ⟨k, rfl⟩ : ∃ k : Nat, num = (k : Int) + 1 := ⟨(num - 1).toNat, by omega⟩
  have hk : k < ns.length := by omega
  obtain ⟨g, rfl⟩ := hg (by omega)
  have e1 : cellV ns p.N ((k : Int) + 1) = .tuple #[ifN (p.N k), .bool true] := by
    unfold cellV
    rw [if_pos (by omega), show ((k : Int) + 1 - 1).toNat = k from by omega]
  have hcell := ownsRow_cell hrow (k := k) (u := ifN (p.N k)) (by unfold rowN; rw [List.getElem?_map, List.getElem?_range hk]; rfl)
  rw [e1]
  unfold ifN at hcell ⊢
  unfold maxLen at hm
  clear h hmb hmv hrow e1
  go_enter Try.func54, Try.ntmps54
  go_wp2_with fail
  refine hl.out.mono ?_
  rintro e W2 ⟨rfl, hw⟩
  obtain rfl : w = W2 := hw.symm
  clear hl hw
  go_wp2_with fail
  refine ha.out.mono ?_
  rintro e W2 ⟨rfl, hw⟩
  obtain rfl : w = W2 := hw.symm
  clear ha hw
  go_wp2_with fail
  go_ret2
  exact ⟨rfl, rfl⟩
end
end Go.Proofs.Ytloeongljbgmnaa
