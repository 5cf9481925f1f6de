import Derived.Test.YtnccaidlcaeeaaaGreatDoorOF
import Derived.Test.YtnccaidlcaeeaaaGreatDoorShelfC
/-! jsonval.Copy: every list of what it answers lies in a block of its own. -/
namespace Go.Proofs.YtnccaidlcaeeaaaGreatDoor.Tree
open Go Go.RowKit

set_option maxHeartbeats 1000000 in
theorem jclone_any (s : ByteArray) (hs : s.size ≤ 281474976710656) (w : World) : Calls Tryz.prog 19 #[.string s] w fun e w' => e = .returned (.string s) ∧ Below w.heap.size w w' := by
  go_enter Tryz.func19, Tryz.ntmps19
  go_wp2_with (go_at_call 27; refine (Tryz.stringslite_Clone s _ hs).mono ?_; rintro e w' ⟨rfl, hb⟩)
  go_ret
  exact ⟨rfl, hb⟩
def JCopyOk (its : List Tr) : Prop := ∀ (i : Nat) (u : Tr), its[i]? = some u → ∀ cs w', VRep w' u cs → Calls Tryz.prog 9 #[.agg cs.toArray] w' (OwnPost w' u)
/-- The copy on its way. -/
structure JC (w : World) (box : Array Value) (k x : Int) (s : ByteArray) (bw : Nat) (nv iv : Value) (ns' : List ByteArray) (ts : List Tr) (xs : List Value) (wr : World) : Prop where
  lt : w.heap.size + 1 < bw
  bel : Below w.heap.size w wr
  one : wr.heap[w.heap.size]? = some (.cells box 25 (0, 0))
  two : wr.heap[w.heap.size + 1]? = some (.cells #[.int .i64 0, .int .i64 0, .string ⟨#[]⟩, .slice none 0 0, .slice none 0 0] 25 (0, 0))
  cur : wr.heap[bw]? = some (.cells #[.int .i64 k, .int .i64 x, .string s, nv, iv] 25 (0, 0))
  own1 : wr.ownsRow (w.heap.size + 2) 9 1 nv ns'.length (strs ns')
  own2 : wr.ownsRow (w.heap.size + 2) 25 5 iv ts.length xs
  off1 : nv.ownBlock ≠ some bw
  off2 : iv.ownBlock ≠ some bw
  kids : ∃ kids : List HT, flatH kids = xs ∧ trL kids = ts ∧ OwnFL wr kids ∧ ∀ j ∈ bksL kids, w.heap.size + 1 < j ∧ j ≠ bw ∧ nv.ownBlock ≠ some j ∧ iv.ownBlock ≠ some j
theorem JC.fresh {w : World} {box : Array Value} {k x : Int} {s : ByteArray} {bw : Nat} {nv iv : Value} {ns' : List ByteArray} {ts : List Tr} {xs : List Value} {wr Y : World} (h : JC w box k x s bw nv iv ns' ts xs wr) (hb : Below wr.heap.size wr Y) : JC w box k x s bw nv iv ns' ts xs Y := by
  obtain ⟨kids, k1, k2, k3, k4⟩ := h.kids
  exact ⟨h.lt, h.bel.trans (hb.mono h.bel.size), (hb.block _ (Array.getElem?_eq_some_iff.1 h.one).1).trans h.one, (hb.block _ (Array.getElem?_eq_some_iff.1 h.two).1).trans h.two, (hb.block _ (Array.getElem?_eq_some_iff.1 h.cur).1).trans h.cur, ownsRow_below h.own1 hb, ownsRow_below h.own2 hb, h.off1, h.off2, kids, k1, k2, k3.keep (fun g hg => hb.block g (k3.lt g hg)), k4⟩
theorem JC.drew {w : World} {box : Array Value} {k x : Int} {s : ByteArray} {bw : Nat} {nv iv : Value} {ns' : List ByteArray} {ts : List Tr} {xs : List Value} {wr : World} (h : JC w box k x s bw nv iv ns' ts xs wr) : JC w box k x s bw nv iv ns' ts xs wr.drew := h.fresh (below_drew (Below.refl _ _))
theorem JC.size2 {w : World} {box : Array Value} {k x : Int} {s : ByteArray} {bw : Nat} {nv iv : Value} {ns' : List ByteArray} {ts : List Tr} {xs : List Value} {wr : World} (h : JC w box k x s bw nv iv ns' ts xs wr) : w.heap.size + 2 ≤ wr.heap.size := (Array.getElem?_eq_some_iff.1 h.two).1
theorem jc_new {w Y : World} {box : Array Value} {k x : Int} {s : ByteArray} {bw : Nat} (h1 : w.heap.size + 1 < bw) (h2 : Below w.heap.size w Y) (h3 : Y.heap[w.heap.size]? = some (.cells box 25 (0, 0))) (h4 : Y.heap[w.heap.size + 1]? = some (.cells #[.int .i64 0, .int .i64 0, .string ⟨#[]⟩, .slice none 0 0, .slice none 0 0] 25 (0, 0)))
    (h5 : Y.heap[bw]? = some (.cells #[.int .i64 0, .int .i64 0, .string ⟨#[]⟩, .slice none 0 0, .slice none 0 0] 25 (0, 0))) : JC w box k x s bw (.slice none 0 0) (.slice none 0 0) [] [] [] (put5 Y bw (.int .i64 k) (.int .i64 x) (.string s) (.slice none 0 0) (.slice none 0 0)) :=
  ⟨h1, h2.trans (put5_below (by omega) _ _ _ _ _), (put5_far _ _ _ _ _ (by omega)).trans h3, (put5_far _ _ _ _ _ (by omega)).trans h4, put5_at h5 _ _ _ _ _, World.ownsRow_nil _ _ _ _, World.ownsRow_nil _ _ _ _, by simp [Value.ownBlock], by simp [Value.ownBlock], [], rfl, by simp [trL], ownFL_nil _, fun j hj => by simp [bksL_nil] at hj⟩
/-- One name more. -/
theorem JC.name {w : World} {box : Array Value} {k x : Int} {s sn : ByteArray} {bw : Nat} {nv iv : Value} {ns' : List ByteArray} {ts : List Tr} {xs : List Value} {wr w2 w3 : World} {o : Obj} {g4 cap4 : Nat} (h : JC w box k x s bw nv iv ns' ts xs wr) (hb : Below wr.heap.size wr w2)
    (hgrow : (w2.alloc o).grownBy w3 nv.ownBlock) (hat : nv.ownBlock = some g4 ∨ g4 = (w2.alloc o).heap.size)
    (hown3 : w3.ownsRow (w.heap.size + 2) 9 1 (.slice (some ⟨g4, 0, none⟩) (ns'.length + 1) cap4) (ns'.length + 1) (strs ns' ++ [.string sn])) :
    Below w.heap.size w w3 ∧ w3.heap[bw]? = some (.cells #[.int .i64 k, .int .i64 x, .string s, nv, iv] 25 (0, 0)) ∧ JC w box k x s bw (.slice (some ⟨g4, 0, none⟩) (ns'.length + 1) cap4) iv (ns' ++ [sn]) ts xs (w3.setCell ⟨bw, 3, none⟩ (.slice (some ⟨g4, 0, none⟩) (ns'.length + 1) cap4)) := by
  have hs2 := hb.size
  have hs3 := hgrow.size
  rw [World.size_alloc] at hs3 hat
  have hbw := (Array.getElem?_eq_some_iff.1 h.cur).1
  have hsz := h.size2
  have far3 : ∀ j, j < wr.heap.size → nv.ownBlock ≠ some j → w3.heap[j]? = wr.heap[j]? := fun j hj hne =>
    (hgrow.block j (by rw [World.size_alloc]; omega) (fun e => hne e.symm)).trans ((Below.heap_alloc w2 _ j (by omega)).trans (hb.block j hj))
  have own_lt : ∀ j, nv.ownBlock = some j → w.heap.size + 2 ≤ j ∧ j < wr.heap.size := fun j hj => ownsRow_ge h.own1 hj
  have far4 : ∀ j, j ≠ bw → (w3.setCell ⟨bw, 3, none⟩ (.slice (some ⟨g4, 0, none⟩) (ns'.length + 1) cap4)).heap[j]? = w3.heap[j]? := fun j hj => Below.heap_setCell _ _ _ _ hj
  have hB3 : Below w.heap.size w w3 := (h.bel.trans (hb.mono h.bel.size)).trans (grown_below (World.grownBy.mk (w := w2) (w' := w3) hgrow.os hgrow.tape hgrow.output (by omega) (fun j hj hne => (hgrow.block j (by rw [World.size_alloc]; omega) hne).trans (Below.heap_alloc w2 _ j hj))) (by have := h.bel.size; omega) (fun g hg => by have := own_lt g hg; omega))
  have hcur3 := (far3 bw hbw h.off1).trans h.cur
  have hne : g4 ≠ bw := by
    rcases hat with e | e
    · intro e'; exact h.off1 (by rw [e, e'])
    · omega
  obtain ⟨kids, k1, k2, k3, k4⟩ := h.kids
  have ap := rows_apart h.own1 h.own2 (by decide)
  have keep2 : ∀ j, iv.ownBlock = some j → nv.ownBlock ≠ some j := fun j hj e => by
    rcases ap with a | a
    · rw [a] at e; cases e
    · exact a (by rw [e, hj])
  refine ⟨hB3, hcur3, h.lt, ⟨hB3.os, hB3.tape, hB3.output, by simpa [World.setCell] using hB3.size, fun j hj => (far4 j (by have := h.lt; omega)).trans (hB3.block j hj)⟩, ?_, ?_, ?_, ?_, ?_, ?_, h.off2, kids, k1, k2, ?_, ?_⟩
  · exact (far4 _ (by have := h.lt; omega)).trans ((far3 _ (by omega) (fun e => by have := own_lt _ e; omega)).trans h.one)
  · exact (far4 _ (by have := h.lt; omega)).trans ((far3 _ (by omega) (fun e => by have := own_lt _ e; omega)).trans h.two)
  · simp [World.setCell, Array.getElem?_modify, hcur3]
  · rw [List.length_append, strs_snoc]
    exact ownsRow_keep hown3 (fun j hj => by cases hj; exact far4 _ hne)
  · refine ownsRow_keep h.own2 (fun j hj => (far4 _ (fun e => h.off2 (by rw [hj, e]))).trans (far3 j (ownsRow_ge h.own2 hj).2 (keep2 j hj)))
  · simp only [Value.ownBlock, ne_eq, Option.some.injEq]
    exact hne
  · exact k3.keep (fun j hj => (far4 _ (k4 j hj).2.1).trans (far3 j (k3.lt j hj) (k4 j hj).2.2.1))
  · intro j hj
    obtain ⟨a1, a2, a3, a4⟩ := k4 j hj
    refine ⟨a1, a2, fun e => ?_, a4⟩
    have e' : g4 = j := by simpa [Value.ownBlock] using e
    rcases hat with h' | h'
    · exact a3 (by rw [h', e'])
    · have := k3.lt j hj; omega
/-- One item more. -/
theorem JC.item {w : World} {box : Array Value} {k x : Int} {s : ByteArray} {bw : Nat} {nv iv : Value} {ns' : List ByteArray} {ts : List Tr} {xs : List Value} {wr w2 w3 : World} {cs : List Value} {o : Obj} {u : Tr} {g4 cap4 : Nat} (h : JC w box k x s bw nv iv ns' ts xs wr) (hu : OwnAt wr.heap.size w2 u cs) (hb : Below wr.heap.size wr w2)
    (hgrow : (w2.alloc o).grownBy w3 iv.ownBlock) (hat : iv.ownBlock = some g4 ∨ g4 = (w2.alloc o).heap.size)
    (hown3 : w3.ownsRow (w.heap.size + 2) 25 5 (.slice (some ⟨g4, 0, none⟩) (ts.length + 1) cap4) (ts.length + 1) (xs ++ cs)) :
    Below w.heap.size w w3 ∧ w3.heap[bw]? = some (.cells #[.int .i64 k, .int .i64 x, .string s, nv, iv] 25 (0, 0)) ∧ JC w box k x s bw nv (.slice (some ⟨g4, 0, none⟩) (ts.length + 1) cap4) ns' (ts ++ [u]) (xs ++ cs) (w3.setCell ⟨bw, 4, none⟩ (.slice (some ⟨g4, 0, none⟩) (ts.length + 1) cap4)) := by
  have hs2 := hb.size
  have hs3 := hgrow.size
  rw [World.size_alloc] at hs3 hat
  have hbw := (Array.getElem?_eq_some_iff.1 h.cur).1
  have hsz := h.size2
  have far3 : ∀ j, j < wr.heap.size → iv.ownBlock ≠ some j → w3.heap[j]? = wr.heap[j]? := fun j hj hne =>
    (hgrow.block j (by rw [World.size_alloc]; omega) (fun e => hne e.symm)).trans ((Below.heap_alloc w2 _ j (by omega)).trans (hb.block j hj))
  have own_lt : ∀ j, iv.ownBlock = some j → w.heap.size + 2 ≤ j ∧ j < wr.heap.size := fun j hj => ownsRow_ge h.own2 hj
  have far4 : ∀ j, j ≠ bw → (w3.setCell ⟨bw, 4, none⟩ (.slice (some ⟨g4, 0, none⟩) (ts.length + 1) cap4)).heap[j]? = w3.heap[j]? := fun j hj => Below.heap_setCell _ _ _ _ hj
  have hB3 : Below w.heap.size w w3 := (h.bel.trans (hb.mono h.bel.size)).trans (grown_below (World.grownBy.mk (w := w2) (w' := w3) hgrow.os hgrow.tape hgrow.output (by omega) (fun j hj hne => (hgrow.block j (by rw [World.size_alloc]; omega) hne).trans (Below.heap_alloc w2 _ j hj))) (by have := h.bel.size; omega) (fun g hg => by have := own_lt g hg; omega))
  have hcur3 := (far3 bw hbw h.off2).trans h.cur
  have hne : g4 ≠ bw := by
    rcases hat with e | e
    · intro e'; exact h.off2 (by rw [e, e'])
    · omega
  obtain ⟨kids, rfl, rfl, k3, k4⟩ := h.kids
  obtain ⟨t, ht, rfl, ho, hlo⟩ := hu
  have ap := rows_apart h.own1 h.own2 (by decide)
  have keep1 : ∀ j, nv.ownBlock = some j → iv.ownBlock ≠ some j := fun j hj e => by
    rcases ap with a | a
    · rw [a] at hj; cases hj
    · exact a (by rw [e, hj])
  have n_lt : ∀ j, nv.ownBlock = some j → j < wr.heap.size := fun j hj => (ownsRow_ge h.own1 hj).2
  have e1 : ∀ j ∈ bksL kids, (w3.setCell ⟨bw, 4, none⟩ (.slice (some ⟨g4, 0, none⟩) ((trL kids).length + 1) cap4)).heap[j]? = wr.heap[j]? := fun j hj => (far4 _ (k4 j hj).2.1).trans (far3 _ (k3.lt j hj) (k4 j hj).2.2.2)
  have e2 : ∀ j ∈ bksT t, (w3.setCell ⟨bw, 4, none⟩ (.slice (some ⟨g4, 0, none⟩) ((trL kids).length + 1) cap4)).heap[j]? = w2.heap[j]? := fun j hj => by
    have h5 := hlo j hj
    have h6 := ho.lt j hj
    refine (far4 _ (by omega)).trans ((hgrow.block _ (by rw [World.size_alloc]; omega) (fun e => ?_)).trans (Below.heap_alloc w2 _ _ h6))
    have := own_lt _ e.symm
    omega
  refine ⟨hB3, hcur3, h.lt, ⟨hB3.os, hB3.tape, hB3.output, by simpa [World.setCell] using hB3.size, fun j hj => (far4 j (by have := h.lt; omega)).trans (hB3.block j hj)⟩, ?_, ?_, ?_, ?_, ?_, h.off1, ?_, kids ++ [t], by rw [flatH_app, flatH_one, ht], trL_snoc kids t, OwnFL.snoc (m := wr.heap.size) (k3.keep e1) (ho.keep e2) k3.lt hlo, ?_⟩
  · exact (far4 _ (by have := h.lt; omega)).trans ((far3 _ (by omega) (fun e => by have := own_lt _ e; omega)).trans h.one)
  · exact (far4 _ (by have := h.lt; omega)).trans ((far3 _ (by omega) (fun e => by have := own_lt _ e; omega)).trans h.two)
  · simp [World.setCell, Array.getElem?_modify, hcur3]
  · refine ownsRow_keep h.own1 (fun j hj => (far4 _ (fun e => h.off1 (by rw [hj, e]))).trans (far3 j (ownsRow_ge h.own1 hj).2 (keep1 j hj)))
  · rw [List.length_append]
    exact ownsRow_keep hown3 (fun j hj => by cases hj; exact far4 _ hne)
  · simp only [Value.ownBlock, ne_eq, Option.some.injEq]
    exact hne
  · intro j hj
    rw [bksL_app, bksL_one] at hj
    rcases List.mem_append.1 hj with hj | hj
    · obtain ⟨a1, a2, a3, a4⟩ := k4 j hj
      refine ⟨a1, a2, a3, fun e => ?_⟩
      have e' : g4 = j := by simpa [Value.ownBlock] using e
      rcases hat with h' | h'
      · exact a4 (by rw [h', e'])
      · have := k3.lt j hj; omega
    · have h5 := hlo j hj
      have h6 := ho.lt j hj
      refine ⟨by omega, by omega, fun e => by have := n_lt j e; omega, fun e => ?_⟩
      have e' : g4 = j := by simpa [Value.ownBlock] using e
      rcases hat with h' | h'
      · have := own_lt _ h'; omega
      · omega
theorem jc_end {w wr : World} {box : Array Value} {k x : Int} {s : ByteArray} {ns : List ByteArray} {bw : Nat} {nv iv : Value} {its : List Tr} {xs : List Value} (h : JC w box k x s bw nv iv ns its xs wr) (c0 c1 c2 c3 c4 : Value) :
    ∃ an cn ai ci, nv = .slice an ns.length cn ∧ iv = .slice ai its.length ci ∧ OwnPost w (.node k x s ns its) (.returned (.agg #[.int .i64 k, .int .i64 x, .string s, .slice an ns.length cn, .slice ai its.length ci])) (put5 wr (w.heap.size + 1) c0 c1 c2 c3 c4) := by
  obtain ⟨kids, rfl, rfl, k3, k4⟩ := h.kids
  obtain ⟨an, cn, rfl⟩ := ownsRow_slice h.own1
  obtain ⟨ai, ci, rfl⟩ := ownsRow_slice h.own2
  have far : ∀ j, w.heap.size + 1 < j → (put5 wr (w.heap.size + 1) c0 c1 c2 c3 c4).heap[j]? = wr.heap[j]? := fun j hj => put5_far _ _ _ _ _ (by omega)
  have h1 := h.own1
  have h2 := h.own2
  have ap := rows_apart h.own1 h.own2 (by decide)
  rw [trL_len] at h2 k4 ap ⊢
  refine ⟨an, cn, ai, ci, rfl, rfl, k, x, s, an, _, cn, ai, kids.length, ci, rfl, ⟨.node k x s (.slice an ns.length cn) (.slice ai kids.length ci) ns kids, rfl, by unfold HT.tr; rfl, ?_, fun j hj' => ?_⟩, h.bel.trans (put5_below (by omega) _ _ _ _ _)⟩
  · exact ownF_node (ownsRow_lo (ownsRow_keep h1 (fun g' hg' => far _ (by have := (ownsRow_ge h1 hg').1; omega))) (Nat.zero_le _)) (ownsRow_lo (ownsRow_keep h2 (fun g' hg' => far _ (by have := (ownsRow_ge h2 hg').1; omega))) (Nat.zero_le _)) (k3.keep (fun j hj' => far _ (k4 j hj').1)) ap (fun j hj' => ⟨(k4 j hj').2.2.1, (k4 j hj').2.2.2⟩)
  · rw [bksT_node] at hj'
    rcases List.mem_append.1 hj' with hj' | hj'
    · rcases List.mem_append.1 hj' with hj' | hj'
      · have := (ownsRow_ge h1 (g := j) (by simpa using hj')).1; omega
      · have := (ownsRow_ge h2 (g := j) (by simpa using hj')).1; omega
    · have := (k4 j hj').1; omega
set_option maxHeartbeats 8000000 in
set_option maxRecDepth 100000 in
theorem jcopy_one (k x : Int) (s : ByteArray) (an : Option Addr) (cn : Nat) (ns : List ByteArray) (a : Option Addr) (c : Nat) (its : List Tr) (w : World) (hss : s.size ≤ 140737488355328) (hsn : Hid (∀ n ∈ ns, n.size ≤ 140737488355328)) (hnl : ns.length * 16 ≤ 140737488355328) (hil : its.length * 80 ≤ 140737488355328)
    (hN : Hid (Reads w (.slice an ns.length cn) ns)) (hL : Hid (ItemsAt' w a its)) (hI : Hid (JCopyOk its)) :
    Calls Tryz.prog 9 #[.agg #[.int .i64 k, .int .i64 x, .string s, .slice an ns.length cn, .slice a its.length c]] w (OwnPost w (.node k x s ns its)) := by
  go_enter Tryz.func9, Tryz.ntmps9
  go_upto_region 1 with fail
  have hB0 : Below w.heap.size w ((w.alloc (.cells #[.int .i64 k, .int .i64 x, .string s, .slice an ns.length cn, .slice a its.length c] 25)).alloc (.cells #[.int .i64 0, .int .i64 0, .string ⟨#[]⟩, .slice none 0 0, .slice none 0 0] 25)) := ((Below.refl _ w).alloc (Nat.le_refl _) _).alloc (by simp) _
  have n1 := new1 w (.cells #[.int .i64 k, .int .i64 x, .string s, .slice an ns.length cn, .slice a its.length c] 25) (.cells #[.int .i64 0, .int .i64 0, .string ⟨#[]⟩, .slice none 0 0, .slice none 0 0] 25)
  have n2 := new2 w (.cells #[.int .i64 k, .int .i64 x, .string s, .slice an ns.length cn, .slice a its.length c] 25) (.cells #[.int .i64 0, .int .i64 0, .string ⟨#[]⟩, .slice none 0 0, .slice none 0 0] 25)
  have hsz : ((w.alloc (.cells #[.int .i64 k, .int .i64 x, .string s, .slice an ns.length cn, .slice a its.length c] 25)).alloc (.cells #[.int .i64 0, .int .i64 0, .string ⟨#[]⟩, .slice none 0 0, .slice none 0 0] 25)).heap.size = w.heap.size + 2 := by simp only [World.size_alloc]
  generalize (w.alloc (.cells #[.int .i64 k, .int .i64 x, .string s, .slice an ns.length cn, .slice a its.length c] 25)).alloc (.cells #[.int .i64 0, .int .i64 0, .string ⟨#[]⟩, .slice none 0 0, .slice none 0 0] 25) = X0 at hB0 n1 n2 hsz
  go_cut [3] (fun p wx => ∃ (bw : Nat), p = .pointer (some ⟨bw, 0, none⟩) ∧ Hid (JC w #[.int .i64 k, .int .i64 x, .string s, .slice an ns.length cn, .slice a its.length c] k x s bw (.slice none 0 0) (.slice none 0 0) [] [] [] wx))
  case first =>
    replace hB0 : Below w.heap.size w X0.drew := below_drew hB0
    replace n1 : X0.drew.heap[w.heap.size]? = some (.cells #[.int .i64 k, .int .i64 x, .string s, .slice an ns.length cn, .slice a its.length c] 25 (0, 0)) := n1
    replace n2 : X0.drew.heap[w.heap.size + 1]? = some (.cells #[.int .i64 0, .int .i64 0, .string ⟨#[]⟩, .slice none 0 0, .slice none 0 0] 25 (0, 0)) := n2
    replace hsz : X0.drew.heap.size = w.heap.size + 2 := hsz
    generalize hX : X0.drew = X at hB0 n1 n2 hsz
    replace hsz := hid_e hsz
    replace n2 := hid_e n2
    replace hB0 := hid_e hB0
    refine wp_region_noPanic ?_
    refine Until.wp_region_U (fun w' => w'.heap[w.heap.size]? = some (.cells #[.int .i64 k, .int .i64 x, .string s, .slice an ns.length cn, .slice a its.length c] 25 (0, 0))) (fun _ => True) 9 (by kernel_rfl) ?_
    rw [hX]
    clear hX
    refine Until.wpU_pure (i := 0) (oi := { dst := some 8, op := Op.fieldAddr 25 (Operand.tmp 1) 0, type := 0, pos := "jsonval.go:19", after := #[], guard := none }) (v := .pointer (some ⟨w.heap.size, 0, none⟩)) rfl (by kernel_rfl) (by kernel_rfl) (by kernel_rfl) (by kernel_rfl) (by kernel_rfl) (fun _ _ _ h => h) (n1) (fun _ => trivial) (by rfl) (by intro w'; go_simp) ?_
    try simp only [Act.put, List.setIfInBounds_toArray, List.set_cons_zero, List.set_cons_succ]
    refine Until.wpU_load0 (i := 1) (oi := { dst := some 9, op := Op.load 3 (Operand.tmp 8), type := 3, pos := "jsonval.go:19", after := #[{ on := 0, ground := Ground.data }], guard := none }) (v := .int .i64 k) rfl (by kernel_rfl) (by kernel_rfl) (by kernel_rfl) (by kernel_rfl) (by kernel_rfl) (fun _ _ _ h => h) (n1) (fun _ => trivial) (by rfl) (by intro w' hw'; obtain ⟨t0, t1, t2, t3, t4, -⟩ := row_cells hw'; clear hw'; go_simp) ?_
    try simp only [Act.put, List.setIfInBounds_toArray, List.set_cons_zero, List.set_cons_succ]
    refine Until.wpU_pure (i := 2) (oi := { dst := some 10, op := Op.fieldAddr 25 (Operand.tmp 1) 1, type := 0, pos := "jsonval.go:19", after := #[], guard := none }) (v := .pointer (some ⟨w.heap.size, 1, none⟩)) rfl (by kernel_rfl) (by kernel_rfl) (by kernel_rfl) (by kernel_rfl) (by kernel_rfl) (fun _ _ _ h => h) (n1) (fun _ => trivial) (by rfl) (by intro w'; go_simp) ?_
    try simp only [Act.put, List.setIfInBounds_toArray, List.set_cons_zero, List.set_cons_succ]
    refine Until.wpU_load0 (i := 3) (oi := { dst := some 11, op := Op.load 2 (Operand.tmp 10), type := 2, pos := "jsonval.go:19", after := #[{ on := 2, ground := Ground.data }], guard := none }) (v := .int .i64 x) rfl (by kernel_rfl) (by kernel_rfl) (by kernel_rfl) (by kernel_rfl) (by kernel_rfl) (fun _ _ _ h => h) (n1) (fun _ => trivial) (by rfl) (by intro w' hw'; obtain ⟨t0, t1, t2, t3, t4, -⟩ := row_cells hw'; clear hw'; go_simp) ?_
    try simp only [Act.put, List.setIfInBounds_toArray, List.set_cons_zero, List.set_cons_succ]
    refine Until.wpU_pure (i := 4) (oi := { dst := some 12, op := Op.fieldAddr 25 (Operand.tmp 1) 2, type := 0, pos := "jsonval.go:19", after := #[], guard := none }) (v := .pointer (some ⟨w.heap.size, 2, none⟩)) rfl (by kernel_rfl) (by kernel_rfl) (by kernel_rfl) (by kernel_rfl) (by kernel_rfl) (fun _ _ _ h => h) (n1) (fun _ => trivial) (by rfl) (by intro w'; go_simp) ?_
    try simp only [Act.put, List.setIfInBounds_toArray, List.set_cons_zero, List.set_cons_succ]
    refine Until.wpU_load0 (i := 5) (oi := { dst := some 13, op := Op.load 9 (Operand.tmp 12), type := 9, pos := "jsonval.go:19", after := #[{ on := 4, ground := Ground.data }], guard := none }) (v := .string s) rfl (by kernel_rfl) (by kernel_rfl) (by kernel_rfl) (by kernel_rfl) (by kernel_rfl) (fun _ _ _ h => h) (n1) (fun _ => trivial) (by rfl) (by intro w' hw'; obtain ⟨t0, t1, t2, t3, t4, -⟩ := row_cells hw'; clear hw'; go_simp) ?_
    try simp only [Act.put, List.setIfInBounds_toArray, List.set_cons_zero, List.set_cons_succ]
    refine Until.wpU_ready (rs := [6, 8]) (by kernel_rfl) (by simp) ?_
    refine (Until.AllU.cons (o := { dst := some 14, op := Op.call { callee := Callee.value (Operand.func 19), args := #[Operand.tmp 13], argTypes := #[9] }, type := 9, pos := "jsonval.go:19", after := #[{ on := 5, ground := Ground.data }], guard := none }) rfl (fun K hK => ?_) (Until.AllU.cons (o := { dst := some 3, op := Op.alloc 25, type := 0, pos := "jsonval.go:19", after := #[], guard := none }) rfl (fun K hK => ?_) Until.AllU.nil))
    · go_simp
      refine (jclone_any s (by omega) _).mono ?_
      rintro e Y ⟨rfl, hb⟩
      have p1 := (hb.block _ (Array.getElem?_eq_some_iff.1 n1).1).trans n1
      have p2 := (hb.block _ (Array.getElem?_eq_some_iff.1 n2.out).1).trans n2.out
      have hY : Below w.heap.size w Y := hB0.out.trans (hb.mono hB0.out.size)
      have hs3 := hb.size
      rw [hsz.out] at hs3
      clear hb
      refine hK.out _ _ (p1) (fun _ => trivial) ?_
      clear hK K
      try simp only [Act.put, List.setIfInBounds_toArray, List.set_cons_zero, List.set_cons_succ]
      refine Until.wpU_pure (i := 7) (oi := { dst := some 15, op := Op.build 25 #[(0, Operand.tmp 9), (1, Operand.tmp 11), (2, Operand.tmp 14)], type := 25, pos := "jsonval.go:19", after := #[{ on := 1, ground := Ground.data }, { on := 3, ground := Ground.data }, { on := 6, ground := Ground.data }], guard := none }) (v := .agg #[.int .i64 k, .int .i64 x, .string s, .slice none 0 0, .slice none 0 0]) rfl (by kernel_rfl) (by kernel_rfl) (by kernel_rfl) (by kernel_rfl) (by kernel_rfl) (fun _ _ _ h => h) (p1) (fun _ => trivial) (by rfl) (by intro w'; go_simp) ?_
      try simp only [Act.put, List.setIfInBounds_toArray, List.set_cons_zero, List.set_cons_succ]
      refine Until.wpU_ready (rs := [8]) (by kernel_rfl) (by simp) ?_
      refine (Until.AllU.cons (o := { dst := some 3, op := Op.alloc 25, type := 0, pos := "jsonval.go:19", after := #[], guard := none }) rfl (fun K hK => ?_) Until.AllU.nil)
      go_simp
      have q1 := (Below.heap_alloc Y (.cells #[.int .i64 0, .int .i64 0, .string ⟨#[]⟩, .slice none 0 0, .slice none 0 0] 25) _ (Array.getElem?_eq_some_iff.1 p1).1).trans p1
      have q2 := (Below.heap_alloc Y (.cells #[.int .i64 0, .int .i64 0, .string ⟨#[]⟩, .slice none 0 0, .slice none 0 0] 25) _ (Array.getElem?_eq_some_iff.1 p2).1).trans p2
      have q3 := heap_alloc_new Y (.cells #[.int .i64 0, .int .i64 0, .string ⟨#[]⟩, .slice none 0 0, .slice none 0 0] 25)
      have hZ : Below w.heap.size w (Y.alloc (.cells #[.int .i64 0, .int .i64 0, .string ⟨#[]⟩, .slice none 0 0, .slice none 0 0] 25)) := hY.alloc hY.size _
      refine hK.out _ _ (q1) (fun _ => trivial) ?_
      clear hK K
      try simp only [Act.put, List.setIfInBounds_toArray, List.set_cons_zero, List.set_cons_succ]
      generalize Y.alloc (.cells #[.int .i64 0, .int .i64 0, .string ⟨#[]⟩, .slice none 0 0, .slice none 0 0] 25) = V at q1 q2 q3 hZ ⊢
      have hfin := jc_new (w := w) (k := k) (x := x) (s := s) (box := #[.int .i64 k, .int .i64 x, .string s, .slice an ns.length cn, .slice a its.length c]) (by omega) (hZ) (q1) (q2) (q3)
      obtain ⟨z0, z1, z2, z3, z4, zf⟩ := row_cells q3
      have zf0 := zf 0; have zf1 := zf 1; have zf2 := zf 2; have zf3 := zf 3; have zf4 := zf 4
      clear zf
      replace hfin := hid_e hfin
      refine Until.wpU_ready (rs := [9]) (by kernel_rfl) (by simp) ?_
      refine (Until.AllU.cons (o := { dst := none, op := Op.store 25 (Operand.tmp 3) (Operand.tmp 15), type := 0, pos := "jsonval.go:19", after := #[{ on := 8, ground := Ground.data }, { on := 7, ground := Ground.data }, { on := 6, ground := Ground.chain }, { on := 0, ground := Ground.phase }, { on := 1, ground := Ground.phase }, { on := 2, ground := Ground.phase }, { on := 3, ground := Ground.phase }, { on := 4, ground := Ground.phase }, { on := 5, ground := Ground.phase }, { on := 6, ground := Ground.phase }, { on := 7, ground := Ground.phase }, { on := 8, ground := Ground.phase }], guard := none }) rfl (fun K hK => ?_) Until.AllU.nil)
      go_simp
      refine hK.out _ _ (hfin.out.one) (fun _ => trivial) ?_
      clear hK K
      try simp only [Act.put, List.setIfInBounds_toArray, List.set_cons_zero, List.set_cons_succ]
      clear z0 z1 z2 z3 z4 zf0 zf1 zf2 zf3 zf4
      refine Until.wpU_done (by kernel_rfl) ?_ _
      refine NoPanic.normal ?_
      go_wp2_with fail
      go_meet
      exact ⟨_, rfl, hfin⟩
    · go_simp
      have q1 := (Below.heap_alloc X (.cells #[.int .i64 0, .int .i64 0, .string ⟨#[]⟩, .slice none 0 0, .slice none 0 0] 25) _ (Array.getElem?_eq_some_iff.1 n1).1).trans n1
      have q2 := (Below.heap_alloc X (.cells #[.int .i64 0, .int .i64 0, .string ⟨#[]⟩, .slice none 0 0, .slice none 0 0] 25) _ (Array.getElem?_eq_some_iff.1 n2.out).1).trans n2.out
      have q3 := heap_alloc_new X (.cells #[.int .i64 0, .int .i64 0, .string ⟨#[]⟩, .slice none 0 0, .slice none 0 0] 25)
      have hZ : Below w.heap.size w (X.alloc (.cells #[.int .i64 0, .int .i64 0, .string ⟨#[]⟩, .slice none 0 0, .slice none 0 0] 25)) := hB0.out.alloc hB0.out.size _
      have hs3 : Hid (w.heap.size + 1 < X.heap.size) := by have := hsz.out; show _ < _; omega
      refine hK.out _ _ (q1) (fun _ => trivial) ?_
      clear hK K
      try simp only [Act.put, List.setIfInBounds_toArray, List.set_cons_zero, List.set_cons_succ]
      generalize X.alloc (.cells #[.int .i64 0, .int .i64 0, .string ⟨#[]⟩, .slice none 0 0, .slice none 0 0] 25) = V at q1 q2 q3 hZ ⊢
      refine Until.wpU_ready (rs := [6]) (by kernel_rfl) (by simp) ?_
      refine (Until.AllU.cons (o := { dst := some 14, op := Op.call { callee := Callee.value (Operand.func 19), args := #[Operand.tmp 13], argTypes := #[9] }, type := 9, pos := "jsonval.go:19", after := #[{ on := 5, ground := Ground.data }], guard := none }) rfl (fun K hK => ?_) Until.AllU.nil)
      go_simp
      refine (jclone_any s (by omega) _).mono ?_
      rintro e Y ⟨rfl, hb⟩
      have p1 := (hb.block _ (Array.getElem?_eq_some_iff.1 q1).1).trans q1
      have p2 := (hb.block _ (Array.getElem?_eq_some_iff.1 q2).1).trans q2
      have p3 := (hb.block _ (Array.getElem?_eq_some_iff.1 q3).1).trans q3
      have hY : Below w.heap.size w Y := hZ.trans (hb.mono hZ.size)
      clear hb
      refine hK.out _ _ (p1) (fun _ => trivial) ?_
      clear hK K
      try simp only [Act.put, List.setIfInBounds_toArray, List.set_cons_zero, List.set_cons_succ]
      refine Until.wpU_pure (i := 7) (oi := { dst := some 15, op := Op.build 25 #[(0, Operand.tmp 9), (1, Operand.tmp 11), (2, Operand.tmp 14)], type := 25, pos := "jsonval.go:19", after := #[{ on := 1, ground := Ground.data }, { on := 3, ground := Ground.data }, { on := 6, ground := Ground.data }], guard := none }) (v := .agg #[.int .i64 k, .int .i64 x, .string s, .slice none 0 0, .slice none 0 0]) rfl (by kernel_rfl) (by kernel_rfl) (by kernel_rfl) (by kernel_rfl) (by kernel_rfl) (fun _ _ _ h => h) (p1) (fun _ => trivial) (by rfl) (by intro w'; go_simp) ?_
      try simp only [Act.put, List.setIfInBounds_toArray, List.set_cons_zero, List.set_cons_succ]
      have hfin := jc_new (w := w) (k := k) (x := x) (s := s) (box := #[.int .i64 k, .int .i64 x, .string s, .slice an ns.length cn, .slice a its.length c]) (hs3.out) (hY) (p1) (p2) (p3)
      obtain ⟨z0, z1, z2, z3, z4, zf⟩ := row_cells p3
      have zf0 := zf 0; have zf1 := zf 1; have zf2 := zf 2; have zf3 := zf 3; have zf4 := zf 4
      clear zf
      replace hfin := hid_e hfin
      refine Until.wpU_ready (rs := [9]) (by kernel_rfl) (by simp) ?_
      refine (Until.AllU.cons (o := { dst := none, op := Op.store 25 (Operand.tmp 3) (Operand.tmp 15), type := 0, pos := "jsonval.go:19", after := #[{ on := 8, ground := Ground.data }, { on := 7, ground := Ground.data }, { on := 6, ground := Ground.chain }, { on := 0, ground := Ground.phase }, { on := 1, ground := Ground.phase }, { on := 2, ground := Ground.phase }, { on := 3, ground := Ground.phase }, { on := 4, ground := Ground.phase }, { on := 5, ground := Ground.phase }, { on := 6, ground := Ground.phase }, { on := 7, ground := Ground.phase }, { on := 8, ground := Ground.phase }], guard := none }) rfl (fun K hK => ?_) Until.AllU.nil)
      go_simp
      refine hK.out _ _ (hfin.out.one) (fun _ => trivial) ?_
      clear hK K
      try simp only [Act.put, List.setIfInBounds_toArray, List.set_cons_zero, List.set_cons_succ]
      clear z0 z1 z2 z3 z4 zf0 zf1 zf2 zf3 zf4
      refine Until.wpU_done (by kernel_rfl) ?_ _
      refine NoPanic.normal ?_
      go_wp2_with fail
      go_meet
      exact ⟨_, rfl, hfin⟩
  case rest =>
    clear hB0 n1 n2 hsz
    obtain ⟨bw, rfl, hC0⟩ := hcut
    obtain ⟨i0, hi, hz0, hz1, hz2⟩ := info_parts AV
    obtain ⟨i9, hi9, hy0, hy1, hy2⟩ := info_parts A9
    obtain ⟨-, -, -, y3, -, -⟩ := row_cells hC0.out.one
    have hbn : Hid (∀ q, q < ns.length → q + 1 ≤ maxLen ∧ (q + 1) * 16 ≤ 140737488355328) := fun q hq => by unfold maxLen; omega
    have hbi : Hid (∀ q, q < its.length → q + 1 ≤ maxLen ∧ (q + 1) * 80 ≤ 140737488355328) := fun q hq => by unfold maxLen; omega
    go_wp2_with fail
    clear y3
    go_loopw [19] (fun i wr => ∃ (q : Nat) (nv : Value), q ≤ ns.length ∧ i = .int .i64 q ∧ Hid (JC w #[.int .i64 k, .int .i64 x, .string s, .slice an ns.length cn, .slice a its.length c] k x s bw nv (.slice none 0 0) (ns.take q) [] [] wr)) (fun i _ => ns.length - (intOf i).toNat)
    case atStart => exact ⟨0, _, Nat.zero_le _, rfl, hC0⟩
    case round =>
      clear hC0
      obtain ⟨q, nv, hq, rfl, hC⟩ := hrel
      by_cases hlt : q < ns.length
      · have i1 : (q : Int) < (ns.length : Int) := by omega
        obtain ⟨sn, hu⟩ : ∃ u, Hid (ns[q]? = some u) := ⟨_, List.getElem?_eq_getElem hlt⟩
        have hsz := hid_e (hsn.out sn (List.mem_of_getElem? hu.out))
        obtain ⟨an', cn', e, hcc, hr⟩ := id hN.out
        cases e
        obtain ⟨b, o, rfl, hb, hr⟩ := hr.resolve_left (by intro e; subst e; simp at hlt)
        have m0 := (hC.out.bel.cell (p := ⟨b, o + q, none⟩) hb).trans (hr q sn hu.out)
        clear hr hcc
        obtain ⟨an1, cn1, hnv⟩ := ownsRow_slice hC.out.own1
        have hlq : (ns.take q).length = q := by simp; omega
        rw [hlq] at hnv
        subst hnv
        go_upto_region 5 with fail
        clear m0
        have c1 := hC.out.one
        have c5 := hC.out.cur
        have c2 := hC.out.bel
        replace hC := hid_e hC.out.drew
        replace c1 : wr.drew.heap[w.heap.size]? = _ := c1
        replace c5 : wr.drew.heap[bw]? = _ := c5
        replace c2 : Below w.heap.size w wr.drew := below_drew c2
        generalize hX : wr.drew = X at c1 c2 c5 hC
        refine wp_region_noPanic ?_
        refine Until.wp_region_U (fun w' => Below w.heap.size w w') (fun w' => w'.heap[bw]? = some (.cells #[.int .i64 k, .int .i64 x, .string s, .slice an1 q cn1, .slice none 0 0] 25 (0, 0))) 7 (by kernel_rfl) ?_
        rw [hX]
        clear hX hlq
        refine Until.wpU_pure (i := 0) (oi := { dst := some 23, op := Op.fieldAddr 25 (Operand.tmp 3) 3, type := 0, pos := "jsonval.go:21", after := #[], guard := none }) (v := .pointer (some ⟨bw, 3, none⟩)) rfl (by kernel_rfl) (by kernel_rfl) (by kernel_rfl) (by kernel_rfl) (by kernel_rfl) (fun _ _ _ h => h) (c2) (fun _ => c5) (by rfl) (by intro w'; go_simp) ?_
        try simp only [Act.put, List.setIfInBounds_toArray, List.set_cons_zero, List.set_cons_succ]
        refine Until.wpU_load1 (i := 1) (oi := { dst := some 24, op := Op.load 22 (Operand.tmp 23), type := 22, pos := "jsonval.go:21", after := #[{ on := 0, ground := Ground.data }], guard := none }) (v := .slice an1 q cn1) rfl (by kernel_rfl) (by kernel_rfl) (by kernel_rfl) (by kernel_rfl) (by kernel_rfl) (by kernel_rfl) (fun _ _ _ h => h) (c2) (c5) (by rfl) (by intro w' hw'; obtain ⟨t0, t1, t2, t3, t4, -⟩ := row_cells hw'; clear hw'; go_simp) ?_
        try simp only [Act.put, List.setIfInBounds_toArray, List.set_cons_zero, List.set_cons_succ]
        refine Until.wpU_pure (i := 2) (oi := { dst := some 25, op := Op.move (Operand.tmp 5), type := 9, pos := "jsonval.go:21", after := #[], guard := none }) (v := .string sn) rfl (by kernel_rfl) (by kernel_rfl) (by kernel_rfl) (by kernel_rfl) (by kernel_rfl) (fun _ _ _ h => h) (c2) (fun _ => c5) (by rfl) (by intro w'; go_simp) ?_
        try simp only [Act.put, List.setIfInBounds_toArray, List.set_cons_zero, List.set_cons_succ]
        refine Until.wpU_ready (rs := [3]) (by kernel_rfl) (by simp) ?_
        refine (Until.AllU.cons (o := { dst := some 26, op := Op.call { callee := Callee.value (Operand.func 19), args := #[Operand.tmp 25], argTypes := #[9] }, type := 9, pos := "jsonval.go:21", after := #[{ on := 2, ground := Ground.data }], guard := none }) rfl (fun K hK => ?_) Until.AllU.nil)
        go_simp
        refine (jclone_any sn (by have := hsz.out; omega) _).mono ?_
        rintro e w2 ⟨rfl, hb2⟩
        have d2 : Below w.heap.size w w2 := c2.trans (hb2.mono c2.size)
        have d5 := (hb2.block _ (Array.getElem?_eq_some_iff.1 c5).1).trans c5
        refine hK.out _ _ (d2) (fun _ => d5) ?_
        clear hK K
        try simp only [Act.put, List.setIfInBounds_toArray, List.set_cons_zero, List.set_cons_succ]
        refine Until.wpU_ready (rs := [4]) (by kernel_rfl) (by simp) ?_
        refine (Until.AllU.cons (o := { dst := some 27, op := Op.buildSlice 22 1 #[(0, Operand.tmp 26)], type := 22, pos := "jsonval.go:21", after := #[{ on := 3, ground := Ground.data }], guard := none }) rfl (fun K hK => ?_) Until.AllU.nil)
        go_simp
        have e2 : Below w.heap.size w (w2.alloc (.cells #[.string sn] 9)) := d2.alloc d2.size _
        have e5 := (Below.heap_alloc w2 (.cells #[.string sn] 9) _ (Array.getElem?_eq_some_iff.1 d5).1).trans d5
        refine hK.out _ _ (e2) (fun _ => e5) ?_
        clear hK K
        try simp only [Act.put, List.setIfInBounds_toArray, List.set_cons_zero, List.set_cons_succ]
        have hrow := hC.out.own1
        rw [show (ns.take q).length = q from by simp; omega] at hrow
        refine Until.wpU_ready (rs := [5]) (by kernel_rfl) (by simp) ?_
        refine (Until.AllU.cons (o := { dst := some 28, op := Op.call { callee := Callee.builtin Builtin.append, args := #[Operand.tmp 24, Operand.tmp 27], argTypes := #[22, 22] }, type := 22, pos := "jsonval.go:21", after := #[{ on := 1, ground := Ground.data }, { on := 4, ground := Ground.data }, { on := 3, ground := Ground.chain }], guard := none }) rfl (fun K hK => ?_) Until.AllU.nil)
        refine step_append_lies _ (by rfl) _ _ 22 (by rfl) (w.heap.size + 2) 9 i9 _ 1 16 Tryz.underlying22 hi9 hy0 hy1 hy2 (by rfl) (by omega) _ q (strs (ns.take q)) (by rfl) ((ownsRow_below hrow hb2).alloc _) _ 1 1 [.string sn] (by rfl) (by rfl) (World.news_of_block (heap_alloc_new w2 _)) (one_string sn) (by omega) (hbn.out q hlt).1 (hbn.out q hlt).2 (by have := hC.out.size2; have := hb2.size; simp only [World.size_alloc]; omega) _ rfl ?_
        intro g4 cap4 w3 hown3 hgrow3 hat3 hlt3
        have hstep := JC.name (sn := sn) hC.out hb2 hgrow3 hat3 (by rw [show (ns.take q).length = q from by simp; omega]; exact hown3)
        obtain ⟨f2, f5, hstep⟩ := hstep
        rw [show (ns.take q).length = q from by simp; omega] at hstep
        replace hstep := hid_e hstep
        refine hK.out _ _ (f2) (fun _ => f5) ?_
        clear hK K
        try simp only [Act.put, List.setIfInBounds_toArray, List.set_cons_zero, List.set_cons_succ]
        clear hat3 hgrow3 hown3 hrow
        refine Until.wpU_pure (i := 6) (oi := { dst := some 29, op := Op.fieldAddr 25 (Operand.tmp 3) 3, type := 0, pos := "jsonval.go:21", after := #[{ on := 0, ground := Ground.phase }, { on := 1, ground := Ground.phase }, { on := 2, ground := Ground.phase }, { on := 3, ground := Ground.phase }, { on := 4, ground := Ground.phase }, { on := 5, ground := Ground.phase }], guard := none }) (v := .pointer (some ⟨bw, 3, none⟩)) rfl (by kernel_rfl) (by kernel_rfl) (by kernel_rfl) (by kernel_rfl) (by kernel_rfl) (fun _ _ _ h => h) (f2) (fun _ => f5) (by rfl) (by intro w'; go_simp) ?_
        try simp only [Act.put, List.setIfInBounds_toArray, List.set_cons_zero, List.set_cons_succ]
        obtain ⟨-, -, -, z3, -, zf⟩ := row_cells f5
        have zf3 := zf 3
        clear zf
        refine Until.wpU_ready (rs := [7]) (by kernel_rfl) (by simp) ?_
        refine (Until.AllU.cons (o := { dst := none, op := Op.store 22 (Operand.tmp 29) (Operand.tmp 28), type := 0, pos := "jsonval.go:21", after := #[{ on := 6, ground := Ground.data }, { on := 5, ground := Ground.data }, { on := 5, ground := Ground.chain }, { on := 0, ground := Ground.phase }, { on := 1, ground := Ground.phase }, { on := 2, ground := Ground.phase }, { on := 3, ground := Ground.phase }, { on := 4, ground := Ground.phase }, { on := 5, ground := Ground.phase }], guard := none }) rfl (fun K hK => ?_) Until.AllU.nil)
        go_simp
        refine hK.out _ _ (hstep.out.bel) (fun h => absurd h (by decide)) ?_
        clear hK K
        try simp only [Act.put, List.setIfInBounds_toArray, List.set_cons_zero, List.set_cons_succ]
        refine Until.wpU_done (by kernel_rfl) ?_ _
        refine NoPanic.normal ?_
        clear z3 zf3 f5 f2 e5 e2 d5 d2
        go_wp2_with fail
        go_roundw
        case rel => exact ⟨q + 1, _, by omega, by go_num, by rw [List.take_add_one, hu.out]; exact hstep⟩
        case measure => simp [intOf]; omega
      · obtain rfl : q = ns.length := by omega
        clear hq hlt
        rw [List.take_length] at hC
        obtain ⟨-, -, -, -, y4, -⟩ := row_cells hC.out.one
        go_wp2_with fail
        clear y4
        go_loopw [34] (fun i wr => ∃ (q : Nat) (iv : Value) (xs : List Value), q ≤ its.length ∧ i = .int .i64 q ∧ Hid (JC w #[.int .i64 k, .int .i64 x, .string s, .slice an ns.length cn, .slice a its.length c] k x s bw nv iv ns (its.take q) xs wr)) (fun i _ => its.length - (intOf i).toNat)
        case atStart => exact ⟨0, _, _, Nat.zero_le _, rfl, hC⟩
        case round =>
          clear hC
          obtain ⟨q, iv, xs, hq, rfl, hC⟩ := hrel
          by_cases hlt : q < its.length
          · have i1 : (q : Int) < (its.length : Int) := by omega
            obtain ⟨u, hu⟩ : ∃ u, Hid (its[q]? = some u) := ⟨_, List.getElem?_eq_getElem hlt⟩
            obtain ⟨b, o, rfl, hb, hV⟩ := hL.out.resolve_left (by intro e; subst e; simp at hlt)
            obtain ⟨cs, hCs, h2⟩ := VRepL.at its o q u hV hu.out
            obtain ⟨k2, x2, s2, an2, ln2, cn2, ai2, li2, ci2, rfl⟩ := vrep_five h2
            have m0 := (hC.out.bel.cell (p := ⟨b, o + q * 5, none⟩) hb).trans (hCs 0 _ rfl)
            have m1 := (hC.out.bel.cell (p := ⟨b, o + q * 5 + 1, none⟩) hb).trans (hCs 1 _ rfl)
            have m2 := (hC.out.bel.cell (p := ⟨b, o + q * 5 + 2, none⟩) hb).trans (hCs 2 _ rfl)
            have m3 := (hC.out.bel.cell (p := ⟨b, o + q * 5 + 3, none⟩) hb).trans (hCs 3 _ rfl)
            have m4 := (hC.out.bel.cell (p := ⟨b, o + q * 5 + 4, none⟩) hb).trans (hCs 4 _ rfl)
            have hcall := hid_e (fun W (hW : Below w.heap.size w W) => hI.out q u hu.out _ W (VRep.keep hW _ _ h2))
            clear hV hCs h2
            obtain ⟨an1, cn1, hiv⟩ := ownsRow_slice hC.out.own2
            have hlq : (its.take q).length = q := by simp; omega
            rw [hlq] at hiv
            subst hiv
            clear hlq
            have b7 := heap_alloc_new wr (.cells #[.int .i64 k2, .int .i64 x2, .string s2, .slice an2 ln2 cn2, .slice ai2 li2 ci2] 25)
            have hC2 := hC.out.fresh ((Below.refl _ wr).alloc (Nat.le_refl _) (.cells #[.int .i64 k2, .int .i64 x2, .string s2, .slice an2 ln2 cn2, .slice ai2 li2 ci2] 25))
            replace hC2 := hid_e hC2
            replace b7 := hid_e b7
            have hne7 : Hid (∀ g, (Value.slice an1 q cn1).ownBlock = some g → g ≠ wr.heap.size) := fun g hg => by have := (ownsRow_ge hC.out.own2 hg).2; omega
            go_upto_region 10 with fail
            clear m0 m1 m2 m3 m4 hC
            replace b7 := b7.out
            generalize wr.alloc (.cells #[.int .i64 k2, .int .i64 x2, .string s2, .slice an2 ln2 cn2, .slice ai2 li2 ci2] 25) = Wb at b7 hC2 ⊢
            generalize wr.heap.size = B7 at b7 hne7 ⊢
            have c5 := hC2.out.cur
            have c2 := hC2.out.bel
            replace hC := hid_e hC2.out.drew
            clear hC2
            replace c5 : Wb.drew.heap[bw]? = _ := c5
            replace b7 : Wb.drew.heap[B7]? = _ := b7
            replace c2 : Below w.heap.size w Wb.drew := below_drew c2
            generalize hX : Wb.drew = X at b7 c2 c5 hC
            refine wp_region_noPanic ?_
            refine Until.wp_region_U (fun w' => Below w.heap.size w w') (fun w' => w'.heap[B7]? = some (.cells #[.int .i64 k2, .int .i64 x2, .string s2, .slice an2 ln2 cn2, .slice ai2 li2 ci2] 25 (0, 0)) ∧ w'.heap[bw]? = some (.cells #[.int .i64 k, .int .i64 x, .string s, nv, .slice an1 q cn1] 25 (0, 0))) 7 (by kernel_rfl) ?_
            rw [hX]
            clear hX
            refine Until.wpU_pure (i := 0) (oi := { dst := some 38, op := Op.fieldAddr 25 (Operand.tmp 3) 4, type := 0, pos := "jsonval.go:24", after := #[], guard := none }) (v := .pointer (some ⟨bw, 4, none⟩)) rfl (by kernel_rfl) (by kernel_rfl) (by kernel_rfl) (by kernel_rfl) (by kernel_rfl) (fun _ _ _ h => h) (c2) (fun _ => ⟨b7, c5⟩) (by rfl) (by intro w'; go_simp) ?_
            try simp only [Act.put, List.setIfInBounds_toArray, List.set_cons_zero, List.set_cons_succ]
            refine Until.wpU_load1 (i := 1) (oi := { dst := some 39, op := Op.load 23 (Operand.tmp 38), type := 23, pos := "jsonval.go:24", after := #[{ on := 0, ground := Ground.data }], guard := none }) (v := .slice an1 q cn1) rfl (by kernel_rfl) (by kernel_rfl) (by kernel_rfl) (by kernel_rfl) (by kernel_rfl) (by kernel_rfl) (fun _ _ _ h => h) (c2) (⟨b7, c5⟩) (by rfl) (by intro w' hw'; obtain ⟨t0, t1, t2, t3, t4, -⟩ := row_cells hw'.2; clear hw'; go_simp) ?_
            try simp only [Act.put, List.setIfInBounds_toArray, List.set_cons_zero, List.set_cons_succ]
            refine Until.wpU_load1 (i := 2) (oi := { dst := some 40, op := Op.load 25 (Operand.tmp 7), type := 25, pos := "jsonval.go:24", after := #[], guard := none }) (v := .agg #[.int .i64 k2, .int .i64 x2, .string s2, .slice an2 ln2 cn2, .slice ai2 li2 ci2]) rfl (by kernel_rfl) (by kernel_rfl) (by kernel_rfl) (by kernel_rfl) (by kernel_rfl) (by kernel_rfl) (fun _ _ _ h => h) (c2) (⟨b7, c5⟩) (by rfl) (by intro w' hw'; obtain ⟨t0, t1, t2, t3, t4, -⟩ := row_cells hw'.1; clear hw'; go_simp) ?_
            try simp only [Act.put, List.setIfInBounds_toArray, List.set_cons_zero, List.set_cons_succ]
            refine Until.wpU_ready (rs := [3]) (by kernel_rfl) (by simp) ?_
            refine (Until.AllU.cons (o := { dst := some 41, op := Op.call { callee := Callee.value (Operand.func 9), args := #[Operand.tmp 40], argTypes := #[25] }, type := 25, pos := "jsonval.go:24", after := #[{ on := 2, ground := Ground.data }], guard := none }) rfl (fun K hK => ?_) Until.AllU.nil)
            go_simp
            refine (hcall.out X c2).mono ?_
            rintro e w2 ⟨k3, x3, s3, an3, ln3, cn3, ai3, li3, ci3, rfl, hu3, hb2⟩
            have d2 : Below w.heap.size w w2 := c2.trans (hb2.mono c2.size)
            have d7 := (hb2.block _ (Array.getElem?_eq_some_iff.1 b7).1).trans b7
            have d5 := (hb2.block _ (Array.getElem?_eq_some_iff.1 c5).1).trans c5
            replace hu3 := hid_e hu3
            refine hK.out _ _ (d2) (fun _ => ⟨d7, d5⟩) ?_
            clear hK K
            try simp only [Act.put, List.setIfInBounds_toArray, List.set_cons_zero, List.set_cons_succ]
            refine Until.wpU_ready (rs := [4]) (by kernel_rfl) (by simp) ?_
            refine (Until.AllU.cons (o := { dst := some 42, op := Op.buildSlice 23 1 #[(0, Operand.tmp 41)], type := 23, pos := "jsonval.go:24", after := #[{ on := 3, ground := Ground.data }], guard := none }) rfl (fun K hK => ?_) Until.AllU.nil)
            go_simp
            have e2 : Below w.heap.size w (w2.alloc (.cells #[.int .i64 k3, .int .i64 x3, .string s3, .slice an3 ln3 cn3, .slice ai3 li3 ci3] 25)) := d2.alloc d2.size _
            have e7 := (Below.heap_alloc w2 (.cells #[.int .i64 k3, .int .i64 x3, .string s3, .slice an3 ln3 cn3, .slice ai3 li3 ci3] 25) _ (Array.getElem?_eq_some_iff.1 d7).1).trans d7
            have e5 := (Below.heap_alloc w2 (.cells #[.int .i64 k3, .int .i64 x3, .string s3, .slice an3 ln3 cn3, .slice ai3 li3 ci3] 25) _ (Array.getElem?_eq_some_iff.1 d5).1).trans d5
            refine hK.out _ _ (e2) (fun _ => ⟨e7, e5⟩) ?_
            clear hK K
            try simp only [Act.put, List.setIfInBounds_toArray, List.set_cons_zero, List.set_cons_succ]
            have hrow := hC.out.own2
            rw [show (its.take q).length = q from by simp; omega] at hrow
            refine Until.wpU_ready (rs := [5]) (by kernel_rfl) (by simp) ?_
            refine (Until.AllU.cons (o := { dst := some 43, op := Op.call { callee := Callee.builtin Builtin.append, args := #[Operand.tmp 39, Operand.tmp 42], argTypes := #[23, 23] }, type := 23, pos := "jsonval.go:24", after := #[{ on := 1, ground := Ground.data }, { on := 4, ground := Ground.data }, { on := 3, ground := Ground.chain }], guard := none }) rfl (fun K hK => ?_) Until.AllU.nil)
            refine step_append_lies _ (by rfl) _ _ 23 (by rfl) (w.heap.size + 2) 25 i0 _ 5 80 Tryz.underlying23 hi hz0 hz1 hz2 (by rfl) (by omega) _ q xs (by rfl) ((ownsRow_below hrow hb2).alloc _) _ 1 1 [.int .i64 k3, .int .i64 x3, .string s3, .slice an3 ln3 cn3, .slice ai3 li3 ci3] (by rfl) (by rfl) (World.news_of_block (heap_alloc_new w2 _)) (five_one _ _ _ _ _ _ _ _ _) (by omega) (hbi.out q hlt).1 (hbi.out q hlt).2 (by have := hC.out.size2; have := hb2.size; simp only [World.size_alloc]; omega) _ rfl ?_
            intro g4 cap4 w3 hown3 hgrow3 hat3 hlt3
            have hstep := JC.item (u := u) hC.out hu3.out hb2 hgrow3 hat3 (by rw [show (its.take q).length = q from by simp; omega]; exact hown3)
            obtain ⟨f2, f5, hstep⟩ := hstep
            rw [show (its.take q).length = q from by simp; omega] at hstep
            have f7 := (hgrow3.block B7 (Array.getElem?_eq_some_iff.1 e7).1 (fun e => hne7.out _ e.symm rfl)).trans e7
            replace hstep := hid_e hstep
            refine hK.out _ _ (f2) (fun _ => ⟨f7, f5⟩) ?_
            clear hK K
            try simp only [Act.put, List.setIfInBounds_toArray, List.set_cons_zero, List.set_cons_succ]
            clear hat3 hgrow3 hown3 hrow
            refine Until.wpU_pure (i := 6) (oi := { dst := some 44, op := Op.fieldAddr 25 (Operand.tmp 3) 4, type := 0, pos := "jsonval.go:24", after := #[{ on := 0, ground := Ground.phase }, { on := 1, ground := Ground.phase }, { on := 2, ground := Ground.phase }, { on := 3, ground := Ground.phase }, { on := 4, ground := Ground.phase }, { on := 5, ground := Ground.phase }], guard := none }) (v := .pointer (some ⟨bw, 4, none⟩)) rfl (by kernel_rfl) (by kernel_rfl) (by kernel_rfl) (by kernel_rfl) (by kernel_rfl) (fun _ _ _ h => h) (f2) (fun _ => ⟨f7, f5⟩) (by rfl) (by intro w'; go_simp) ?_
            try simp only [Act.put, List.setIfInBounds_toArray, List.set_cons_zero, List.set_cons_succ]
            obtain ⟨-, -, -, -, z4, zf⟩ := row_cells f5
            have zf4 := zf 4
            clear zf
            refine Until.wpU_ready (rs := [7]) (by kernel_rfl) (by simp) ?_
            refine (Until.AllU.cons (o := { dst := none, op := Op.store 23 (Operand.tmp 44) (Operand.tmp 43), type := 0, pos := "jsonval.go:24", after := #[{ on := 6, ground := Ground.data }, { on := 5, ground := Ground.data }, { on := 5, ground := Ground.chain }, { on := 0, ground := Ground.phase }, { on := 1, ground := Ground.phase }, { on := 2, ground := Ground.phase }, { on := 3, ground := Ground.phase }, { on := 4, ground := Ground.phase }, { on := 5, ground := Ground.phase }], guard := none }) rfl (fun K hK => ?_) Until.AllU.nil)
            go_simp
            refine hK.out _ _ (hstep.out.bel) (fun h => absurd h (by decide)) ?_
            clear hK K
            try simp only [Act.put, List.setIfInBounds_toArray, List.set_cons_zero, List.set_cons_succ]
            refine Until.wpU_done (by kernel_rfl) ?_ _
            refine NoPanic.normal ?_
            clear z4 zf4 f5 f2 f7 e7 e5 e2 d7 d5 d2
            go_wp2_with fail
            go_roundw
            case rel => exact ⟨q + 1, _, _, by omega, by go_num, by rw [List.take_add_one, hu.out]; exact hstep⟩
            case measure => simp [intOf]; omega
          · obtain rfl : q = its.length := by omega
            clear hq hlt
            rw [List.take_length] at hC
            obtain ⟨an1, cn1, ai1, ci1, rfl, rfl, hend⟩ := jc_end hC.out (.int .i64 k) (.int .i64 x) (.string s) nv iv
            replace hend := hid_e hend
            obtain ⟨z0, z1, z2, z3, z4, zf⟩ := row_cells hC.out.two
            have zf0 := zf 0; have zf1 := zf 1; have zf2 := zf 2; have zf3 := zf 3; have zf4 := zf 4
            obtain ⟨v0, v1, v2, v3, v4, -⟩ := row_cells hC.out.cur
            clear zf
            have hr5 := put5_cells hC.out.two (.int .i64 k) (.int .i64 x) (.string s) (.slice an1 ns.length cn1) (.slice ai1 its.length ci1)
            have r0 := hr5 0; have r1 := hr5 1; have r2 := hr5 2; have r3 := hr5 3; have r4 := hr5 4
            clear hr5
            go_wp2_with fail
            refine bodyPost_ret (v := .agg #[.int .i64 k, .int .i64 x, .string s, .slice an1 ns.length cn1, .slice ai1 its.length ci1]) (by simp [results, Tryz.results9, go_sem, r0, r1, r2, r3, r4]) rfl ?_
            exact hend.out
/-- jsonval.Copy of every value: all its lists are its own. -/
theorem jcopy_own (t : Tr) (cs : List Value) (w : World) (hV : VRep w t cs) (hS : SmallT t) :
    Calls Tryz.prog 9 #[.agg cs.toArray] w (OwnPost w t) := by
  match t, hV, hS with
  | .node k x s ns its, hV, hS =>
    unfold VRep at hV
    unfold SmallT at hS
    obtain ⟨nm, a, c, rfl, hn, hc, hI⟩ := hV
    obtain ⟨an, cn, rfl, -, -⟩ := id hn
    obtain ⟨s1, s2, s3, s4, s5⟩ := hS
    refine jcopy_one k x s an cn ns a c its w (by omega) (hid_e (fun n hn => by have := s3 n hn; omega)) (by omega) (by omega) (hid_e hn) (hid_e hI) (hid_e (fun i u hu ds w' h1 => ?_))
    have hlt : SizeOf.sizeOf u < SizeOf.sizeOf its := tr_lt hu
    exact jcopy_own u ds w' h1 (SmallL.at s5 hu)
termination_by SizeOf.sizeOf t
decreasing_by simp only [Tr.node.sizeOf_spec]; omega
end Go.Proofs.YtnccaidlcaeeaaaGreatDoor.Tree
