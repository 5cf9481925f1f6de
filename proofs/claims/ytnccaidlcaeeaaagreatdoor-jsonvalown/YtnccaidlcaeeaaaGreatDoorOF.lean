import Derived.Test.YtnccaidlcaeeaaaGreatDoorOA
import Derived.Test.YtnccaidlcaeeaaaGreatDoorAQ
/-! spoil: every list of a Value is written full, and grown: what else was there stays. -/
namespace Go.Proofs.YtnccaidlcaeeaaaGreatDoor.Tree
open Go Go.RowKit

theorem grown_trans {w w1 w2 : World} {r : Option Nat} (h1 : w.grownBy w1 r) (h2 : w1.grownBy w2 r) : w.grownBy w2 r :=
  ⟨h2.os.trans h1.os, h2.tape.trans h1.tape, h2.output.trans h1.output, Nat.le_trans h1.size h2.size, fun k hk hne => (h2.block k (Nat.lt_of_lt_of_le hk h1.size) hne).trans (h1.block k hk hne)⟩
theorem store5 {w : World} {lo : Nat} {e : TypeId} {g m ci : Nat} {xs : List Value} (h : w.ownsRow lo e 5 (.slice (some ⟨g, 0, none⟩) m ci) m xs) (i : Nat) (a0 a1 a2 a3 a4 : Value) :
    (∃ ys, (((((w.setCell ⟨g, i, none⟩ a0).setCell ⟨g, i + 1, none⟩ a1).setCell ⟨g, i + 2, none⟩ a2).setCell ⟨g, i + 3, none⟩ a3).setCell ⟨g, i + 4, none⟩ a4).ownsRow lo e 5 (.slice (some ⟨g, 0, none⟩) m ci) m ys) ∧
      w.grownBy (((((w.setCell ⟨g, i, none⟩ a0).setCell ⟨g, i + 1, none⟩ a1).setCell ⟨g, i + 2, none⟩ a2).setCell ⟨g, i + 3, none⟩ a3).setCell ⟨g, i + 4, none⟩ a4) (some g) := by
  have s0 := h.stored i a0
  have s1 := s0.1.stored (i + 1) a1
  have s2 := s1.1.stored (i + 2) a2
  have s3 := s2.1.stored (i + 3) a3
  have s4 := s3.1.stored (i + 4) a4
  exact ⟨⟨_, s4.1⟩, grown_trans (grown_trans (grown_trans (grown_trans s0.2 s1.2) s2.2) s3.2) s4.2⟩
theorem row_at5 {W : World} {lo : Nat} {e : TypeId} {g n cap : Nat} {xs : List Value} (h : W.ownsRow lo e 5 (.slice (some ⟨g, 0, none⟩) n cap) n xs) (j : Nat) (hj : j < n * 5) : ∃ u, W.cell? ⟨g, j, none⟩ = some u := by
  rw [World.ownsRow.cellAt h j hj]
  exact ⟨_, List.getElem?_eq_getElem (by rw [h.1]; exact hj)⟩
/-- Rows of unlike types lie apart. -/
theorem rows_apart {w : World} {lo lo' : Nat} {e e' : TypeId} {size size' : Nat} {v v' : Value} {n n' : Nat} {xs xs' : List Value} (h : w.ownsRow lo e size v n xs) (h' : w.ownsRow lo' e' size' v' n' xs') (hne : e ≠ e') : v.ownBlock = none ∨ v.ownBlock ≠ v'.ownBlock := by
  rcases h.2 with ⟨rfl, _⟩ | ⟨g, cap, cur, rfl, hg, hh, _⟩
  · exact .inl rfl
  · refine .inr (fun eq => ?_)
    rcases h'.2 with ⟨rfl, _⟩ | ⟨g', cap', cur', rfl, hg', hh', _⟩
    · simp [Value.ownBlock] at eq
    · simp only [Value.ownBlock, Option.some.injEq] at eq
      subst eq
      rw [hh] at hh'
      simp only [Option.some.injEq, Obj.cells.injEq] at hh'
      exact hne hh'.2.1
theorem row_box {w : World} {lo : Nat} {v : Value} {n B : Nat} {xs : List Value} {b : Array Value} (h : w.ownsRow lo 9 1 v n xs) (hx : w.heap[B]? = some (.cells b 25 (0, 0))) : ∀ j, v.ownBlock = some j → j ≠ B := by
  intro j hj e
  subst e
  rcases h.2 with ⟨rfl, _⟩ | ⟨g', cap', cur, rfl, hg, hh, _⟩
  · cases hj
  · cases hj
    rw [hx] at hh
    simp at hh
/-- spoil on its way, at the last loop. -/
structure Sh (S : Nat → Prop) (w : World) (k x : Int) (s : ByteArray) (n m : Nat) (nv iv : Value) (wr : World) : Prop where
  kp : Fr S w wr
  box : wr.heap[w.heap.size]? = some (.cells #[.int .i64 k, .int .i64 x, .string s, nv, iv] 25 (0, 0))
  own1 : ∃ ys, wr.ownsRow 0 9 1 nv n ys
  own2 : ∃ ys, wr.ownsRow 0 25 5 iv m ys
  off : iv.ownBlock ≠ some w.heap.size
  pos1 : ∀ j, nv.ownBlock = some j → S j ∨ w.heap.size ≤ j
  pos2 : ∀ j, iv.ownBlock = some j → S j ∨ w.heap.size ≤ j
/-- One item more. -/
theorem Sh.item {S : Nat → Prop} {w wr wa : World} {k x : Int} {s : ByteArray} {n m : Nat} {nv iv : Value} {ys : List Value} {ga cap : Nat} (h : Sh S w k x s n m nv iv wr) (o : Obj)
    (ho : wa.ownsRow 0 25 5 (.slice (some ⟨ga, 0, none⟩) (m + 1) cap) (m + 1) ys) (hg : (wr.alloc o).grownBy wa iv.ownBlock) (hat : iv.ownBlock = some ga ∨ ga = (wr.alloc o).heap.size) :
    wa.heap[w.heap.size]? = some (.cells #[.int .i64 k, .int .i64 x, .string s, nv, iv] 25 (0, 0)) ∧ Sh S w k x s n (m + 1) nv (.slice (some ⟨ga, 0, none⟩) (m + 1) cap) (wa.setCell ⟨w.heap.size, 4, none⟩ (.slice (some ⟨ga, 0, none⟩) (m + 1) cap)) := by
  have hlt := (Array.getElem?_eq_some_iff.1 h.box).1
  have hga : ga ≠ w.heap.size := by
    rcases hat with e | e
    · intro e'; exact h.off (by rw [e, e'])
    · rw [World.size_alloc] at e; omega
  have hpos : ∀ j, (Value.slice (some ⟨ga, 0, none⟩) (m + 1) cap).ownBlock = some j → S j ∨ w.heap.size ≤ j := fun j hj => by
    cases hj
    rcases hat with e | e
    · exact h.pos2 _ e
    · rw [World.size_alloc] at e; exact .inr (by show w.heap.size ≤ ga; omega)
  have hbox : wa.heap[w.heap.size]? = some (.cells #[.int .i64 k, .int .i64 x, .string s, nv, iv] 25 (0, 0)) := (hg.block _ (by rw [World.size_alloc]; omega) (fun e => h.off e.symm)).trans ((Below.heap_alloc wr o _ hlt).trans h.box)
  obtain ⟨zs, hz⟩ := h.own1
  obtain ⟨us, hu⟩ := h.own2
  refine ⟨hbox, ⟨((h.kp.alloc o).grown hg h.pos2).set _ _ (.inr (Nat.le_refl _)), ?_, ⟨zs, ?_⟩, ⟨ys, ?_⟩, ?_, h.pos1, hpos⟩⟩
  · simp [World.setCell, Array.getElem?_modify, hbox]
  · have hne := row_box hz h.box
    refine ownsRow_keep hz (fun j hj => (Below.heap_setCell _ _ _ _ (hne j hj)).trans ((hg.block j (by rw [World.size_alloc]; have := (ownsRow_ge hz hj).2; omega) (fun e => ?_)).trans (Below.heap_alloc wr o j (ownsRow_ge hz hj).2)))
    rcases rows_apart hz hu (by decide) with h1 | h1
    · rw [h1] at hj; cases hj
    · exact h1 (by rw [hj, e])
  · refine ownsRow_keep ho (fun j hj => Below.heap_setCell _ _ _ _ (fun e => ?_))
    cases hj
    exact hga e
  · simp only [Value.ownBlock, ne_eq, Option.some.injEq]
    exact hga
/-- One name more. -/
theorem Sh.name {S : Nat → Prop} {w wr wa : World} {k x : Int} {s : ByteArray} {n m : Nat} {nv iv : Value} {ys : List Value} {ga cap : Nat} (h : Sh S w k x s n m nv iv wr) (o : Obj)
    (ho : wa.ownsRow 0 9 1 (.slice (some ⟨ga, 0, none⟩) (n + 1) cap) (n + 1) ys) (hg : (wr.alloc o).grownBy wa nv.ownBlock) (hat : nv.ownBlock = some ga ∨ ga = (wr.alloc o).heap.size) :
    wa.heap[w.heap.size]? = some (.cells #[.int .i64 k, .int .i64 x, .string s, nv, iv] 25 (0, 0)) ∧ Sh S w k x s (n + 1) m (.slice (some ⟨ga, 0, none⟩) (n + 1) cap) iv (wa.setCell ⟨w.heap.size, 3, none⟩ (.slice (some ⟨ga, 0, none⟩) (n + 1) cap)) := by
  have hlt := (Array.getElem?_eq_some_iff.1 h.box).1
  obtain ⟨zs, hz⟩ := h.own1
  obtain ⟨us, hu⟩ := h.own2
  have hne := row_box hz h.box
  have hpos : ∀ j, (Value.slice (some ⟨ga, 0, none⟩) (n + 1) cap).ownBlock = some j → S j ∨ w.heap.size ≤ j := fun j hj => by
    cases hj
    rcases hat with e | e
    · exact h.pos1 _ e
    · rw [World.size_alloc] at e; exact .inr (by show w.heap.size ≤ ga; omega)
  have hga : ga ≠ w.heap.size := by
    rcases hat with e | e
    · exact hne _ e
    · rw [World.size_alloc] at e; omega
  have hbox : wa.heap[w.heap.size]? = some (.cells #[.int .i64 k, .int .i64 x, .string s, nv, iv] 25 (0, 0)) := (hg.block _ (by rw [World.size_alloc]; omega) (fun e => hne _ e.symm rfl)).trans ((Below.heap_alloc wr o _ hlt).trans h.box)
  refine ⟨hbox, ⟨((h.kp.alloc o).grown hg h.pos1).set _ _ (.inr (Nat.le_refl _)), ?_, ⟨ys, ?_⟩, ⟨us, ?_⟩, h.off, hpos, h.pos2⟩⟩
  · simp [World.setCell, Array.getElem?_modify, hbox]
  · refine ownsRow_keep ho (fun j hj => Below.heap_setCell _ _ _ _ (fun e => ?_))
    cases hj
    exact hga e
  · refine ownsRow_keep hu (fun j hj => (Below.heap_setCell _ _ _ _ (fun e => h.off (by rw [hj, e]))).trans ((hg.block j (by rw [World.size_alloc]; have := (ownsRow_ge hu hj).2; omega) (fun e => ?_)).trans (Below.heap_alloc wr o j (ownsRow_ge hu hj).2)))
    rcases rows_apart hz hu (by decide) with h1 | h1
    · rw [h1] at e; cases e
    · exact h1 (by rw [hj, e])
end Go.Proofs.YtnccaidlcaeeaaaGreatDoor.Tree
/-! spoil. -/
namespace Go.Proofs.YtnccaidlcaeeaaaGreatDoor.Tree
open Go Go.RowKit

/-- What spoil does: of what was there only the lists of the value change. -/
def SpoilPost (w : World) (h : HT) (e : Ending) (w' : World) : Prop := e = .returned (.tuple #[]) ∧ Fr (· ∈ bksT h) w w'
def SpoilOk (kids : List HT) : Prop := ∀ (i : Nat) (u : HT), kids[i]? = some u → ∀ w', OwnF w' u → Calls Tryz.prog 10 #[.agg u.head.toArray] w' (SpoilPost w' u)
/-- The first loop of spoil. -/
structure Sp1 (S : List HT) (X : World) (box : Array Value) (B : Nat) (it : Value) (xs : List Value) (n m : Nat) (nv : Value) (ns : List Value) (wr : World) : Prop where
  fr : Fr (· ∈ bksL S) X wr
  box : wr.heap[B]? = some (.cells box 25 (0, 0))
  own1 : wr.ownsRow 0 9 1 nv n ns
  own2 : wr.ownsRow 0 25 5 it m xs
theorem head_five (u : HT) {w : World} (h : OwnF w u) : ∃ k x s an ln cn ai li ci, u.head = five k x s (.slice an ln cn) (.slice ai li ci) := by
  cases u with
  | node k x s nm it ns kids =>
    obtain ⟨h1, h2, -⟩ := h.inner
    obtain ⟨a, c, rfl⟩ := ownsRow_slice h1
    obtain ⟨a', c', rfl⟩ := ownsRow_slice h2
    exact ⟨_, _, _, _, _, _, _, _, _, rfl⟩
theorem Sp1.step {kids : List HT} {X : World} {box : Array Value} {B : Nat} {it : Value} {xs : List Value} {n m : Nat} {nv : Value} {ns : List Value} {wr w2 : World} {i : Nat} {u : HT} (hB : B < X.heap.size) (h : Sp1 (kids.take i) X box B it xs n m nv ns wr) (hu : kids[i]? = some u) (hk : OwnFL X kids) (hb : ∀ g ∈ bksL kids, g ≠ B ∧ nv.ownBlock ≠ some g ∧ it.ownBlock ≠ some g) (hf : Fr (· ∈ bksT u) wr w2) : Sp1 (kids.take (i + 1)) X box B it xs n m nv ns w2 := by
  obtain ⟨a1, a2, a3⟩ := hk.at hu
  have hsz := h.fr.size
  have e : bksL (kids.take (i + 1)) = bksL (kids.take i) ++ bksT u := by
    rw [List.take_add_one, hu]
    show bksL (kids.take i ++ [u]) = _
    rw [bksL_app, bksL_one]
  refine ⟨(h.fr.mono (fun g hg => .inl (by rw [e]; simp [hg]))).next hf (fun g hg => .inl (by rw [e]; simp [hg])), (hf.block B (by omega) (fun hg => (hb B (a3 B hg)).1 rfl)).trans h.box, ownsRow_keep h.own1 (fun g hg => hf.block g (ownsRow_ge h.own1 hg).2 (fun hg' => (hb g (a3 g hg')).2.1 hg)), ownsRow_keep h.own2 (fun g hg => hf.block g (ownsRow_ge h.own2 hg).2 (fun hg' => (hb g (a3 g hg')).2.2 hg))⟩
theorem own_later {kids : List HT} {X wr : World} {i : Nat} {u : HT} (hk : OwnFL X kids) (hu : kids[i]? = some u) (hf : Fr (· ∈ bksL (kids.take i)) X wr) : OwnF wr u := by
  obtain ⟨a1, a2, a3⟩ := hk.at hu
  exact a1.keep (fun g hg => hf.block g (a1.lt g hg) (a2 g hg))

set_option maxHeartbeats 8000000 in
set_option maxRecDepth 100000 in
theorem spoil_one (k x : Int) (s : ByteArray) (an : Option Addr) (n cn : Nat) (ns : List ByteArray) (ao : Option Addr) (m ci : Nat) (kids : List HT) (w : World) (hnl : Hid (n = ns.length)) (hml : Hid (m = kids.length))
    (hO : Hid (OwnF w (.node k x s (.slice an n cn) (.slice ao m ci) ns kids))) (hn : (n + 16) * 16 ≤ 140737488355328) (hm : (m + 16) * 80 ≤ 140737488355328) (hI : Hid (SpoilOk kids)) :
    Calls Tryz.prog 10 #[.agg #[.int .i64 k, .int .i64 x, .string s, .slice an n cn, .slice ao m ci]] w (SpoilPost w (.node k x s (.slice an n cn) (.slice ao m ci) ns kids)) := by
  obtain ⟨i9, hi9, hz0, hz1, hz2⟩ := info_parts A9
  obtain ⟨iV, hiV, hv0, hv1, hv2⟩ := info_parts AV
  have hbm : Hid (∀ q, q < 16 → m + q + 1 ≤ maxLen ∧ (m + q + 1) * 80 ≤ 140737488355328) := fun q hq => by unfold maxLen; omega
  have hbn : Hid (∀ q, q < 16 → n + q + 1 ≤ maxLen ∧ (n + q + 1) * 16 ≤ 140737488355328) := fun q hq => by unfold maxLen; omega
  have h51 : Hid (∀ u ∈ [Value.int .i64 9, .int .i64 0, .string ⟨#[]⟩, .slice none 0 0, .slice none 0 0], u.oneCell' = true) := five_one 9 0 ⟨#[]⟩ none 0 0 none 0 0
  have n0 := heap_alloc_new w (.cells #[.int .i64 k, .int .i64 x, .string s, .slice an n cn, .slice ao m ci] 25)
  have hS : Hid (∀ g, (Value.slice an n cn).ownBlock = some g ∨ (Value.slice ao m ci).ownBlock = some g ∨ g ∈ bksL kids → g ∈ bksT (.node k x s (.slice an n cn) (.slice ao m ci) ns kids)) := fun g hg => by
    rw [bksT_node]
    rcases hg with hg | hg | hg
    · simp [hg]
    · simp [hg]
    · simp [hg]
  obtain ⟨hN0, hR0, hK0, hap0⟩ := hO.out.inner
  rw [← hnl.out] at hN0
  rw [← hml.out] at hR0
  have hgl : Hid (∀ j, (Value.slice an n cn).ownBlock = some j → j < w.heap.size) := fun j hj => (ownsRow_ge hN0 hj).2
  have hil : Hid (∀ j, (Value.slice ao m ci).ownBlock = some j → j < w.heap.size) := fun j hj => (ownsRow_ge hR0 hj).2
  have hap := hid_e (rows_apart hN0 hR0 (by decide))
  have hap2 : Hid ((Value.slice ao m ci).ownBlock = none ∨ (Value.slice ao m ci).ownBlock ≠ (Value.slice an n cn).ownBlock) := by
    rcases hap.out with h | h
    · rcases hq : (Value.slice ao m ci).ownBlock with _ | q
      · exact .inl rfl
      · exact .inr (by rw [h]; simp)
    · exact .inr (fun e => h e.symm)
  have hK := hid_e (hK0.keep (w' := w.alloc (.cells #[.int .i64 k, .int .i64 x, .string s, .slice an n cn, .slice ao m ci] 25)) (fun g hg => Below.heap_alloc _ _ _ (hK0.lt g hg)))
  have hbk : Hid (∀ g ∈ bksL kids, g ≠ w.heap.size ∧ (Value.slice an n cn).ownBlock ≠ some g ∧ (Value.slice ao m ci).ownBlock ≠ some g) := fun g hg => ⟨by have := hK0.lt g hg; omega, (hap0 g hg).1, (hap0 g hg).2⟩
  have hSp : Hid (Sp1 (kids.take 0) (w.alloc (.cells #[.int .i64 k, .int .i64 x, .string s, .slice an n cn, .slice ao m ci] 25)) #[.int .i64 k, .int .i64 x, .string s, .slice an n cn, .slice ao m ci] w.heap.size (.slice ao m ci) (flatH kids) n m (.slice an n cn) (strs ns) (w.alloc (.cells #[.int .i64 k, .int .i64 x, .string s, .slice an n cn, .slice ao m ci] 25))) :=
    ⟨Fr.refl _ _, n0, hN0.alloc _, hR0.alloc _⟩
  have hf0 : Hid (Fr (· ∈ bksT (.node k x s (.slice an n cn) (.slice ao m ci) ns kids)) w (w.alloc (.cells #[.int .i64 k, .int .i64 x, .string s, .slice an n cn, .slice ao m ci] 25))) := (Fr.refl _ w).alloc _
  clear hN0 hR0 hK0 hap0 hO
  unfold SpoilPost
  generalize bksT (.node k x s (.slice an n cn) (.slice ao m ci) ns kids) = S at hS hf0 ⊢
  go_enter Tryz.func10, Tryz.ntmps10
  go_upto_region 1 with fail
  generalize w.alloc (.cells #[.int .i64 k, .int .i64 x, .string s, .slice an n cn, .slice ao m ci] 25) = X0 at n0 hK hSp hf0 ⊢
  have hX0 : Hid (w.heap.size < X0.heap.size) := (Array.getElem?_eq_some_iff.1 n0).1
  clear n0
  go_wp2_with fail
  go_loopw [2] (fun iv wr => ∃ i : Nat, i ≤ m ∧ iv = .int .i64 i ∧ Hid (Sp1 (kids.take i) X0 #[.int .i64 k, .int .i64 x, .string s, .slice an n cn, .slice ao m ci] w.heap.size (.slice ao m ci) (flatH kids) n m (.slice an n cn) (strs ns) wr)) (fun iv _ => m - (intOf iv).toNat)
  case atStart => exact ⟨0, Nat.zero_le _, rfl, hSp⟩
  case round =>
    clear hSp
    obtain ⟨i, hi, rfl, hP⟩ := hrel
    obtain ⟨-, -, -, -, y4, -⟩ := row_cells hP.out.box
    by_cases hlt : i < m
    · have i1 : (i : Int) < (m : Int) := by omega
      obtain ⟨u, hu⟩ : ∃ u, Hid (kids[i]? = some u) := ⟨_, List.getElem?_eq_getElem (by rw [← hml.out]; exact hlt)⟩
      have hOu := own_later hK.out hu.out hP.out.fr
      have hcall := hid_e (hI.out i u hu.out wr hOu)
      obtain ⟨k2, x2, s2, an2, ln2, cn2, ai2, li2, ci2, he⟩ := head_five u hOu
      rw [he] at hcall
      rcases id hP.out.own2.2 with ⟨-, h0⟩ | ⟨gi, cap, cur, hv, -⟩
      · omega
      simp only [Value.slice.injEq] at hv
      obtain ⟨rfl, -, rfl⟩ := hv
      have hat : ∀ j, j < 5 → ∀ v, u.head[j]? = some v → wr.cell? ⟨gi, i * 5 + j, none⟩ = some v := fun j hj v hv => row_cell hP.out.own2 _ _ ((flat_at hu.out j hj).trans hv)
      rw [he] at hat
      have c0 := hat 0 (by decide) _ rfl
      have c1 := hat 1 (by decide) _ rfl
      have c2 := hat 2 (by decide) _ rfl
      have c3 := hat 3 (by decide) _ rfl
      have c4 := hat 4 (by decide) _ rfl
      simp only [Nat.add_zero] at c0
      clear hat hOu he
      go_wp2_with (go_at_call 10; refine hcall.out.mono ?_; rintro e w2 ⟨rfl, hf⟩; have hP2 := hid_e (hP.out.step hX0.out hu.out hK.out hbk.out hf); clear c0 c1 c2 c3 c4 y4 hf hcall hP)
      go_roundw
      case rel => exact ⟨i + 1, by omega, by go_num, hP2⟩
      case measure => simp [intOf]; omega
    · obtain rfl : i = m := by omega
      clear hi hlt
      rw [hml.out, List.take_length, ← hml.out] at hP
      have hk0 : Hid (Fr (· ∈ S) w wr) := hf0.out.next hP.out.fr (fun g hg => .inl (hS.out g (.inr (.inr hg))))
      have hN : Hid (wr.ownsRow 0 9 1 (.slice an n cn) n (strs ns)) := hP.out.own1
      have hR : Hid (wr.ownsRow 0 25 5 (.slice ao i ci) i (flatH kids)) := hP.out.own2
      have n0 := hP.out.box
      have hX1 : Hid (w.heap.size < wr.heap.size) := (Array.getElem?_eq_some_iff.1 n0).1
      clear hP hf0 hK hX0 hI hbk
      go_wp2_with fail
      clear y4
      generalize wr = X0 at hk0 hN hR n0 hX1 ⊢
      go_loopw [3] (fun iv wr => ∃ i' : Nat, i' ≤ i ∧ iv = .int .i64 i' ∧ ∃ zs, Hid (wr.ownsRow 0 25 5 (.slice ao i ci) i zs) ∧ Hid (X0.grownBy wr (Value.slice ao i ci).ownBlock)) (fun iv _ => i - (intOf iv).toNat)
      case atStart => exact ⟨0, Nat.zero_le _, rfl, _, hR, hid_e (World.grownBy.refl _ _)⟩
      case round =>
        obtain ⟨q, hq, rfl, zs, hO, hG⟩ := hrel
        have hbx := (hG.out.block _ hX1.out (fun e => by have := hil.out _ e.symm; omega)).trans n0
        obtain ⟨-, -, -, -, y4, -⟩ := row_cells hbx
        by_cases hlt : q < i
        · have i1 : (q : Int) < (i : Int) := by omega
          rcases id hO.out.2 with ⟨-, h0⟩ | ⟨gi, cap, cur, hv, -⟩
          · omega
          simp only [Value.slice.injEq] at hv
          obtain ⟨rfl, -, rfl⟩ := hv
          obtain ⟨u0, c0⟩ := row_at5 hO.out (q * 5) (by omega)
          have f0 := hO.out.frozenAt (q * 5)
          obtain ⟨u1, c1⟩ := row_at5 hO.out (q * 5 + 1) (by omega)
          have f1 := hO.out.frozenAt (q * 5 + 1)
          obtain ⟨u2, c2⟩ := row_at5 hO.out (q * 5 + 2) (by omega)
          have f2 := hO.out.frozenAt (q * 5 + 2)
          obtain ⟨u3, c3⟩ := row_at5 hO.out (q * 5 + 3) (by omega)
          have f3 := hO.out.frozenAt (q * 5 + 3)
          obtain ⟨u4, c4⟩ := row_at5 hO.out (q * 5 + 4) (by omega)
          have f4 := hO.out.frozenAt (q * 5 + 4)
          obtain ⟨⟨zs', s1⟩, s2⟩ := store5 hO.out (q * 5) (.int .i64 9) (.int .i64 0) (.string ⟨#[63]⟩) (.slice none 0 0) (.slice none 0 0)
          have hG2 : Hid _ := hid_e (grown_trans hG.out s2)
          replace s1 := hid_e s1
          clear s2
          go_wp2_with fail
          clear u0 u1 u2 u3 u4 c0 c1 c2 c3 c4 f0 f1 f2 f3 f4 y4
          go_roundw
          case rel => exact ⟨q + 1, by omega, by go_num, zs', s1, hG2⟩
          case measure => simp [intOf]; omega
        · obtain rfl : q = i := by omega
          clear hq hlt
          have hN1 := hid_e (hN.out.kept hG.out (hap.out))
          have hk1 := hid_e (hk0.out.grown hG.out (fun j hj => .inl (hS.out j (.inr (.inl hj)))))
          have hX2 : Hid (w.heap.size < wr.heap.size) := Nat.lt_of_lt_of_le hX1.out hG.out.size
          replace hO := hid_e hO.out
          clear hG hk0 hN hR hX1 n0
          obtain ⟨-, -, -, y3, -, -⟩ := row_cells hbx
          go_wp2_with fail
          clear y3 y4
          generalize wr = X1 at hN1 hk1 hX2 hO hbx ⊢
          go_loopw [4] (fun iv wr => ∃ j : Nat, j ≤ n ∧ iv = .int .i64 j ∧ ∃ us, Hid (wr.ownsRow 0 9 1 (.slice an n cn) n us) ∧ Hid (X1.grownBy wr (Value.slice an n cn).ownBlock)) (fun iv _ => n - (intOf iv).toNat)
          case atStart => exact ⟨0, Nat.zero_le _, rfl, _, hN1, hid_e (World.grownBy.refl _ _)⟩
          case round =>
            obtain ⟨j, hj, rfl, us, hU, hG⟩ := hrel
            have hby := (hG.out.block _ hX2.out (fun e => by have := hgl.out _ e.symm; omega)).trans hbx
            obtain ⟨-, -, -, y3, -, -⟩ := row_cells hby
            by_cases hlt : j < n
            · have i1 : (j : Int) < (n : Int) := by omega
              rcases id hU.out.2 with ⟨-, h0⟩ | ⟨g, cap, cur, hv, -⟩
              · omega
              simp only [Value.slice.injEq] at hv
              obtain ⟨rfl, -, rfl⟩ := hv
              have hc : ∃ u, wr.cell? ⟨g, j, none⟩ = some u := by
                rw [World.ownsRow.cellAt hU.out j (by omega)]
                exact ⟨_, List.getElem?_eq_getElem (by rw [hU.out.1]; omega)⟩
              obtain ⟨u, c0⟩ := hc
              have f0 := hU.out.frozenAt j
              have s1 := hU.out.stored j (.string ⟨#[63]⟩)
              have hG2 := hid_e (grown_trans hG.out s1.2)
              have s2 := hid_e s1.1
              clear s1
              go_wp2_with fail
              clear c0 f0 y3
              go_roundw
              case rel => exact ⟨j + 1, by omega, by go_num, _, s2, hG2⟩
              case measure => simp [intOf]; omega
            · obtain rfl : j = n := by omega
              clear hj hlt
              have hO2 := hid_e (hO.out.kept (v := .slice ao q ci) hG.out hap2.out)
              have hSh0 : Hid (Sh (· ∈ S) w k x s (j + 0) (q + 0) (.slice an j cn) (.slice ao q ci) wr) :=
                ⟨hk1.out.grown hG.out (fun g hg => .inl (hS.out g (.inl hg))), hby, ⟨_, hU.out⟩, ⟨_, hO2.out⟩, fun e => by have := hil.out _ e; omega, fun g hg => .inl (hS.out g (.inl hg)), fun g hg => .inl (hS.out g (.inr (.inl hg)))⟩
              go_wp2_with fail
              clear y3
              generalize wr = X2 at hSh0 ⊢
              go_loopw [5] (fun iv wr => ∃ p : Nat, p ≤ 16 ∧ iv = .int .i64 p ∧ ∃ nv it, Hid (Sh (· ∈ S) w k x s (j + p) (q + p) nv it wr)) (fun iv _ => 16 - (intOf iv).toNat)
              case atStart => exact ⟨0, Nat.zero_le _, rfl, _, _, hSh0⟩
              case round =>
                clear hSh0 hO hO2 hU hG hby hbx hN1 hk1
                obtain ⟨p, hp, rfl, nv, it, hH⟩ := hrel
                by_cases hlt : p < 16
                · have i1 : (p : Int) < 16 := by omega
                  obtain ⟨vs, hown⟩ := hH.out.own2
                  obtain ⟨us1, hown1⟩ := hH.out.own1
                  obtain ⟨a4, c4, hit⟩ := ownsRow_slice hown
                  obtain ⟨a3, c3, hnv⟩ := ownsRow_slice hown1
                  subst hit hnv
                  obtain ⟨-, -, -, -, y4, -⟩ := row_cells hH.out.box
                  replace hown := hid_e hown
                  clear hown1
                  go_upto_region 16 with fail
                  go_upto_region 17 with (at_builtin; refine wpList_append_lies _ rfl _ _ 23 rfl 0 25 iV _ 5 80 Tryz.underlying23 hiV hv0 hv1 hv2 rfl (by decide) _ (q + p) vs rfl (hown.out.alloc _) ⟨wr.heap.size, 0, none⟩ 1 1 [.int .i64 9, .int .i64 0, .string ⟨#[]⟩, .slice none 0 0, .slice none 0 0] rfl rfl (World.news_of_block (heap_alloc_new wr (.cells #[.int .i64 9, .int .i64 0, .string ⟨#[]⟩, .slice none 0 0, .slice none 0 0] 25))) h51.out (by decide) (hbm.out p hlt).1 (hbm.out p hlt).2 (Nat.zero_le _) _ rfl ?_; intro ga capa Wa ho hgr hat hlta; obtain ⟨hbx, hS2⟩ := hH.out.item _ ho hgr hat; obtain ⟨-, -, -, -, z4, zf⟩ := row_cells hbx; have zf4 := zf 4; replace hS2 := hid_e hS2; clear zf y4 hown hH ho hgr hat hlta)
                  clear z4 zf4 hbx
                  generalize Wa.setCell ⟨w.heap.size, 4, none⟩ (.slice (some ⟨ga, 0, none⟩) (q + p + 1) capa) = Wb at hS2 ⊢
                  obtain ⟨us, hown⟩ := hS2.out.own1
                  replace hown := hid_e hown
                  obtain ⟨-, -, -, y3, -, -⟩ := row_cells hS2.out.box
                  go_wp2_with (at_builtin; refine wpList_append_lies _ rfl _ _ 22 rfl 0 9 i9 _ 1 16 Tryz.underlying22 hi9 hz0 hz1 hz2 rfl (by decide) _ (j + p) us rfl (hown.out.alloc _) ⟨Wb.heap.size, 0, none⟩ 1 1 [.string ⟨#[63, 63]⟩] rfl rfl (World.news_of_block (heap_alloc_new Wb (.cells #[.string ⟨#[63, 63]⟩] 9))) (fun u hu => by obtain rfl := List.mem_singleton.1 hu; rfl) (by decide) (hbn.out p hlt).1 (hbn.out p hlt).2 (Nat.zero_le _) _ rfl ?_; intro gb capb Wc ho hgr hat hltb; obtain ⟨hbx, hS3⟩ := hS2.out.name _ ho hgr hat; obtain ⟨-, -, -, z3, -, zf⟩ := row_cells hbx; have zf3 := zf 3; replace hS3 := hid_e hS3; clear zf y3 hown hS2 ho hgr hat hltb)
                  clear z3 zf3 hbx
                  go_roundw
                  case rel => exact ⟨p + 1, by omega, by go_num, _, _, hS3⟩
                  case measure => simp [intOf]; omega
                · obtain rfl : p = 16 := by omega
                  go_wp2_with fail
                  go_end0
                  exact ⟨rfl, hH.out.kp⟩
theorem trL_at : {l : List HT} → {i : Nat} → {u : HT} → l[i]? = some u → (trL l)[i]? = some u.tr
  | [], _, _, h => by simp at h
  | t :: ts, 0, u, h => by
    have : t = u := by simpa using h
    subst this
    unfold trL
    rfl
  | t :: ts, i + 1, u, h => by
    unfold trL
    exact trL_at (l := ts) (i := i) (u := u) (by simpa using h)
/-- spoil of every value whose lists are its own. -/
theorem spoil_any (h : HT) (w : World) (hO : OwnF w h) (hS : SmallT h.tr) : Calls Tryz.prog 10 #[.agg h.head.toArray] w (SpoilPost w h) := by
  match h, hO, hS with
  | .node k x s nm it ns kids, hO, hS =>
    unfold HT.tr SmallT at hS
    obtain ⟨_, s2, _, s4, s5⟩ := hS
    rw [trL_len] at s4
    obtain ⟨h1, h2, -⟩ := hO.inner
    obtain ⟨an, cn, rfl⟩ := ownsRow_slice h1
    obtain ⟨ao, ci, rfl⟩ := ownsRow_slice h2
    refine spoil_one k x s an _ cn ns ao _ ci kids w (hid_e rfl) (hid_e rfl) (hid_e hO) (by omega) (by omega) (hid_e (fun i u hu w' h1 => ?_))
    have hlt : SizeOf.sizeOf u < SizeOf.sizeOf kids := ht_lt hu
    exact spoil_any u w' h1 (SmallL.at s5 (trL_at hu))
termination_by SizeOf.sizeOf h
decreasing_by simp only [HT.node.sizeOf_spec]; omega
end Go.Proofs.YtnccaidlcaeeaaaGreatDoor.Tree
/-! under: a Value and all within it, in one list. -/
namespace Go.Proofs.YtnccaidlcaeeaaaGreatDoor.Tree
open Go Go.RowKit

def UnderPost (w : World) (h : HT) (e : Ending) (w' : World) : Prop :=
  ∃ g c, e = .returned (.slice (some ⟨g, 0, none⟩) (preT h).length c) ∧ w'.ownsRow w.heap.size 25 5 (.slice (some ⟨g, 0, none⟩) (preT h).length c) (preT h).length (flatH (preT h)) ∧ Below w.heap.size w w'
def UnderOk (kids : List HT) : Prop := ∀ (i : Nat) (u : HT), kids[i]? = some u → ∀ w', OwnF w' u → Calls Tryz.prog 20 #[.agg u.head.toArray] w' (UnderPost w' u)
theorem rows_one {w : World} {u : HT} (h : RowsT w u) : ∀ v ∈ u.head, v.oneCell' = true := by
  cases u with
  | node k x s nm it ns kids =>
    obtain ⟨h1, h2⟩ := h
    obtain ⟨a, c, rfl⟩ := ownsRow_slice h1
    obtain ⟨a', c', rfl⟩ := ownsRow_slice h2
    exact five_one k x s a _ c a' _ c'
theorem flat_one {w : World} {l : List HT} (h : ∀ u ∈ l, RowsT w u) : ∀ v ∈ flatH l, v.oneCell' = true := fun v hv => by
  obtain ⟨u, hu, hv⟩ := List.mem_flatMap.1 hv
  exact rows_one (h u hu) v hv
theorem preT_pos (h : HT) : 0 < (preT h).length := by cases h; unfold preT; simp
theorem preL_le {kids : List HT} {i : Nat} {u : HT} (hu : kids[i]? = some u) : (preL (kids.take i)).length + (preT u).length ≤ (preL kids).length := by
  have e := mem_split_at hu
  have : preL kids = preL (kids.take i) ++ (preT u ++ preL (kids.drop (i + 1))) := by
    conv => lhs; rw [e]
    rw [preL_app, preL]
  rw [this]
  simp only [List.length_append]
  omega
theorem preL_take {kids : List HT} {i : Nat} {u : HT} (hu : kids[i]? = some u) : preL (kids.take (i + 1)) = preL (kids.take i) ++ preT u := by
  rw [List.take_add_one, hu]
  show preL (kids.take i ++ [u]) = _
  rw [preL_app, preL_one]
/-- under on its way. -/
structure Un (w : World) (box : Array Value) (l : List HT) (g c : Nat) (wr : World) : Prop where
  bel : Below w.heap.size w wr
  box : wr.heap[w.heap.size]? = some (.cells box 25 (0, 0))
  row : wr.ownsRow (w.heap.size + 1) 25 5 (.slice (some ⟨g, 0, none⟩) l.length c) l.length (flatH l)
theorem Un.step {w : World} {box : Array Value} {l r : List HT} {g c g' c' gs cs : Nat} {wr w2 w3 : World} (h : Un w box l g c wr) (hb : Below wr.heap.size wr w2) (_ : w2.ownsRow wr.heap.size 25 5 (.slice (some ⟨gs, 0, none⟩) r.length cs) r.length (flatH r))
    (ho : w3.ownsRow (w.heap.size + 1) 25 5 (.slice (some ⟨g', 0, none⟩) (l.length + r.length) c') (l.length + r.length) (flatH l ++ flatH r)) (hg : w2.grownBy w3 (some g)) : Un w box (l ++ r) g' c' w3 := by
  have hgl := (ownsRow_ge h.row (g := g) rfl).1
  have hlt := (Array.getElem?_eq_some_iff.1 h.box).1
  have hb2 : Below w.heap.size w w2 := h.bel.trans (hb.mono h.bel.size)
  refine ⟨hb2.trans (grown_below hg hb2.size (fun q hq => by cases hq; omega)), ?_, ?_⟩
  · exact (hg.block _ (by have := hb.size; omega) (fun e => by cases e; omega)).trans ((hb.block _ hlt).trans h.box)
  · rw [flatH_app, List.length_append]
    exact ho
set_option maxHeartbeats 8000000 in
set_option maxRecDepth 100000 in
theorem under_one (k x : Int) (s : ByteArray) (an : Option Addr) (n cn : Nat) (ns : List ByteArray) (ao : Option Addr) (m ci : Nat) (kids : List HT) (w : World) (hml : Hid (m = kids.length))
    (hO : Hid (OwnF w (.node k x s (.slice an n cn) (.slice ao m ci) ns kids))) (hP : Hid (((preL kids).length + 1) * 80 ≤ 140737488355328)) (hm : m ≤ 9223372036854775806) (hI : Hid (UnderOk kids)) :
    Calls Tryz.prog 20 #[.agg #[.int .i64 k, .int .i64 x, .string s, .slice an n cn, .slice ao m ci]] w (UnderPost w (.node k x s (.slice an n cn) (.slice ao m ci) ns kids)) := by
  obtain ⟨iV, hiV, hv0, hv1, hv2⟩ := info_parts AV
  have n1 := new1 w (.cells #[.int .i64 k, .int .i64 x, .string s, .slice an n cn, .slice ao m ci] 25) (.cells #[.int .i64 k, .int .i64 x, .string s, .slice an n cn, .slice ao m ci] 25)
  have n2 := new2 w (.cells #[.int .i64 k, .int .i64 x, .string s, .slice an n cn, .slice ao m ci] 25) (.cells #[.int .i64 k, .int .i64 x, .string s, .slice an n cn, .slice ao m ci] 25)
  have hU0 : Hid (Un w #[.int .i64 k, .int .i64 x, .string s, .slice an n cn, .slice ao m ci] (.node k x s (.slice an n cn) (.slice ao m ci) ns kids :: preL (kids.take 0)) (w.heap.size + 1) 1 ((w.alloc (.cells #[.int .i64 k, .int .i64 x, .string s, .slice an n cn, .slice ao m ci] 25)).alloc (.cells #[.int .i64 k, .int .i64 x, .string s, .slice an n cn, .slice ao m ci] 25))) := by
    refine ⟨((Below.refl _ w).alloc (Nat.le_refl _) _).alloc (by simp) _, n1, ?_⟩
    have e : preL (kids.take 0) = [] := by simp [preL]
    rw [e]
    exact ⟨by simp [flatH, HT.head, five], .inr ⟨w.heap.size + 1, 1, _, rfl, Nat.le_refl _, n2, Nat.le_refl _, by unfold maxLen; omega, rfl, by simp [flatH, HT.head, five]⟩⟩
  have hres : Hid (preT (.node k x s (.slice an n cn) (.slice ao m ci) ns kids) = .node k x s (.slice an n cn) (.slice ao m ci) ns kids :: preL kids) := by rw [preT]; exact rfl
  clear n1 n2
  unfold UnderPost
  go_enter Tryz.func20, Tryz.ntmps20
  go_wp2_with fail
  go_loopw [3, 4] (fun lv iv wr => ∃ i g c N : Nat, i ≤ m ∧ iv = .int .i64 i ∧ lv = .slice (some ⟨g, 0, none⟩) N c ∧ Hid (N = (preL (kids.take i)).length + 1) ∧ Hid (Un w #[.int .i64 k, .int .i64 x, .string s, .slice an n cn, .slice ao m ci] (.node k x s (.slice an n cn) (.slice ao m ci) ns kids :: preL (kids.take i)) g c wr)) (fun _ iv _ => m - (intOf iv).toNat)
  case atStart => exact ⟨0, w.heap.size + 1, 1, 1, Nat.zero_le _, rfl, rfl, hid_e (by simp [preL]), hU0⟩
  case round =>
    clear hU0
    obtain ⟨i, g, c, N, hi, rfl, rfl, hNe, hU⟩ := hrel
    obtain ⟨-, -, -, -, y4, -⟩ := row_cells hU.out.box
    by_cases hlt : i < m
    · have i1 : (i : Int) < (m : Int) := by omega
      obtain ⟨u, hu⟩ : ∃ u, Hid (kids[i]? = some u) := ⟨_, List.getElem?_eq_getElem (by rw [← hml.out]; exact hlt)⟩
      obtain ⟨-, hR0, hK0, -⟩ := hO.out.inner
      rw [← hml.out] at hR0
      have hR := ownsRow_below hR0 hU.out.bel
      have hOu : OwnF wr u := (hK0.at hu.out).1.keep (fun q hq => hU.out.bel.block q ((hK0.at hu.out).1.lt q hq))
      have hcall := hid_e (hI.out i u hu.out wr hOu)
      obtain ⟨k2, x2, s2, an2, ln2, cn2, ai2, li2, ci2, he⟩ := head_five u hOu
      rw [he] at hcall
      have hone : Hid (∀ v ∈ flatH (preT u), v.oneCell' = true) := flat_one hOu.1
      rcases id hR.2 with ⟨-, h0⟩ | ⟨gi, cap, cur, hv, -⟩
      · omega
      simp only [Value.slice.injEq] at hv
      obtain ⟨rfl, -, rfl⟩ := hv
      have hat : ∀ j, j < 5 → ∀ v, u.head[j]? = some v → wr.cell? ⟨gi, i * 5 + j, none⟩ = some v := fun j hj v hv => row_cell hR _ _ ((flat_at hu.out j hj).trans hv)
      rw [he] at hat
      have c0 := hat 0 (by decide) _ rfl
      have c1 := hat 1 (by decide) _ rfl
      have c2 := hat 2 (by decide) _ rfl
      have c3 := hat 3 (by decide) _ rfl
      have c4 := hat 4 (by decide) _ rfl
      simp only [Nat.add_zero] at c0
      have hle : Hid ((N + (preT u).length) * 80 ≤ 140737488355328) := by have := preL_le hu.out; have := hP.out; have := hNe.out; show _ ≤ _; omega
      have hpos := hid_e (preT_pos u)
      have hle2 : Hid (N + (preT u).length ≤ maxLen) := by have := hle.out; show _ ≤ _; unfold maxLen; omega
      have hnext : Hid (preL (kids.take (i + 1)) = preL (kids.take i) ++ preT u) := preL_take hu.out
      clear hat hOu he hR0 hK0 hR
      go_wp2_with (first | (go_at_call 20; refine hcall.out.mono ?_; rintro e w2 ⟨gs, cs, rfl, hsrc, hb2⟩; have hrow2 := ownsRow_below hU.out.row hb2; rw [List.length_cons, ← hNe.out] at hrow2; have hbs : w.heap.size + 1 ≤ w2.heap.size := Nat.le_trans (Array.getElem?_eq_some_iff.1 hU.out.box).1 hb2.size; replace hbs := hid_e hbs; replace hrow2 := hid_e hrow2; replace hsrc := hid_e hsrc; replace hb2 := hid_e hb2; clear hcall c0 c1 c2 c3 c4 y4) | (at_builtin; refine wpList_append_lies _ rfl _ _ 23 rfl (w.heap.size + 1) 25 iV _ 5 80 Tryz.underlying23 hiV hv0 hv1 hv2 rfl (by decide) _ N _ rfl hrow2.out ⟨gs, 0, none⟩ (preT u).length cs (flatH (preT u)) rfl (flatH_len _) (fun j v hj => by rw [add_off, Nat.zero_add]; exact row_cell hsrc.out j v hj) hone.out hpos.out hle2.out hle.out hbs.out _ rfl ?_; intro g' c' w3 ho hgr hat3 hlt3; have hU2 := hid_e (Un.step (r := preT u) hU.out hb2.out hsrc.out (by rw [List.length_cons, ← hNe.out]; exact ho) hgr); clear ho hgr hat3 hlt3 hsrc hb2 hU hrow2))
      go_roundw
      case rel => exact ⟨i + 1, g', c', _, by omega, by go_num, rfl, hid_e (by rw [hnext.out, List.length_append, hNe.out, Nat.add_right_comm]), by rw [hnext.out]; exact hU2⟩
      case measure => simp [intOf]; omega
    · obtain rfl : i = m := by omega
      clear hi hlt
      rw [hml.out, List.take_length, ← hml.out] at hU
      rw [hml.out, List.take_length] at hNe
      go_wp2_with fail
      go_ret
      rw [hres.out, List.length_cons, ← hNe.out]
      refine ⟨g, c, rfl, ?_, hU.out.bel⟩
      have := ownsRow_lo (lo' := w.heap.size) hU.out.row (by omega)
      rw [List.length_cons, ← hNe.out] at this
      exact this
/-- under of every value whose lists are its own. -/
theorem under_any (h : HT) (w : World) (hO : OwnF w h) (hP : (preT h).length * 80 ≤ 140737488355328) : Calls Tryz.prog 20 #[.agg h.head.toArray] w (UnderPost w h) := by
  match h, hO, hP with
  | .node k x s nm it ns kids, hO, hP =>
    obtain ⟨h1, h2, -⟩ := hO.inner
    obtain ⟨an, cn, rfl⟩ := ownsRow_slice h1
    obtain ⟨ao, ci, rfl⟩ := ownsRow_slice h2
    rw [preT, List.length_cons] at hP
    have hk : kids.length ≤ 9223372036854775806 := by
      rcases h2.2 with ⟨-, h0⟩ | ⟨g, cap, cur, -, -, -, hc, hm, hs, -⟩
      · omega
      · have : ∀ l : List HT, l.length ≤ (preL l).length := fun l => by
          induction l with
          | nil => exact Nat.zero_le _
          | cons t ts ih => rw [preL, List.length_append, List.length_cons]; have := preT_pos t; omega
        have := this kids
        omega
    refine under_one k x s an _ cn ns ao _ ci kids w (hid_e rfl) (hid_e hO) (hid_e (by omega)) hk (hid_e (fun i u hu w' h1 => ?_))
    have hlt : SizeOf.sizeOf u < SizeOf.sizeOf kids := ht_lt hu
    have := preL_le hu
    exact under_any u w' h1 (by omega)
termination_by SizeOf.sizeOf h
decreasing_by simp only [HT.node.sizeOf_spec]; omega
end Go.Proofs.YtnccaidlcaeeaaaGreatDoor.Tree
