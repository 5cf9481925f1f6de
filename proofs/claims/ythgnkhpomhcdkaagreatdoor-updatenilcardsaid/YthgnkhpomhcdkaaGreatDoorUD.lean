import Derived.Test.YthgnkhpomhcdkaaGreatDoorUA
import Derived.Test.YthgnkhpomhcdkaaGreatDoorF5
/-! Values in memory: rows, objects of one member (out of schema's texts). -/
namespace Go.Proofs.YthgnkhpomhcdkaaGreatDoor
open Go Go.RowKit

/-- A row of values. -/
def RowT (w : World) (a : Option Addr) (l : List Tr) : Prop := l = [] ∨ ∃ b o, a = some ⟨b, o, none⟩ ∧ b < w.heap.size ∧ VRepL w b o l
theorem RowT.keep {w w' : World} {a : Option Addr} {l : List Tr} (h : RowT w a l) (hb : Below w.heap.size w w') : RowT w' a l := by
  rcases h with h | ⟨b, o, h1, h2, h3⟩
  · exact .inl h
  · exact .inr ⟨b, o, h1, Nat.lt_of_lt_of_le h2 hb.size, VRepL.keep hb h2 o l h3⟩
theorem heap_new' {w : World} {n : Nat} {o : Obj} (h : n = w.heap.size) : (w.alloc o).heap[n]? = some o := by rw [h]; exact heap_alloc_new w o
theorem row_one {w : World} {t : Tr} {v : V5} (h : VRep w t v.cs) {g : Nat} {ty : TypeId} (hg : w.heap[g]? = some (.cells #[.int .i64 v.k, .int .i64 v.x, .string v.s, .slice v.an v.ln v.cn, .slice v.ai v.li v.ci] ty (0, 0))) : RowT w (some ⟨g, 0, none⟩) [t] := by
  refine .inr ⟨g, 0, rfl, (Array.getElem?_eq_some_iff.1 hg).1, ?_⟩
  unfold VRepL
  refine ⟨v.cs, fun j u hj => ?_, h, by unfold VRepL; trivial⟩
  have := cell_of hg (0 + j)
  rw [this, Nat.zero_add]
  unfold V5.cs five at hj
  simpa using hj
/-- The cells of several Values. -/
def flatV (vs : List V5) : List Value := vs.flatMap fun v => v.cs
/-- The Values of a row. -/
def ValsAt (w : World) (ts : List Tr) (vs : List V5) : Prop := vs.length = ts.length ∧ ∀ (q : Nat) (t : Tr) (v : V5), ts[q]? = some t → vs[q]? = some v → VRep w t v.cs
theorem rep_flat {w : World} (b : Nat) : (ts : List Tr) → (vs : List V5) → (o : Nat) → ValsAt w ts vs → (∀ j u, (flatV vs)[j]? = some u → w.cell? ⟨b, o + j, none⟩ = some u) → VRepL w b o ts
  | [], _, _, _, _ => by unfold VRepL; trivial
  | t :: ts, [], _, h, _ => by have := h.1; simp at this
  | t :: ts, v :: vs, o, h, hc => by
    unfold VRepL
    have hl : v.cs.length = 5 := rfl
    refine ⟨v.cs, fun j u hj => hc j u ?_, h.2 0 t v rfl rfl, rep_flat b ts vs (o + 5) ⟨by have := h.1; simpa using this, fun q t' v' ht hv => h.2 (q + 1) t' v' (by simpa using ht) (by simpa using hv)⟩ (fun j u hj => ?_)⟩
    · unfold flatV
      rw [List.flatMap_cons, List.getElem?_append_left (List.getElem?_eq_some_iff.1 hj).1]; exact hj
    · rw [show o + 5 + j = o + (5 + j) by omega]
      refine hc (5 + j) u ?_
      unfold flatV at hj ⊢
      rw [List.flatMap_cons, List.getElem?_append_right (by omega), show 5 + j - v.cs.length = j by omega]; exact hj
/-- The Value that was made reads as the tree. -/
theorem row_two {w : World} {t1 t2 : Tr} {v1 v2 : V5} (h1 : VRep w t1 v1.cs) (h2 : VRep w t2 v2.cs) {g : Nat} {ty : TypeId} (hg : w.heap[g]? = some (.cells #[.int .i64 v1.k, .int .i64 v1.x, .string v1.s, .slice v1.an v1.ln v1.cn, .slice v1.ai v1.li v1.ci, .int .i64 v2.k, .int .i64 v2.x, .string v2.s, .slice v2.an v2.ln v2.cn, .slice v2.ai v2.li v2.ci] ty (0, 0))) : RowT w (some ⟨g, 0, none⟩) [t1, t2] := by
  refine .inr ⟨g, 0, rfl, (Array.getElem?_eq_some_iff.1 hg).1, rep_flat g [t1, t2] [v1, v2] 0 ⟨rfl, fun q t v ht hv => ?_⟩ (fun j u hj => ?_)⟩
  · rcases q with _ | _ | q
    · obtain rfl : t1 = t := by simpa using ht
      obtain rfl : v1 = v := by simpa using hv
      exact h1
    · obtain rfl : t2 = t := by simpa using ht
      obtain rfl : v2 = v := by simpa using hv
      exact h2
    · simp at ht
  · rw [cell_of hg, Nat.zero_add]
    simp only [flatV, List.flatMap_cons, List.flatMap_nil, V5.cs, five] at hj
    simpa using hj
def objU (bn bi : Nat) : V5 := ⟨6, 0, ⟨#[]⟩, some ⟨bn, 0, none⟩, 1, 1, some ⟨bi, 0, none⟩, 1, 1⟩
def numU (x : Int) : V5 := ⟨3, x, ⟨#[]⟩, none, 0, 0, none, 0, 0⟩
def wordU (s : ByteArray) : V5 := ⟨4, 0, s, none, 0, 0, none, 0, 0⟩
/-- The five cells of a Value. -/
def FiveAt (w : World) (b : Nat) (u : V5) : Prop := ∀ j v, u.cs[j]? = some v → w.cell? ⟨b, j, none⟩ = some v
theorem FiveAt.keep {w w' : World} {b : Nat} {u : V5} (h : FiveAt w b u) (hb : Below w.heap.size w w') : FiveAt w' b u := fun j v hj => stay hb (h j v hj)
set_option maxHeartbeats 1000000 in
set_option maxRecDepth 100000 in
theorem object_any (s : ByteArray) (u : V5) (w : World) :
    Calls Tryz.prog 13 #[.string s, u.v] w fun e w' => Below w.heap.size w w' ∧ ∃ bn bi, e = .returned (objU bn bi).v ∧ w'.cell? ⟨bn, 0, none⟩ = some (.string s) ∧ FiveAt w' bi u ∧ w.heap.size ≤ bn ∧ w.heap.size ≤ bi := by
  unfold V5.v objU
  simp only
  go_enter Tryz.func13, Tryz.ntmps13
  go_wp2
  go_returns
  refine ⟨?_, w.heap.size + 1 + 1, w.heap.size + 1 + 1 + 1, rfl, ?_, ?_, by omega, by omega⟩
  · exact ((((Below.refl _ w).alloc (Nat.le_refl _) _).alloc (by simp) _).alloc (by simp; omega) _).alloc (by simp; omega) _
  · exact cell_alloc' (cell_of (heap_new' (by simp)) 0) _
  · intro j v hj
    rw [cell_of (heap_new' (by simp)) j]
    unfold V5.cs five at hj
    simpa using hj
set_option maxHeartbeats 1000000 in
set_option maxRecDepth 100000 in
theorem uobject_any (s : ByteArray) (u : V5) (w : World) :
    Calls Tryz.prog 136 #[.string s, u.v] w fun e w' => Below w.heap.size w w' ∧ ∃ bn bi, e = .returned (objU bn bi).v ∧ w'.cell? ⟨bn, 0, none⟩ = some (.string s) ∧ FiveAt w' bi u ∧ w.heap.size ≤ bn ∧ w.heap.size ≤ bi := by
  unfold V5.v objU
  simp only
  go_enter Tryz.func136, Tryz.ntmps136
  go_wp2
  go_returns
  refine ⟨?_, w.heap.size + 1 + 1, w.heap.size + 1 + 1 + 1, rfl, ?_, ?_, by omega, by omega⟩
  · exact ((((Below.refl _ w).alloc (Nat.le_refl _) _).alloc (by simp) _).alloc (by simp; omega) _).alloc (by simp; omega) _
  · exact cell_alloc' (cell_of (heap_new' (by simp)) 0) _
  · intro j v hj
    rw [cell_of (heap_new' (by simp)) j]
    unfold V5.cs five at hj
    simpa using hj
theorem number_any (x : Int) (w : World) : Calls Tryz.prog 14 #[.int .i64 x] w fun e w' => e = .returned (numU x).v ∧ Below w.heap.size w w' := by
  unfold V5.v numU
  go_enter Tryz.func14, Tryz.ntmps14
  go_wp2
  go_returns
  exact ⟨rfl, (Below.refl _ w).alloc (Nat.le_refl _) _⟩
theorem jof_any (x : Int) (w : World) : Calls Tryz.prog 123 #[.int .i64 x] w fun e w' => e = .returned (numU x).v ∧ Below w.heap.size w w' := by
  unfold V5.v numU
  go_enter Tryz.func123, Tryz.ntmps123
  go_wp2
  go_returns
  exact ⟨rfl, (Below.refl _ w).alloc (Nat.le_refl _) _⟩
theorem word_any (x : ByteArray) (w : World) : Calls Tryz.prog 15 #[.string x] w fun e w' => e = .returned (wordU x).v ∧ Below w.heap.size w w' := by
  unfold V5.v wordU
  go_enter Tryz.func15, Tryz.ntmps15
  go_wp2
  go_returns
  exact ⟨rfl, (Below.refl _ w).alloc (Nat.le_refl _) _⟩
theorem num_any (z : Int) (w : World) : Calls Tryz.prog 5 #[.int .i64 z] w fun e w' => e = .returned (.int .i64 z) ∧ w' = w := by
  go_enter Tryz.func5, Tryz.ntmps5
  go_wp2
  go_ret
  exact ⟨rfl, rfl⟩
def numT (x : Int) : Tr := .node 3 x ⟨#[]⟩ [] []
def objT (s : ByteArray) (t : Tr) : Tr := .node 6 0 ⟨#[]⟩ [s] [t]
theorem vrep_num (w : World) (x : Int) : VRep w (numT x) (numU x).cs := by
  unfold numT VRep V5.cs numU
  exact ⟨_, none, 0, rfl, ⟨none, 0, rfl, ⟨Nat.le_refl _, by omega⟩, .inl rfl⟩, ⟨Nat.le_refl _, by omega⟩, .inl rfl⟩
theorem vrep_obj {w : World} {s : ByteArray} {t : Tr} {u : V5} {bn bi : Nat} (hn : w.cell? ⟨bn, 0, none⟩ = some (.string s)) (hF : FiveAt w bi u) (ht : VRep w t u.cs) : VRep w (objT s t) (objU bn bi).cs := by
  unfold objT VRep V5.cs objU
  refine ⟨_, _, 1, rfl, ⟨_, 1, rfl, ⟨Nat.le_refl _, by decide⟩, .inr ⟨bn, 0, rfl, lt_of_cell hn, fun j v hj => ?_⟩⟩, ⟨Nat.le_refl _, by decide⟩, .inr ⟨bi, 0, rfl, lt_of_cell (hF 0 _ rfl), ?_⟩⟩
  · have hl := (List.getElem?_eq_some_iff.1 hj).1
    have : j = 0 := by simp at hl; exact hl
    subst this
    have : s = v := by simpa using hj
    rw [← this]; exact hn
  · unfold VRepL
    exact ⟨u.cs, fun j v hj => by rw [Nat.zero_add]; exact hF j v hj, ht, by unfold VRepL; trivial⟩
def wordT (s : ByteArray) : Tr := .node 4 0 s [] []
theorem vrep_word (w : World) (s : ByteArray) : VRep w (wordT s) (wordU s).cs := by
  unfold wordT VRep V5.cs wordU
  exact ⟨_, none, 0, rfl, ⟨none, 0, rfl, ⟨Nat.le_refl _, by omega⟩, .inl rfl⟩, ⟨Nat.le_refl _, by omega⟩, .inl rfl⟩
end Go.Proofs.YthgnkhpomhcdkaaGreatDoor
