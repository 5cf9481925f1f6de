import Derived.Test.YthgnkhpomhcdkaaGreatDoorMA1
import Derived.Test.YthgnkhpomhcdkaaGreatDoorAQ
import Derived.Test.YthgnkhpomhcdkaaGreatDoorXI
/-! Values whose lists lie in blocks of their own. -/
namespace Go.Proofs.YthgnkhpomhcdkaaGreatDoor.Own
open Go Go.RowKit

/-- A value as it lies in memory: its cells, its names, the values of its list. -/
inductive HT where
  | node (k x : Int) (s : ByteArray) (nm it : Value) (ns : List ByteArray) (kids : List HT)
def HT.head : HT → List Value
  | .node k x s nm it _ _ => five k x s nm it
def HT.kids : HT → List HT
  | .node _ _ _ _ _ _ kids => kids
def HT.names : HT → List ByteArray
  | .node _ _ _ _ _ ns _ => ns
mutual
def HT.tr : HT → Tr
  | .node k x s _ _ ns kids => .node k x s ns (trL kids)
def trL : List HT → List Tr
  | [] => []
  | t :: ts => HT.tr t :: trL ts
end
def flatH (l : List HT) : List Value := l.flatMap HT.head
theorem head_len (t : HT) : t.head.length = 5 := by cases t; rfl
theorem flatH_len (l : List HT) : (flatH l).length = l.length * 5 := by
  induction l with
  | nil => rfl
  | cons t l ih => simp only [flatH, List.flatMap_cons, List.length_append, head_len, List.length_cons] at *; omega
theorem flatH_app (l r : List HT) : flatH (l ++ r) = flatH l ++ flatH r := by simp [flatH]
theorem flatH_one (h : HT) : flatH [h] = h.head := by simp [flatH]
theorem trL_len (l : List HT) : (trL l).length = l.length := by
  induction l with
  | nil => rfl
  | cons t l ih => unfold trL; simp [ih]
theorem trL_snoc (l : List HT) (h : HT) : trL (l ++ [h]) = trL l ++ [h.tr] := by
  induction l with
  | nil => show trL [h] = [h.tr]; unfold trL trL; rfl
  | cons t l ih => show trL (t :: (l ++ [h])) = _; unfold trL; rw [ih]; unfold trL; rfl
mutual
/-- A value and all within it, in the order of 'under'. -/
def preT : HT → List HT
  | .node k x s nm it ns kids => .node k x s nm it ns kids :: preL kids
def preL : List HT → List HT
  | [] => []
  | t :: ts => preT t ++ preL ts
end
def HT.blks : HT → List Nat
  | .node _ _ _ nm it _ _ => nm.ownBlock.toList ++ it.ownBlock.toList
def bksT (t : HT) : List Nat := (preT t).flatMap HT.blks
def bksL (l : List HT) : List Nat := (preL l).flatMap HT.blks
theorem bksT_node (k x : Int) (s : ByteArray) (nm it : Value) (ns : List ByteArray) (kids : List HT) : bksT (.node k x s nm it ns kids) = (nm.ownBlock.toList ++ it.ownBlock.toList) ++ bksL kids := by
  simp [bksT, bksL, preT, HT.blks]
theorem bksL_cons (t : HT) (ts : List HT) : bksL (t :: ts) = bksT t ++ bksL ts := by
  simp [bksT, bksL, preL]
theorem bksL_nil : bksL [] = [] := by simp [bksL, preL]
theorem preL_app : (l r : List HT) → preL (l ++ r) = preL l ++ preL r
  | [], r => by simp [preL]
  | t :: l, r => by rw [List.cons_append, preL, preL_app l r, preL, List.append_assoc]
theorem bksL_app (l r : List HT) : bksL (l ++ r) = bksL l ++ bksL r := by simp [bksL, preL_app]
theorem bksL_one (t : HT) : bksL [t] = bksT t := by rw [bksL_cons, bksL_nil, List.append_nil]
theorem preL_one (t : HT) : preL [t] = preT t := by simp [preL]
/-- The rows of one value. -/
def RowsT (w : World) : HT → Prop
  | .node _ _ _ nm it ns kids => w.ownsRow 0 9 1 nm ns.length (strs ns) ∧ w.ownsRow 0 28 5 it kids.length (flatH kids)
/-- The lists of a value lie in blocks of their own. -/
def OwnF (w : World) (h : HT) : Prop := (∀ u ∈ preT h, RowsT w u) ∧ (bksT h).Nodup
def OwnFL (w : World) (l : List HT) : Prop := (∀ u ∈ preL l, RowsT w u) ∧ (bksL l).Nodup
theorem rows_keep {w w' : World} {u : HT} (h : RowsT w u) (hk : ∀ g ∈ u.blks, w'.heap[g]? = w.heap[g]?) : RowsT w' u := by
  cases u with
  | node k x s nm it ns kids =>
    obtain ⟨h1, h2⟩ := h
    exact ⟨ownsRow_keep h1 (fun g hg => hk g (by simp [HT.blks, hg])), ownsRow_keep h2 (fun g hg => hk g (by simp [HT.blks, hg]))⟩
theorem rows_lt {w : World} {u : HT} (h : RowsT w u) : ∀ g ∈ u.blks, g < w.heap.size := by
  cases u with
  | node k x s nm it ns kids =>
    obtain ⟨h1, h2⟩ := h
    intro g hg
    rcases List.mem_append.1 hg with hg | hg
    · exact (ownsRow_ge h1 (by simpa using hg)).2
    · exact (ownsRow_ge h2 (by simpa using hg)).2
theorem OwnF.keep {w w' : World} {h : HT} (hO : OwnF w h) (hk : ∀ g ∈ bksT h, w'.heap[g]? = w.heap[g]?) : OwnF w' h :=
  ⟨fun u hu => rows_keep (hO.1 u hu) (fun g hg => hk g (List.mem_flatMap.2 ⟨u, hu, hg⟩)), hO.2⟩
theorem OwnFL.keep {w w' : World} {l : List HT} (hO : OwnFL w l) (hk : ∀ g ∈ bksL l, w'.heap[g]? = w.heap[g]?) : OwnFL w' l :=
  ⟨fun u hu => rows_keep (hO.1 u hu) (fun g hg => hk g (List.mem_flatMap.2 ⟨u, hu, hg⟩)), hO.2⟩
theorem OwnF.lt {w : World} {h : HT} (hO : OwnF w h) : ∀ g ∈ bksT h, g < w.heap.size := fun g hg => by
  obtain ⟨u, hu, hg⟩ := List.mem_flatMap.1 hg
  exact rows_lt (hO.1 u hu) g hg
theorem OwnFL.lt {w : World} {l : List HT} (hO : OwnFL w l) : ∀ g ∈ bksL l, g < w.heap.size := fun g hg => by
  obtain ⟨u, hu, hg⟩ := List.mem_flatMap.1 hg
  exact rows_lt (hO.1 u hu) g hg
theorem ownFL_nil (w : World) : OwnFL w [] := ⟨fun u hu => by simp [preL] at hu, by simp [bksL_nil]⟩
theorem OwnFL.snoc {w : World} {l : List HT} {h : HT} {m : Nat} (hl : OwnFL w l) (hh : OwnF w h) (h1 : ∀ g ∈ bksL l, g < m) (h2 : ∀ g ∈ bksT h, m ≤ g) : OwnFL w (l ++ [h]) := by
  refine ⟨fun u hu => ?_, ?_⟩
  · rw [preL_app, preL_one] at hu
    rcases List.mem_append.1 hu with hu | hu
    · exact hl.1 u hu
    · exact hh.1 u hu
  · rw [bksL_app, bksL_one]
    refine List.nodup_append.2 ⟨hl.2, hh.2, fun a ha b hb e => ?_⟩
    have := h1 a ha
    have := h2 b hb
    omega
/-- The value whose lists these are. -/
theorem ownF_node {w : World} {k x : Int} {s : ByteArray} {nm it : Value} {ns : List ByteArray} {kids : List HT} (h1 : w.ownsRow 0 9 1 nm ns.length (strs ns)) (h2 : w.ownsRow 0 28 5 it kids.length (flatH kids)) (hk : OwnFL w kids) (h3 : nm.ownBlock = none ∨ nm.ownBlock ≠ it.ownBlock) (h4 : ∀ g ∈ bksL kids, nm.ownBlock ≠ some g ∧ it.ownBlock ≠ some g) : OwnF w (.node k x s nm it ns kids) := by
  refine ⟨fun u hu => ?_, ?_⟩
  · rw [preT] at hu
    rcases List.mem_cons.1 hu with rfl | hu
    · exact ⟨h1, h2⟩
    · exact hk.1 u hu
  · rw [bksT_node]
    refine List.nodup_append.2 ⟨?_, hk.2, fun a ha b hb e => ?_⟩
    · cases hn : nm.ownBlock with
      | none => cases hi : it.ownBlock <;> simp
      | some a =>
        cases hi : it.ownBlock with
        | none => simp
        | some b =>
          rw [hn, hi] at h3
          have : a ≠ b := by rintro rfl; simp at h3
          simp [this]
    · subst e
      obtain ⟨h5, h6⟩ := h4 a hb
      rcases List.mem_append.1 ha with ha | ha
      · exact h5 (by simpa using ha)
      · exact h6 (by simpa using ha)
/-- What is within. -/
theorem OwnF.inner {w : World} {k x : Int} {s : ByteArray} {nm it : Value} {ns : List ByteArray} {kids : List HT} (h : OwnF w (.node k x s nm it ns kids)) : w.ownsRow 0 9 1 nm ns.length (strs ns) ∧ w.ownsRow 0 28 5 it kids.length (flatH kids) ∧ OwnFL w kids ∧ (∀ g ∈ bksL kids, nm.ownBlock ≠ some g ∧ it.ownBlock ≠ some g) := by
  obtain ⟨h1, h2⟩ := h
  have hr := h1 _ (by rw [preT]; exact List.mem_cons_self)
  rw [bksT_node] at h2
  obtain ⟨n1, n2, n3⟩ := List.nodup_append.1 h2
  refine ⟨hr.1, hr.2, ⟨fun u hu => h1 u (by rw [preT]; exact List.mem_cons_of_mem _ hu), n2⟩, fun g hg => ⟨fun e => ?_, fun e => ?_⟩⟩
  · exact n3 g (by simp [e]) g hg rfl
  · exact n3 g (by simp [e]) g hg rfl
theorem mem_split_at {l : List HT} {i : Nat} {u : HT} (h : l[i]? = some u) : l = l.take i ++ u :: l.drop (i + 1) := by
  have hlt := (List.getElem?_eq_some_iff.1 h).1
  have e : l[i] = u := (List.getElem?_eq_some_iff.1 h).2
  have h2 : l.drop i = u :: l.drop (i + 1) := by rw [List.drop_eq_getElem_cons hlt, e]
  rw [← h2, List.take_append_drop]
/-- One among several: it is whole, and those ahead lie elsewhere. -/
theorem OwnFL.at {w : World} {l : List HT} {i : Nat} {u : HT} (h : OwnFL w l) (hu : l[i]? = some u) : OwnF w u ∧ (∀ g ∈ bksT u, g ∉ bksL (l.take i)) ∧ ∀ g ∈ bksT u, g ∈ bksL l := by
  have e := mem_split_at hu
  obtain ⟨h1, h2⟩ := h
  have e2 : bksL l = bksL (l.take i) ++ (bksT u ++ bksL (l.drop (i + 1))) := by
    conv => lhs; rw [e]
    rw [bksL_app, bksL_cons]
  have e3 : preL l = preL (l.take i) ++ (preT u ++ preL (l.drop (i + 1))) := by
    conv => lhs; rw [e]
    rw [preL_app, preL]
  rw [e2] at h2
  obtain ⟨n1, n2, n3⟩ := List.nodup_append.1 h2
  obtain ⟨m1, m2, m3⟩ := List.nodup_append.1 n2
  refine ⟨⟨fun v hv => h1 v (by rw [e3]; simp [hv]), m1⟩, fun g hg hg' => n3 g hg' g (by simp [hg]) rfl, fun g hg => by rw [e2]; simp [hg]⟩
theorem bksL_take_sub {l : List HT} {i : Nat} {g : Nat} (h : g ∈ bksL (l.take i)) : g ∈ bksL l := by
  have : bksL l = bksL (l.take i) ++ bksL (l.drop i) := by rw [← bksL_app, List.take_append_drop]
  rw [this]; simp [h]
theorem ht_lt {l : List HT} {i : Nat} {t : HT} (h : l[i]? = some t) : SizeOf.sizeOf t < SizeOf.sizeOf l := List.sizeOf_lt_of_mem (List.mem_of_getElem? h)
theorem flat_at : {l : List HT} → {i : Nat} → {u : HT} → l[i]? = some u → ∀ j, j < 5 → (flatH l)[i * 5 + j]? = u.head[j]?
  | [], _, _, h, _, _ => by simp at h
  | t :: ts, 0, u, h, j, hj => by
    have : t = u := by simpa using h
    subst this
    simp only [flatH, List.flatMap_cons]
    rw [List.getElem?_append_left (by rw [head_len]; omega)]
    congr 1
    omega
  | t :: ts, i + 1, u, h, j, hj => by
    have ih := flat_at (l := ts) (i := i) (u := u) (by simpa using h) j hj
    simp only [flatH, List.flatMap_cons] at ih ⊢
    rw [List.getElem?_append_right (by rw [head_len]; omega), head_len, ← ih]
    congr 1
    omega
mutual
theorem own_rep {w : World} : (h : HT) → OwnF w h → VRep w h.tr h.head
  | .node k x s nm it ns kids, hO => by
    obtain ⟨h1, h2, h3, -⟩ := hO.inner
    unfold HT.tr VRep
    obtain ⟨a, c, rfl⟩ := ownsRow_slice h2
    refine ⟨nm, a, c, by rw [trL_len]; rfl, reads_own h1, ?_⟩
    rw [trL_len]
    rcases id h2.2 with ⟨hv, h0⟩ | ⟨g, cap, cur, hv, hg, hh, hc, hm, -⟩
    · have e := List.eq_nil_of_length_eq_zero h0
      subst e
      injection hv with v1 v2 v3
      subst v3
      exact ⟨⟨Nat.zero_le _, by omega⟩, .inl (by unfold trL; rfl)⟩
    · injection hv with v1 v2 v3
      subst v1 v3
      exact ⟨⟨hc, by unfold maxLen at hm; omega⟩, .inr ⟨g, 0, rfl, (Array.getElem?_eq_some_iff.1 hh).1, own_repL kids 0 h3 (fun j u hj => by rw [Nat.zero_add]; exact row_cell h2 j u hj)⟩⟩
theorem own_repL {w : World} {b : Nat} : (l : List HT) → (o : Nat) → OwnFL w l → (∀ j u, (flatH l)[j]? = some u → w.cell? ⟨b, o + j, none⟩ = some u) → VRepL w b o (trL l)
  | [], _, _, _ => by unfold trL VRepL; trivial
  | t :: ts, o, hO, hc => by
    obtain ⟨ht, -, -⟩ := hO.at (i := 0) (u := t) rfl
    have hts : OwnFL w ts := by
      obtain ⟨h1, h2⟩ := hO
      rw [bksL_cons] at h2
      exact ⟨fun u hu => h1 u (by rw [preL]; simp [hu]), (List.nodup_append.1 h2).2.1⟩
    unfold trL VRepL
    have e : flatH (t :: ts) = t.head ++ flatH ts := by simp [flatH]
    rw [e] at hc
    refine ⟨t.head, fun j u hj => hc j u (by rw [List.getElem?_append_left (List.getElem?_eq_some_iff.1 hj).1]; exact hj), own_rep t ht, own_repL ts (o + 5) hts (fun j u hj => ?_)⟩
    have := hc (5 + j) u (by rw [List.getElem?_append_right (by rw [head_len]; omega), head_len, Nat.add_sub_cancel_left]; exact hj)
    rwa [show o + 5 + j = o + (5 + j) by omega]
end
end Go.Proofs.YthgnkhpomhcdkaaGreatDoor.Own
/-! The document's Copy once more: every list of what it answers lies in a block of its own. -/
namespace Go.Proofs.YthgnkhpomhcdkaaGreatDoor.Own
open Go Go.RowKit

/-- The value t, in lists of its own, from lo on. -/
def OwnAt (lo : Nat) (W : World) (t : Tr) (cs : List Value) : Prop := ∃ h : HT, h.head = cs ∧ h.tr = t ∧ OwnF W h ∧ ∀ g ∈ bksT h, lo ≤ g
/-- What a Copy answers: the value, in lists of its own that it made. -/
def OwnPost (w : World) (t : Tr) (e : Ending) (w' : World) : Prop :=
  ∃ k x s an ln cn ai li ci, e = .returned (.agg #[.int .i64 k, .int .i64 x, .string s, .slice an ln cn, .slice ai li ci]) ∧ OwnAt w.heap.size w' t (five k x s (.slice an ln cn) (.slice ai li ci)) ∧ Below w.heap.size w w'
def CopyOkO (its : List Tr) : Prop := ∀ (i : Nat) (u : Tr), its[i]? = some u → ∀ cs w', VRep w' u cs → Calls Tryz.prog 9 #[.agg cs.toArray] w' (OwnPost w' u)
def CopyTp (w : World) (box : Array Value) (k x : Int) (s : ByteArray) (ns : List ByteArray) (bw g cap : Nat) (it : Value) (wx : World) : Prop :=
  w.heap.size + 1 < bw ∧ Below w.heap.size w wx ∧ wx.heap[w.heap.size]? = some (.cells box 28 (0, 0)) ∧ wx.heap[w.heap.size + 1]? = some (.cells #[.int .i64 0, .int .i64 0, .string ⟨#[]⟩, .slice none 0 0, .slice none 0 0] 28 (0, 0)) ∧
  wx.heap[bw]? = some (.cells #[.int .i64 k, .int .i64 x, .string s, .slice (some ⟨g, 0, none⟩) ns.length cap, it] 28 (0, 0)) ∧ (wx.ownsRow (w.heap.size + 2) 9 1 (.slice (some ⟨g, 0, none⟩) ns.length cap) ns.length (strs ns) ∧ g ≠ bw ∧ it.ownBlock ≠ some g) ∧ it.ownBlock ≠ some bw
theorem CopyTp.drew {w wr : World} {box : Array Value} {k x : Int} {s : ByteArray} {ns : List ByteArray} {bw g cap : Nat} {it : Value} (h : CopyTp w box k x s ns bw g cap it wr) : CopyTp w box k x s ns bw g cap it wr.drew := by
  obtain ⟨c1, c2, c3, c4, c5, c6, c7⟩ := h
  exact ⟨c1, below_drew c2, c3, c4, c5, c6, c7⟩
theorem copy_fin3 {w Y : World} {box : Array Value} {k x : Int} {s : ByteArray} {ns : List ByteArray} {bw g cap : Nat} (h1 : w.heap.size + 1 < bw) (h2 : Below w.heap.size w Y) (h3 : Y.heap[w.heap.size]? = some (.cells box 28 (0, 0))) (h4 : Y.heap[w.heap.size + 1]? = some (.cells #[.int .i64 0, .int .i64 0, .string ⟨#[]⟩, .slice none 0 0, .slice none 0 0] 28 (0, 0)))
    (h5 : Y.heap[bw]? = some (.cells #[.int .i64 0, .int .i64 0, .string ⟨#[]⟩, .slice none 0 0, .slice none 0 0] 28 (0, 0))) (h6 : Y.ownsRow (w.heap.size + 2) 9 1 (.slice (some ⟨g, 0, none⟩) ns.length cap) ns.length (strs ns)) (h7 : g ≠ bw) :
    CopyTp w box k x s ns bw g cap (.slice none 0 0) (put5 Y bw (.int .i64 k) (.int .i64 x) (.string s) (.slice (some ⟨g, 0, none⟩) ns.length cap) (.slice none 0 0)) :=
  ⟨h1, h2.trans (put5_below (by omega) _ _ _ _ _), (put5_far _ _ _ _ _ (by omega)).trans h3, (put5_far _ _ _ _ _ (by omega)).trans h4, put5_at h5 _ _ _ _ _,
    ⟨ownsRow_keep h6 (fun g' hg' => by cases hg'; exact put5_far _ _ _ _ _ h7), h7, by simp [Value.ownBlock]⟩, by simp [Value.ownBlock]⟩
/-- The items that were copied. -/
def KidsAt (w : World) (bw g : Nat) (it : Value) (ts : List Tr) (xs : List Value) (wr : World) : Prop := ∃ kids : List HT, flatH kids = xs ∧ trL kids = ts ∧ OwnFL wr kids ∧ ∀ j ∈ bksL kids, w.heap.size + 1 < j ∧ j ≠ bw ∧ j ≠ g ∧ it.ownBlock ≠ some j
theorem copy_end3 {w wr : World} {box : Array Value} {k x : Int} {s : ByteArray} {ns : List ByteArray} {bw g cap : Nat} {ao : Option Addr} {ci : Nat} {its : List Tr} {xs : List Value}
    (hC : CopyTp w box k x s ns bw g cap (.slice ao its.length ci) wr) (hown : wr.ownsRow (w.heap.size + 2) 28 5 (.slice ao its.length ci) its.length xs) (hS : KidsAt w bw g (.slice ao its.length ci) its xs wr) (c0 c1 c2 c3 c4 : Value) :
    OwnPost w (.node k x s ns its) (.returned (.agg #[.int .i64 k, .int .i64 x, .string s, .slice (some ⟨g, 0, none⟩) ns.length cap, .slice ao its.length ci])) (put5 wr (w.heap.size + 1) c0 c1 c2 c3 c4) := by
  obtain ⟨b1, hB, b3, b4, b5, ⟨h6, h7, h8⟩, h9⟩ := hC
  obtain ⟨kids, rfl, rfl, hk, hj⟩ := hS
  have hg := (ownsRow_ge h6 (g := g) rfl).1
  rw [trL_len] at hown h8 hj ⊢
  have far : ∀ j, w.heap.size + 1 < j → (put5 wr (w.heap.size + 1) c0 c1 c2 c3 c4).heap[j]? = wr.heap[j]? := fun j hj => put5_far _ _ _ _ _ (by omega)
  refine ⟨k, x, s, _, _, cap, ao, kids.length, ci, rfl, ⟨.node k x s (.slice (some ⟨g, 0, none⟩) ns.length cap) (.slice ao kids.length ci) ns kids, rfl, by unfold HT.tr; rfl, ?_, fun j hj' => ?_⟩, hB.trans (put5_below (by omega) _ _ _ _ _)⟩
  · refine ownF_node (ownsRow_lo (ownsRow_keep h6 (fun g' hg' => far _ (by have := (ownsRow_ge h6 hg').1; omega))) (Nat.zero_le _)) (ownsRow_lo (ownsRow_keep hown (fun g' hg' => far _ (by have := (ownsRow_ge hown hg').1; omega))) (Nat.zero_le _)) (hk.keep (fun j hj' => far _ (hj j hj').1)) (.inr (fun e => h8 e.symm)) (fun j hj' => ⟨fun e => (hj j hj').2.2.1 (by simpa [Value.ownBlock] using e.symm), (hj j hj').2.2.2⟩)
  · rw [bksT_node] at hj'
    rcases List.mem_append.1 hj' with hj' | hj'
    · rcases List.mem_append.1 hj' with hj' | hj'
      · have := (ownsRow_ge h6 (g := j) (by simpa using hj')).1; omega
      · have := (ownsRow_ge hown (g := j) (by simpa using hj')).1; omega
    · have := (hj j hj').1; omega
/-- One round of Copy. -/
theorem copy_step3 {w wr w2 w3 : World} {box : Array Value} {k x : Int} {s : ByteArray} {ns : List ByteArray} {bw g cap : Nat} {ao : Option Addr} {q ci : Nat} {ts : List Tr} {xs : List Value} {u : Tr} {cs : Array Value} {g4 cap4 : Nat}
    (hC : CopyTp w box k x s ns bw g cap (.slice ao q ci) wr) (hown : wr.ownsRow (w.heap.size + 2) 28 5 (.slice ao q ci) q xs) (hS : KidsAt w bw g (.slice ao q ci) ts xs wr)
    (hu : OwnAt wr.heap.size w2 u cs.toList) (_ : cs.toList.length = 5) (hb2 : Below wr.heap.size wr w2)
    (hgrow : (w2.alloc (.cells cs 28)).grownBy w3 (Value.slice ao q ci).ownBlock) (hat : (Value.slice ao q ci).ownBlock = some g4 ∨ g4 = (w2.alloc (.cells cs 28)).heap.size)
    (hown3 : w3.ownsRow (w.heap.size + 2) 28 5 (.slice (some ⟨g4, 0, none⟩) (q + 1) cap4) (q + 1) (xs ++ cs.toList)) :
    let w4 := w3.setCell ⟨bw, 4, none⟩ (.slice (some ⟨g4, 0, none⟩) (q + 1) cap4)
    CopyTp w box k x s ns bw g cap (.slice (some ⟨g4, 0, none⟩) (q + 1) cap4) w4 ∧ w4.ownsRow (w.heap.size + 2) 28 5 (.slice (some ⟨g4, 0, none⟩) (q + 1) cap4) (q + 1) (xs ++ cs.toList) ∧ KidsAt w bw g (.slice (some ⟨g4, 0, none⟩) (q + 1) cap4) (ts ++ [u]) (xs ++ cs.toList) w4 := by
  intro w4
  obtain ⟨c1, c2, c3, c4, c5, ⟨c6, hgbw, hgit⟩, hbne⟩ := hC
  have hgl : g < wr.heap.size := (ownsRow_ge c6 (g := g) rfl).2
  have hbwl : bw < wr.heap.size := (Array.getElem?_eq_some_iff.1 c5).1
  have hbl : w.heap.size + 1 < wr.heap.size := (Array.getElem?_eq_some_iff.1 c4).1
  have hs2 := hb2.size
  have hs3 := hgrow.size
  rw [World.size_alloc] at hs3 hat
  have own_lt : ∀ j, (Value.slice ao q ci).ownBlock = some j → w.heap.size + 2 ≤ j ∧ j < wr.heap.size := fun j hj => ownsRow_ge hown hj
  have g4ne : g4 ≠ bw := by
    rcases hat with h | h
    · intro e; subst e; exact hbne h
    · omega
  have g4g : ¬ g4 = g := by
    rcases hat with h | h
    · intro e; subst e; exact hgit h
    · omega
  have g4lo : w.heap.size + 2 ≤ g4 := (ownsRow_ge hown3 (g := g4) rfl).1
  -- a block that is not the row's
  have far3 : ∀ j, j < wr.heap.size → (Value.slice ao q ci).ownBlock ≠ some j → w3.heap[j]? = wr.heap[j]? := fun j hj hne =>
    (hgrow.block j (by rw [World.size_alloc]; omega) (fun e => hne e.symm)).trans ((Below.heap_alloc w2 _ j (by omega)).trans (hb2.block j hj))
  have far4 : ∀ j, j ≠ bw → w4.heap[j]? = w3.heap[j]? := fun j hj => Below.heap_setCell _ _ _ _ hj
  have hsz4 : w4.heap.size = w3.heap.size := by simp [w4, World.setCell]
  have hB4 : Below w.heap.size w w4 := by
    refine ⟨?_, ?_, ?_, ?_, fun j hj => ?_⟩
    · exact (show w4.os = w3.os from rfl).trans (hgrow.os.trans (hb2.os.trans c2.os))
    · exact (show w4.tape = w3.tape from rfl).trans (hgrow.tape.trans (hb2.tape.trans c2.tape))
    · exact (show w4.output = w3.output from rfl).trans (hgrow.output.trans (hb2.output.trans c2.output))
    · rw [hsz4]; have := c2.size; omega
    · rw [far4 j (by omega), far3 j (by omega) (fun e => by have := own_lt j e; omega)]
      exact c2.block j hj
  obtain ⟨kids, rfl, rfl, hk, hkj⟩ := hS
  obtain ⟨h, hh, rfl, ho, hlo⟩ := hu
  have e1 : ∀ j ∈ bksL kids, w4.heap[j]? = wr.heap[j]? := fun j hj => (far4 _ (hkj j hj).2.1).trans (far3 _ (hk.lt j hj) (hkj j hj).2.2.2)
  have e2 : ∀ j ∈ bksT h, w4.heap[j]? = w2.heap[j]? := fun j hj => by
    have h5 := hlo j hj
    have h6 := ho.lt j hj
    refine (far4 _ (by omega)).trans ((hgrow.block _ (by rw [World.size_alloc]; omega) (fun e => ?_)).trans (Below.heap_alloc w2 _ _ h6))
    have := own_lt _ e.symm
    omega
  have hsnoc : KidsAt w bw g (.slice (some ⟨g4, 0, none⟩) (q + 1) cap4) (trL kids ++ [h.tr]) (flatH kids ++ cs.toList) w4 := by
    refine ⟨kids ++ [h], by rw [flatH_app, flatH_one, hh], trL_snoc kids h, OwnFL.snoc (m := wr.heap.size) (hk.keep e1) (ho.keep e2) hk.lt hlo, fun j hj => ?_⟩
    rw [bksL_app, bksL_one] at hj
    rcases List.mem_append.1 hj with hj | hj
    · obtain ⟨a1, a2, a3, a4⟩ := hkj j hj
      refine ⟨a1, a2, a3, fun e => ?_⟩
      have e' : g4 = j := by simpa [Value.ownBlock] using e
      rcases hat with h' | h'
      · exact a4 (by rw [h', e'])
      · have := hk.lt j hj; omega
    · have h5 := hlo j hj
      have h6 := ho.lt j hj
      refine ⟨by omega, by omega, by omega, fun e => ?_⟩
      have e' : g4 = j := by simpa [Value.ownBlock] using e
      rcases hat with h' | h'
      · have := own_lt _ h'; omega
      · omega
  refine ⟨⟨c1, hB4, ?_, ?_, ?_, ⟨ownsRow_keep c6 (fun j hj => by cases hj; exact (far4 _ hgbw).trans (far3 _ hgl hgit)), hgbw, by simp only [Value.ownBlock, ne_eq, Option.some.injEq]; exact g4g⟩, by simp [Value.ownBlock]; exact g4ne⟩, ownsRow_keep hown3 (fun j hj => ?_), hsnoc⟩
  · rw [far4 _ (by omega), far3 _ (by omega) (fun e => by have := own_lt _ e; omega)]; exact c3
  · rw [far4 _ (by omega), far3 _ (by omega) (fun e => by have := own_lt _ e; omega)]; exact c4
  · have h3 : w3.heap[bw]? = _ := (far3 bw hbwl hbne).trans c5
    simp [w4, World.setCell, Array.getElem?_modify, h3]
  · cases hj
    exact far4 _ g4ne
set_option maxHeartbeats 8000000 in
set_option maxRecDepth 100000 in
theorem copy_top1 (k x : Int) (s : ByteArray) (an : Option Addr) (cn : Nat) (ns : List ByteArray) (a : Option Addr) (c : Nat) (its : List Tr) (w : World) (hnl : ns.length * 16 ≤ 140737488355328) (hil : its.length * 80 ≤ 140737488355328)
    (hN : Hid (Reads w (.slice an ns.length cn) ns)) (hL : Hid (ItemsAt' w a its)) (hI : Hid (CopyOkO its)) :
    Calls Tryz.prog 9 #[.agg #[.int .i64 k, .int .i64 x, .string s, .slice an ns.length cn, .slice a its.length c]] w (OwnPost w (.node k x s ns its)) := by
  go_enter Tryz.func9, Tryz.ntmps9
  go_upto_region 1 with fail
  have hB0 : Below w.heap.size w ((w.alloc (.cells #[.int .i64 k, .int .i64 x, .string s, .slice an ns.length cn, .slice a its.length c] 28)).alloc (.cells #[.int .i64 0, .int .i64 0, .string ⟨#[]⟩, .slice none 0 0, .slice none 0 0] 28)) := ((Below.refl _ w).alloc (Nat.le_refl _) _).alloc (by simp) _
  have n1 := new1 w (.cells #[.int .i64 k, .int .i64 x, .string s, .slice an ns.length cn, .slice a its.length c] 28) (.cells #[.int .i64 0, .int .i64 0, .string ⟨#[]⟩, .slice none 0 0, .slice none 0 0] 28)
  have n2 := new2 w (.cells #[.int .i64 k, .int .i64 x, .string s, .slice an ns.length cn, .slice a its.length c] 28) (.cells #[.int .i64 0, .int .i64 0, .string ⟨#[]⟩, .slice none 0 0, .slice none 0 0] 28)
  have hsz : ((w.alloc (.cells #[.int .i64 k, .int .i64 x, .string s, .slice an ns.length cn, .slice a its.length c] 28)).alloc (.cells #[.int .i64 0, .int .i64 0, .string ⟨#[]⟩, .slice none 0 0, .slice none 0 0] 28)).heap.size = w.heap.size + 2 := by simp only [World.size_alloc]
  generalize (w.alloc (.cells #[.int .i64 k, .int .i64 x, .string s, .slice an ns.length cn, .slice a its.length c] 28)).alloc (.cells #[.int .i64 0, .int .i64 0, .string ⟨#[]⟩, .slice none 0 0, .slice none 0 0] 28) = X0 at hB0 n1 n2 hsz
  go_cut [3] (fun p wx => ∃ (bw g cap : Nat), p = .pointer (some ⟨bw, 0, none⟩) ∧ Hid (CopyTp w #[.int .i64 k, .int .i64 x, .string s, .slice an ns.length cn, .slice a its.length c] k x s ns bw g cap (.slice none 0 0) wx))
  case first =>
    replace hB0 : Below w.heap.size w X0.drew := below_drew hB0
    replace n1 : X0.drew.heap[w.heap.size]? = some (.cells #[.int .i64 k, .int .i64 x, .string s, .slice an ns.length cn, .slice a its.length c] 28 (0, 0)) := n1
    replace n2 : X0.drew.heap[w.heap.size + 1]? = some (.cells #[.int .i64 0, .int .i64 0, .string ⟨#[]⟩, .slice none 0 0, .slice none 0 0] 28 (0, 0)) := n2
    replace hsz : X0.drew.heap.size = w.heap.size + 2 := hsz
    generalize hX : X0.drew = X at hB0 n1 n2 hsz
    replace hsz := hid_e hsz
    refine wp_region_noPanic ?_
    refine Until.wp_region_U (fun w' => w'.heap[w.heap.size]? = some (.cells #[.int .i64 k, .int .i64 x, .string s, .slice an ns.length cn, .slice a its.length c] 28 (0, 0))) (fun _ => True) 12 (by kernel_rfl) ?_
    rw [hX]
    clear hX
    refine Until.wpU_pure (i := 0) (oi := { dst := some 5, op := Op.fieldAddr 28 (Operand.tmp 1) 0, type := 0, pos := "print.go:173", after := #[], guard := none }) (v := .pointer (some ⟨w.heap.size, 0, none⟩)) rfl (by kernel_rfl) (by kernel_rfl) (by kernel_rfl) (by kernel_rfl) (by kernel_rfl) (fun _ _ _ h => h) (n1) (fun _ => trivial) (by rfl) (by intro w'; go_simp) ?_
    try simp only [Act.put, List.setIfInBounds_toArray, List.set_cons_zero, List.set_cons_succ]
    refine Until.wpU_load0 (i := 1) (oi := { dst := some 6, op := Op.load 3 (Operand.tmp 5), type := 3, pos := "print.go:173", after := #[{ on := 0, ground := Ground.data }], guard := none }) (v := .int .i64 k) rfl (by kernel_rfl) (by kernel_rfl) (by kernel_rfl) (by kernel_rfl) (by kernel_rfl) (fun _ _ _ h => h) (n1) (fun _ => trivial) (by rfl) (by intro w' hw'; obtain ⟨t0, t1, t2, t3, t4, -⟩ := row_cells hw'; go_simp) ?_
    try simp only [Act.put, List.setIfInBounds_toArray, List.set_cons_zero, List.set_cons_succ]
    refine Until.wpU_pure (i := 2) (oi := { dst := some 7, op := Op.fieldAddr 28 (Operand.tmp 1) 1, type := 0, pos := "print.go:173", after := #[], guard := none }) (v := .pointer (some ⟨w.heap.size, 1, none⟩)) rfl (by kernel_rfl) (by kernel_rfl) (by kernel_rfl) (by kernel_rfl) (by kernel_rfl) (fun _ _ _ h => h) (n1) (fun _ => trivial) (by rfl) (by intro w'; go_simp) ?_
    try simp only [Act.put, List.setIfInBounds_toArray, List.set_cons_zero, List.set_cons_succ]
    refine Until.wpU_load0 (i := 3) (oi := { dst := some 8, op := Op.load 2 (Operand.tmp 7), type := 2, pos := "print.go:173", after := #[{ on := 2, ground := Ground.data }], guard := none }) (v := .int .i64 x) rfl (by kernel_rfl) (by kernel_rfl) (by kernel_rfl) (by kernel_rfl) (by kernel_rfl) (fun _ _ _ h => h) (n1) (fun _ => trivial) (by rfl) (by intro w' hw'; obtain ⟨t0, t1, t2, t3, t4, -⟩ := row_cells hw'; go_simp) ?_
    try simp only [Act.put, List.setIfInBounds_toArray, List.set_cons_zero, List.set_cons_succ]
    refine Until.wpU_pure (i := 4) (oi := { dst := some 9, op := Op.fieldAddr 28 (Operand.tmp 1) 2, type := 0, pos := "print.go:173", after := #[], guard := none }) (v := .pointer (some ⟨w.heap.size, 2, none⟩)) rfl (by kernel_rfl) (by kernel_rfl) (by kernel_rfl) (by kernel_rfl) (by kernel_rfl) (fun _ _ _ h => h) (n1) (fun _ => trivial) (by rfl) (by intro w'; go_simp) ?_
    try simp only [Act.put, List.setIfInBounds_toArray, List.set_cons_zero, List.set_cons_succ]
    refine Until.wpU_load0 (i := 5) (oi := { dst := some 10, op := Op.load 9 (Operand.tmp 9), type := 9, pos := "print.go:173", after := #[{ on := 4, ground := Ground.data }], guard := none }) (v := .string s) rfl (by kernel_rfl) (by kernel_rfl) (by kernel_rfl) (by kernel_rfl) (by kernel_rfl) (fun _ _ _ h => h) (n1) (fun _ => trivial) (by rfl) (by intro w' hw'; obtain ⟨t0, t1, t2, t3, t4, -⟩ := row_cells hw'; go_simp) ?_
    try simp only [Act.put, List.setIfInBounds_toArray, List.set_cons_zero, List.set_cons_succ]
    refine Until.wpU_pure (i := 7) (oi := { dst := some 12, op := Op.fieldAddr 28 (Operand.tmp 1) 3, type := 0, pos := "print.go:173", after := #[], guard := none }) (v := .pointer (some ⟨w.heap.size, 3, none⟩)) rfl (by kernel_rfl) (by kernel_rfl) (by kernel_rfl) (by kernel_rfl) (by kernel_rfl) (fun _ _ _ h => h) (n1) (fun _ => trivial) (by rfl) (by intro w'; go_simp) ?_
    try simp only [Act.put, List.setIfInBounds_toArray, List.set_cons_zero, List.set_cons_succ]
    refine Until.wpU_load0 (i := 8) (oi := { dst := some 13, op := Op.load 25 (Operand.tmp 12), type := 25, pos := "print.go:173", after := #[{ on := 7, ground := Ground.data }], guard := none }) (v := .slice an ns.length cn) rfl (by kernel_rfl) (by kernel_rfl) (by kernel_rfl) (by kernel_rfl) (by kernel_rfl) (fun _ _ _ h => h) (n1) (fun _ => trivial) (by rfl) (by intro w' hw'; obtain ⟨t0, t1, t2, t3, t4, -⟩ := row_cells hw'; go_simp) ?_
    try simp only [Act.put, List.setIfInBounds_toArray, List.set_cons_zero, List.set_cons_succ]
    refine Until.wpU_ready (rs := [6, 11]) (by kernel_rfl) (by simp) ?_
    refine (Until.AllU.cons (o := { dst := some 11, op := Op.buildSlice 25 0 #[], type := 25, pos := "print.go:173", after := #[], guard := none }) rfl (fun K hK => ?_) (Until.AllU.cons (o := { dst := some 3, op := Op.alloc 28, type := 0, pos := "print.go:173", after := #[], guard := none }) rfl (fun K hK => ?_) Until.AllU.nil))
    · go_simp
      have e1 := (Below.heap_alloc X (.cells #[] 9) w.heap.size (by have := hsz.out; omega)).trans n1
      have e2 := (Below.heap_alloc X (.cells #[] 9) (w.heap.size + 1) (by have := hsz.out; omega)).trans n2
      refine hK.out _ _ e1 (fun _ => trivial) ?_
      clear hK K
      try simp only [Act.put, List.setIfInBounds_toArray, List.set_cons_zero, List.set_cons_succ]
      refine Until.wpU_ready (rs := [9, 11]) (by kernel_rfl) (by simp) ?_
      refine (Until.AllU.cons (o := { dst := some 14, op := Op.call { callee := Callee.builtin Builtin.append, args := #[Operand.tmp 11, Operand.tmp 13], argTypes := #[25, 25] }, type := 25, pos := "print.go:173", after := #[{ on := 6, ground := Ground.data }, { on := 8, ground := Ground.data }], guard := none }) rfl (fun K hK => ?_) (Until.AllU.cons (o := { dst := some 3, op := Op.alloc 28, type := 0, pos := "print.go:173", after := #[], guard := none }) rfl (fun K hK => ?_) Until.AllU.nil))
      · refine step_append_texts _ (by rfl) _ _ (by rfl) X.heap.size X.heap.size (owns_empty X) (by rfl) _ ns (by rfl) (hN.out.keep (hB0.alloc (by have := hsz.out; omega) _)) hnl (by simp only [World.size_alloc]; omega) ?_
        intro g cap Y hown hgrow hat
        have f1 := (hgrow.block w.heap.size (by simp only [World.size_alloc]; have := hsz.out; omega) (by have := hsz.out; simp; omega)).trans e1
        have f2 := (hgrow.block (w.heap.size + 1) (by simp only [World.size_alloc]; have := hsz.out; omega) (by have := hsz.out; simp; omega)).trans e2
        have hYs : w.heap.size + 3 ≤ Y.heap.size := by have := hgrow.size; simp only [World.size_alloc] at this; have := hsz.out; omega
        have hBY : Below w.heap.size w Y := (hB0.alloc (by have := hsz.out; omega) _).trans (grown_below hgrow (by simp only [World.size_alloc]; have := hsz.out; omega) (fun g hg => by cases hg; have := hsz.out; omega))
        replace hown := ownsRow_lo hown (show w.heap.size + 2 ≤ X.heap.size by have := hsz.out; omega)
        clear hat hgrow
        refine hK.out _ _ f1 (fun _ => trivial) ?_
        clear hK K
        try simp only [Act.put, List.setIfInBounds_toArray, List.set_cons_zero, List.set_cons_succ]
        refine Until.wpU_pure (i := 10) (oi := { dst := some 15, op := Op.build 28 #[(0, Operand.tmp 6), (1, Operand.tmp 8), (2, Operand.tmp 10), (3, Operand.tmp 14)], type := 28, pos := "print.go:173", after := #[{ on := 1, ground := Ground.data }, { on := 3, ground := Ground.data }, { on := 5, ground := Ground.data }, { on := 9, ground := Ground.data }], guard := none }) (v := .agg #[.int .i64 k, .int .i64 x, .string s, .slice (some ⟨g, 0, none⟩) ns.length cap, .slice none 0 0]) rfl (by kernel_rfl) (by kernel_rfl) (by kernel_rfl) (by kernel_rfl) (by kernel_rfl) (fun _ _ _ h => h) (f1) (fun _ => trivial) (by rfl) (by intro w'; go_simp) ?_
        try simp only [Act.put, List.setIfInBounds_toArray, List.set_cons_zero, List.set_cons_succ]
        refine Until.wpU_ready (rs := [11]) (by kernel_rfl) (by simp) ?_
        refine (Until.AllU.cons (o := { dst := some 3, op := Op.alloc 28, type := 0, pos := "print.go:173", after := #[], guard := none }) rfl (fun K hK => ?_) Until.AllU.nil)
        go_simp
        have q1 := (Below.heap_alloc Y (.cells #[.int .i64 0, .int .i64 0, .string ⟨#[]⟩, .slice none 0 0, .slice none 0 0] 28) w.heap.size (by omega)).trans f1
        have q2 := (Below.heap_alloc Y (.cells #[.int .i64 0, .int .i64 0, .string ⟨#[]⟩, .slice none 0 0, .slice none 0 0] 28) (w.heap.size + 1) (by omega)).trans f2
        have q3 := heap_alloc_new Y (.cells #[.int .i64 0, .int .i64 0, .string ⟨#[]⟩, .slice none 0 0, .slice none 0 0] 28)
        have hgY := (ownsRow_ge hown (g := g) rfl).2
        have hBZ : Below w.heap.size w (Y.alloc (.cells #[.int .i64 0, .int .i64 0, .string ⟨#[]⟩, .slice none 0 0, .slice none 0 0] 28)) := hBY.alloc (by omega) _
        have hfin := fun (_ : Unit) => copy_fin3 (w := w) (Y := Y.alloc (.cells #[.int .i64 0, .int .i64 0, .string ⟨#[]⟩, .slice none 0 0, .slice none 0 0] 28)) (bw := Y.heap.size) (k := k) (x := x) (s := s) (by omega) hBZ q1 q2 q3 (hown.alloc _) (by omega)
        refine hK.out _ _ q1 (fun _ => trivial) ?_
        clear hK K
        try simp only [Act.put, List.setIfInBounds_toArray, List.set_cons_zero, List.set_cons_succ]
        generalize Y.alloc (.cells #[.int .i64 0, .int .i64 0, .string ⟨#[]⟩, .slice none 0 0, .slice none 0 0] 28) = Z at q1 q2 q3 hBZ hfin ⊢
        obtain ⟨z0, z1, z2, z3, z4, zf⟩ := row_cells q3
        have zf0 := zf 0; have zf1 := zf 1; have zf2 := zf 2; have zf3 := zf 3; have zf4 := zf 4
        clear zf
        refine Until.wpU_ready (rs := [12]) (by kernel_rfl) (by simp) ?_
        refine (Until.AllU.cons (o := { dst := none, op := Op.store 28 (Operand.tmp 3) (Operand.tmp 15), type := 0, pos := "print.go:173", after := #[{ on := 11, ground := Ground.data }, { on := 10, ground := Ground.data }, { on := 9, ground := Ground.chain }, { on := 0, ground := Ground.phase }, { on := 1, ground := Ground.phase }, { on := 2, ground := Ground.phase }, { on := 3, ground := Ground.phase }, { on := 4, ground := Ground.phase }, { on := 5, ground := Ground.phase }, { on := 6, ground := Ground.phase }, { on := 7, ground := Ground.phase }, { on := 8, ground := Ground.phase }, { on := 9, ground := Ground.phase }, { on := 10, ground := Ground.phase }, { on := 11, ground := Ground.phase }], guard := none }) rfl (fun K hK => ?_) Until.AllU.nil)
        go_simp
        have hp := (put5_far (w := Z) (g := Y.heap.size) (.int .i64 k) (.int .i64 x) (.string s) (.slice (some ⟨g, 0, none⟩) ns.length cap) (.slice none 0 0) (show w.heap.size ≠ Y.heap.size by have := hsz.out; omega)).trans q1
        refine hK.out _ _ hp (fun _ => trivial) ?_
        clear hK K z0 z1 z2 z3 z4 zf0 zf1 zf2 zf3 zf4
        try simp only [Act.put, List.setIfInBounds_toArray, List.set_cons_zero, List.set_cons_succ]
        refine Until.wpU_done (by kernel_rfl) ?_ _
        refine NoPanic.normal ?_
        go_wp2_with fail
        go_meet
        exact ⟨_, g, cap, rfl, hid_e (hfin ())⟩
      · go_simp
        have q1 := (Below.heap_alloc (X.alloc (.cells #[] 9)) (.cells #[.int .i64 0, .int .i64 0, .string ⟨#[]⟩, .slice none 0 0, .slice none 0 0] 28) w.heap.size (by simp only [World.size_alloc]; have := hsz.out; omega)).trans e1
        have q2 := (Below.heap_alloc (X.alloc (.cells #[] 9)) (.cells #[.int .i64 0, .int .i64 0, .string ⟨#[]⟩, .slice none 0 0, .slice none 0 0] 28) (w.heap.size + 1) (by simp only [World.size_alloc]; have := hsz.out; omega)).trans e2
        refine hK.out _ _ q1 (fun _ => trivial) ?_
        clear hK K
        try simp only [Act.put, List.setIfInBounds_toArray, List.set_cons_zero, List.set_cons_succ]
        refine Until.wpU_ready (rs := [9]) (by kernel_rfl) (by simp) ?_
        refine (Until.AllU.cons (o := { dst := some 14, op := Op.call { callee := Callee.builtin Builtin.append, args := #[Operand.tmp 11, Operand.tmp 13], argTypes := #[25, 25] }, type := 25, pos := "print.go:173", after := #[{ on := 6, ground := Ground.data }, { on := 8, ground := Ground.data }], guard := none }) rfl (fun K hK => ?_) Until.AllU.nil)
        refine step_append_texts _ (by rfl) _ _ (by rfl) X.heap.size X.heap.size ((owns_empty X).alloc _) (by rfl) _ ns (by rfl) (hN.out.keep ((hB0.alloc (by have := hsz.out; omega) _).alloc (by simp only [World.size_alloc]; have := hsz.out; omega) _)) hnl (by simp only [World.size_alloc]; omega) ?_
        intro g cap Y hown hgrow hat
        have f1 := (hgrow.block w.heap.size (by simp only [World.size_alloc]; have := hsz.out; omega) (by have := hsz.out; simp; omega)).trans q1
        have f2 := (hgrow.block (w.heap.size + 1) (by simp only [World.size_alloc]; have := hsz.out; omega) (by have := hsz.out; simp; omega)).trans q2
        have f3 := (hgrow.block (X.alloc (.cells #[] 9)).heap.size (by simp only [World.size_alloc]; omega) (by simp only [World.size_alloc]; simp)).trans (heap_alloc_new (X.alloc (.cells #[] 9)) (.cells #[.int .i64 0, .int .i64 0, .string ⟨#[]⟩, .slice none 0 0, .slice none 0 0] 28))
        have hBY : Below w.heap.size w Y := ((hB0.alloc (by have := hsz.out; omega) _).alloc (by simp only [World.size_alloc]; have := hsz.out; omega) _).trans (grown_below hgrow (by simp only [World.size_alloc]; have := hsz.out; omega) (fun g hg => by cases hg; have := hsz.out; omega))
        replace hown := ownsRow_lo hown (show w.heap.size + 2 ≤ X.heap.size by have := hsz.out; omega)
        rw [World.size_alloc] at f3
        have hfin := fun (_ : Unit) => copy_fin3 (w := w) (Y := Y) (bw := X.heap.size + 1) (k := k) (x := x) (s := s) (by have := hsz.out; omega) hBY f1 f2 f3 hown (by simp only [World.size_alloc] at hat; omega)
        have q3 := f3
        clear hat hgrow
        refine hK.out _ _ f1 (fun _ => trivial) ?_
        clear hK K
        try simp only [Act.put, List.setIfInBounds_toArray, List.set_cons_zero, List.set_cons_succ]
        refine Until.wpU_pure (i := 10) (oi := { dst := some 15, op := Op.build 28 #[(0, Operand.tmp 6), (1, Operand.tmp 8), (2, Operand.tmp 10), (3, Operand.tmp 14)], type := 28, pos := "print.go:173", after := #[{ on := 1, ground := Ground.data }, { on := 3, ground := Ground.data }, { on := 5, ground := Ground.data }, { on := 9, ground := Ground.data }], guard := none }) (v := .agg #[.int .i64 k, .int .i64 x, .string s, .slice (some ⟨g, 0, none⟩) ns.length cap, .slice none 0 0]) rfl (by kernel_rfl) (by kernel_rfl) (by kernel_rfl) (by kernel_rfl) (by kernel_rfl) (fun _ _ _ h => h) (f1) (fun _ => trivial) (by rfl) (by intro w'; go_simp) ?_
        try simp only [Act.put, List.setIfInBounds_toArray, List.set_cons_zero, List.set_cons_succ]
        obtain ⟨z0, z1, z2, z3, z4, zf⟩ := row_cells q3
        have zf0 := zf 0; have zf1 := zf 1; have zf2 := zf 2; have zf3 := zf 3; have zf4 := zf 4
        clear zf
        refine Until.wpU_ready (rs := [12]) (by kernel_rfl) (by simp) ?_
        refine (Until.AllU.cons (o := { dst := none, op := Op.store 28 (Operand.tmp 3) (Operand.tmp 15), type := 0, pos := "print.go:173", after := #[{ on := 11, ground := Ground.data }, { on := 10, ground := Ground.data }, { on := 9, ground := Ground.chain }, { on := 0, ground := Ground.phase }, { on := 1, ground := Ground.phase }, { on := 2, ground := Ground.phase }, { on := 3, ground := Ground.phase }, { on := 4, ground := Ground.phase }, { on := 5, ground := Ground.phase }, { on := 6, ground := Ground.phase }, { on := 7, ground := Ground.phase }, { on := 8, ground := Ground.phase }, { on := 9, ground := Ground.phase }, { on := 10, ground := Ground.phase }, { on := 11, ground := Ground.phase }], guard := none }) rfl (fun K hK => ?_) Until.AllU.nil)
        go_simp
        have hp := (put5_far (w := Y) (g := (X.heap.size + 1)) (.int .i64 k) (.int .i64 x) (.string s) (.slice (some ⟨g, 0, none⟩) ns.length cap) (.slice none 0 0) (show w.heap.size ≠ (X.heap.size + 1) by have := hsz.out; omega)).trans f1
        refine hK.out _ _ hp (fun _ => trivial) ?_
        clear hK K z0 z1 z2 z3 z4 zf0 zf1 zf2 zf3 zf4
        try simp only [Act.put, List.setIfInBounds_toArray, List.set_cons_zero, List.set_cons_succ]
        refine Until.wpU_done (by kernel_rfl) ?_ _
        refine NoPanic.normal ?_
        go_wp2_with fail
        go_meet
        exact ⟨_, g, cap, rfl, hid_e (hfin ())⟩
    · go_simp
      have e1 := (Below.heap_alloc X (.cells #[.int .i64 0, .int .i64 0, .string ⟨#[]⟩, .slice none 0 0, .slice none 0 0] 28) w.heap.size (by have := hsz.out; omega)).trans n1
      have e2 := (Below.heap_alloc X (.cells #[.int .i64 0, .int .i64 0, .string ⟨#[]⟩, .slice none 0 0, .slice none 0 0] 28) (w.heap.size + 1) (by have := hsz.out; omega)).trans n2
      refine hK.out _ _ e1 (fun _ => trivial) ?_
      clear hK K
      try simp only [Act.put, List.setIfInBounds_toArray, List.set_cons_zero, List.set_cons_succ]
      refine Until.wpU_ready (rs := [6]) (by kernel_rfl) (by simp) ?_
      refine (Until.AllU.cons (o := { dst := some 11, op := Op.buildSlice 25 0 #[], type := 25, pos := "print.go:173", after := #[], guard := none }) rfl (fun K hK => ?_) Until.AllU.nil)
      go_simp
      have q1 := (Below.heap_alloc (X.alloc (.cells #[.int .i64 0, .int .i64 0, .string ⟨#[]⟩, .slice none 0 0, .slice none 0 0] 28)) (.cells #[] 9) w.heap.size (by simp only [World.size_alloc]; have := hsz.out; omega)).trans e1
      have q2 := (Below.heap_alloc (X.alloc (.cells #[.int .i64 0, .int .i64 0, .string ⟨#[]⟩, .slice none 0 0, .slice none 0 0] 28)) (.cells #[] 9) (w.heap.size + 1) (by simp only [World.size_alloc]; have := hsz.out; omega)).trans e2
      refine hK.out _ _ q1 (fun _ => trivial) ?_
      clear hK K
      try simp only [Act.put, List.setIfInBounds_toArray, List.set_cons_zero, List.set_cons_succ]
      refine Until.wpU_ready (rs := [9]) (by kernel_rfl) (by simp) ?_
      refine (Until.AllU.cons (o := { dst := some 14, op := Op.call { callee := Callee.builtin Builtin.append, args := #[Operand.tmp 11, Operand.tmp 13], argTypes := #[25, 25] }, type := 25, pos := "print.go:173", after := #[{ on := 6, ground := Ground.data }, { on := 8, ground := Ground.data }], guard := none }) rfl (fun K hK => ?_) Until.AllU.nil)
      refine step_append_texts _ (by rfl) _ _ (by rfl) (X.heap.size + 1) (X.heap.size + 1) (by have := owns_empty (X.alloc (.cells #[.int .i64 0, .int .i64 0, .string ⟨#[]⟩, .slice none 0 0, .slice none 0 0] 28)); rw [World.size_alloc] at this; exact this) (by rfl) _ ns (by rfl) (hN.out.keep ((hB0.alloc (by have := hsz.out; omega) _).alloc (by simp only [World.size_alloc]; have := hsz.out; omega) _)) hnl (by simp only [World.size_alloc]; omega) ?_
      intro g cap Y hown hgrow hat
      have f1 := (hgrow.block w.heap.size (by simp only [World.size_alloc]; have := hsz.out; omega) (by have := hsz.out; simp; omega)).trans q1
      have f2 := (hgrow.block (w.heap.size + 1) (by simp only [World.size_alloc]; have := hsz.out; omega) (by have := hsz.out; simp; omega)).trans q2
      have f3 := (hgrow.block X.heap.size (by simp only [World.size_alloc]; omega) (by simp)).trans ((Below.heap_alloc (X.alloc (.cells #[.int .i64 0, .int .i64 0, .string ⟨#[]⟩, .slice none 0 0, .slice none 0 0] 28)) (.cells #[] 9) X.heap.size (by simp only [World.size_alloc]; omega)).trans (heap_alloc_new X (.cells #[.int .i64 0, .int .i64 0, .string ⟨#[]⟩, .slice none 0 0, .slice none 0 0] 28)))
      have hBY : Below w.heap.size w Y := ((hB0.alloc (by have := hsz.out; omega) _).alloc (by simp only [World.size_alloc]; have := hsz.out; omega) _).trans (grown_below hgrow (by simp only [World.size_alloc]; have := hsz.out; omega) (fun g hg => by cases hg; have := hsz.out; omega))
      replace hown := ownsRow_lo hown (show w.heap.size + 2 ≤ X.heap.size + 1 by have := hsz.out; omega)
      have hfin := fun (_ : Unit) => copy_fin3 (w := w) (Y := Y) (bw := X.heap.size) (k := k) (x := x) (s := s) (by have := hsz.out; omega) hBY f1 f2 f3 hown (by simp only [World.size_alloc] at hat; omega)
      have q3 := f3
      clear hat hgrow
      refine hK.out _ _ f1 (fun _ => trivial) ?_
      clear hK K
      try simp only [Act.put, List.setIfInBounds_toArray, List.set_cons_zero, List.set_cons_succ]
      refine Until.wpU_pure (i := 10) (oi := { dst := some 15, op := Op.build 28 #[(0, Operand.tmp 6), (1, Operand.tmp 8), (2, Operand.tmp 10), (3, Operand.tmp 14)], type := 28, pos := "print.go:173", after := #[{ on := 1, ground := Ground.data }, { on := 3, ground := Ground.data }, { on := 5, ground := Ground.data }, { on := 9, ground := Ground.data }], guard := none }) (v := .agg #[.int .i64 k, .int .i64 x, .string s, .slice (some ⟨g, 0, none⟩) ns.length cap, .slice none 0 0]) rfl (by kernel_rfl) (by kernel_rfl) (by kernel_rfl) (by kernel_rfl) (by kernel_rfl) (fun _ _ _ h => h) (f1) (fun _ => trivial) (by rfl) (by intro w'; go_simp) ?_
      try simp only [Act.put, List.setIfInBounds_toArray, List.set_cons_zero, List.set_cons_succ]
      obtain ⟨z0, z1, z2, z3, z4, zf⟩ := row_cells q3
      have zf0 := zf 0; have zf1 := zf 1; have zf2 := zf 2; have zf3 := zf 3; have zf4 := zf 4
      clear zf
      refine Until.wpU_ready (rs := [12]) (by kernel_rfl) (by simp) ?_
      refine (Until.AllU.cons (o := { dst := none, op := Op.store 28 (Operand.tmp 3) (Operand.tmp 15), type := 0, pos := "print.go:173", after := #[{ on := 11, ground := Ground.data }, { on := 10, ground := Ground.data }, { on := 9, ground := Ground.chain }, { on := 0, ground := Ground.phase }, { on := 1, ground := Ground.phase }, { on := 2, ground := Ground.phase }, { on := 3, ground := Ground.phase }, { on := 4, ground := Ground.phase }, { on := 5, ground := Ground.phase }, { on := 6, ground := Ground.phase }, { on := 7, ground := Ground.phase }, { on := 8, ground := Ground.phase }, { on := 9, ground := Ground.phase }, { on := 10, ground := Ground.phase }, { on := 11, ground := Ground.phase }], guard := none }) rfl (fun K hK => ?_) Until.AllU.nil)
      go_simp
      have hp := (put5_far (w := Y) (g := X.heap.size) (.int .i64 k) (.int .i64 x) (.string s) (.slice (some ⟨g, 0, none⟩) ns.length cap) (.slice none 0 0) (show w.heap.size ≠ X.heap.size by have := hsz.out; omega)).trans f1
      refine hK.out _ _ hp (fun _ => trivial) ?_
      clear hK K z0 z1 z2 z3 z4 zf0 zf1 zf2 zf3 zf4
      try simp only [Act.put, List.setIfInBounds_toArray, List.set_cons_zero, List.set_cons_succ]
      refine Until.wpU_done (by kernel_rfl) ?_ _
      refine NoPanic.normal ?_
      go_wp2_with fail
      go_meet
      exact ⟨_, g, cap, rfl, hid_e (hfin ())⟩
  case rest =>
    clear hB0 n1 n2 hsz
    obtain ⟨bw, g, cap, rfl, hC0⟩ := hcut
    obtain ⟨i0, hi, hz0, hz1, hz2⟩ := info_parts AV
    go_wp2_with fail
    go_loopw [4] (fun i wr => ∃ (q : Nat) (ao : Option Addr) (ci : Nat) (xs : List Value), q ≤ its.length ∧ i = .int .i64 q ∧ Hid (CopyTp w #[.int .i64 k, .int .i64 x, .string s, .slice an ns.length cn, .slice a its.length c] k x s ns bw g cap (.slice ao q ci) wr) ∧ Hid (wr.ownsRow (w.heap.size + 2) 28 5 (.slice ao q ci) q xs) ∧ Hid (KidsAt w bw g (.slice ao q ci) (its.take q) xs wr)) (fun i _ => its.length - (intOf i).toNat)
    case atStart => exact ⟨0, none, 0, [], Nat.zero_le _, rfl, hC0, World.ownsRow_nil _ _ _ _, ⟨[], rfl, by simp [trL], ownFL_nil _, fun j hj => by simp [bksL_nil] at hj⟩⟩
    case round =>
      clear hC0
      obtain ⟨q, ao, ci, xs, hq, rfl, hC, hown, hS⟩ := hrel
      obtain ⟨c1, c2, c3, c4, c5, c6, c7⟩ := hC.out
      clear c6
      obtain ⟨-, -, -, -, y4, -⟩ := row_cells c3
      by_cases hlt : q < its.length
      · have hd : decide ((q : Int) < (its.length : Int)) = true := by simp; omega
        obtain ⟨u, hu⟩ : ∃ u, Hid (its[q]? = some u) := ⟨_, List.getElem?_eq_getElem hlt⟩
        obtain ⟨b, o, rfl, hb, hV⟩ := hL.out.resolve_left (by intro e; subst e; simp at hlt)
        obtain ⟨cs, hCs, h2⟩ := VRepL.at its o q u hV hu.out
        obtain ⟨k2, x2, s2, an2, ln2, cn2, ai2, li2, ci2, rfl⟩ := vrep_five h2
        have m0 := hCs 0 _ rfl
        have m1 := hCs 1 _ rfl
        have m2 := hCs 2 _ rfl
        have m3 := hCs 3 _ rfl
        have m4 := hCs 4 _ rfl
        simp only [Nat.add_zero] at m0
        have hcall := hid_e (fun W (hW : Below w.heap.size w W) => hI.out q u hu.out _ W (VRep.keep hW _ _ h2))
        clear hV hCs h2
        go_wp2_with fail
        clear y4
        have i1 : (q : Int) < (its.length : Int) := by omega
        have i2 : (0 : Int) ≤ (q : Int) := by omega
        have hbl : Hid (w.heap.size + 1 < wr.heap.size) := (Array.getElem?_eq_some_iff.1 c4).1
        replace c2 : Below w.heap.size w wr.drew := below_drew c2
        replace c3 : wr.drew.heap[w.heap.size]? = some (.cells #[.int .i64 k, .int .i64 x, .string s, .slice an ns.length cn, .slice (some ⟨b, o, none⟩) its.length c] 28 (0, 0)) := c3
        replace c5 : wr.drew.heap[bw]? = some (.cells #[.int .i64 k, .int .i64 x, .string s, .slice (some ⟨g, 0, none⟩) ns.length cap, .slice ao q ci] 28 (0, 0)) := c5
        replace hC : Hid (CopyTp w #[.int .i64 k, .int .i64 x, .string s, .slice an ns.length cn, .slice (some ⟨b, o, none⟩) its.length c] k x s ns bw g cap (.slice ao q ci) wr.drew) := CopyTp.drew hC.out
        replace hown : Hid (wr.drew.ownsRow (w.heap.size + 2) 28 5 (.slice ao q ci) q xs) := hown
        replace hS : Hid (KidsAt w bw g (.slice ao q ci) (its.take q) xs wr.drew) := hS
        replace hbl : Hid (w.heap.size + 1 < wr.drew.heap.size) := hbl
        clear c4 c7
        generalize hX : wr.drew = X at c2 c3 c5 hC hown hS hbl
        refine wp_region_noPanic ?_
        refine Until.wp_region_U (fun w' => Below w.heap.size w w' ∧ w'.heap[w.heap.size]? = some (.cells #[.int .i64 k, .int .i64 x, .string s, .slice an ns.length cn, .slice (some ⟨b, o, none⟩) its.length c] 28 (0, 0))) (fun w' => w'.heap[bw]? = some (.cells #[.int .i64 k, .int .i64 x, .string s, .slice (some ⟨g, 0, none⟩) ns.length cap, .slice ao q ci] 28 (0, 0))) 11 (by kernel_rfl) ?_
        rw [hX]
        clear hX
        refine Until.wpU_pure (i := 0) (oi := { dst := some 23, op := Op.fieldAddr 28 (Operand.tmp 3) 4, type := 0, pos := "print.go:175", after := #[], guard := none }) (v := .pointer (some ⟨bw, 4, none⟩)) rfl (by kernel_rfl) (by kernel_rfl) (by kernel_rfl) (by kernel_rfl) (by kernel_rfl) (fun _ _ _ h => h) (⟨c2, c3⟩) (fun _ => c5) (by rfl) (by intro w'; go_simp) ?_
        try simp only [Act.put, List.setIfInBounds_toArray, List.set_cons_zero, List.set_cons_succ]
        refine Until.wpU_load1 (i := 1) (oi := { dst := some 24, op := Op.load 26 (Operand.tmp 23), type := 26, pos := "print.go:175", after := #[{ on := 0, ground := Ground.data }], guard := none }) (v := .slice ao q ci) rfl (by kernel_rfl) (by kernel_rfl) (by kernel_rfl) (by kernel_rfl) (by kernel_rfl) (by kernel_rfl) (fun _ _ _ h => h) (⟨c2, c3⟩) (c5) (by rfl) (by intro w' hw'; obtain ⟨t0, t1, t2, t3, t4, -⟩ := row_cells hw'; go_simp) ?_
        try simp only [Act.put, List.setIfInBounds_toArray, List.set_cons_zero, List.set_cons_succ]
        refine Until.wpU_pure (i := 2) (oi := { dst := some 25, op := Op.fieldAddr 28 (Operand.tmp 1) 4, type := 0, pos := "print.go:175", after := #[], guard := none }) (v := .pointer (some ⟨w.heap.size, 4, none⟩)) rfl (by kernel_rfl) (by kernel_rfl) (by kernel_rfl) (by kernel_rfl) (by kernel_rfl) (fun _ _ _ h => h) (⟨c2, c3⟩) (fun _ => c5) (by rfl) (by intro w'; go_simp) ?_
        try simp only [Act.put, List.setIfInBounds_toArray, List.set_cons_zero, List.set_cons_succ]
        refine Until.wpU_load0 (i := 3) (oi := { dst := some 26, op := Op.load 26 (Operand.tmp 25), type := 26, pos := "print.go:175", after := #[{ on := 2, ground := Ground.data }], guard := none }) (v := .slice (some ⟨b, o, none⟩) its.length c) rfl (by kernel_rfl) (by kernel_rfl) (by kernel_rfl) (by kernel_rfl) (by kernel_rfl) (fun _ _ _ h => h) (⟨c2, c3⟩) (fun _ => c5) (by rfl) (by intro w' hw'; obtain ⟨t0, t1, t2, t3, t4, -⟩ := row_cells hw'.2; go_simp) ?_
        try simp only [Act.put, List.setIfInBounds_toArray, List.set_cons_zero, List.set_cons_succ]
        refine Until.wpU_pure (i := 4) (oi := { dst := some 27, op := Op.move (Operand.tmp 4), type := 3, pos := "print.go:175", after := #[], guard := none }) (v := .int .i64 q) rfl (by kernel_rfl) (by kernel_rfl) (by kernel_rfl) (by kernel_rfl) (by kernel_rfl) (fun _ _ _ h => h) (⟨c2, c3⟩) (fun _ => c5) (by rfl) (by intro w'; go_simp) ?_
        try simp only [Act.put, List.setIfInBounds_toArray, List.set_cons_zero, List.set_cons_succ]
        refine Until.wpU_pure (i := 5) (oi := { dst := some 28, op := Op.indexAddr 26 (Operand.tmp 26) (Operand.tmp 27), type := 0, pos := "print.go:175", after := #[{ on := 3, ground := Ground.data }, { on := 4, ground := Ground.data }], guard := none }) (v := .pointer (some ⟨b, o + q * 5, none⟩)) rfl (by kernel_rfl) (by kernel_rfl) (by kernel_rfl) (by kernel_rfl) (by kernel_rfl) (fun _ _ _ h => h) (⟨c2, c3⟩) (fun _ => c5) (by rfl) (by intro w'; go_simp) ?_
        try simp only [Act.put, List.setIfInBounds_toArray, List.set_cons_zero, List.set_cons_succ]
        refine Until.wpU_load0 (i := 6) (oi := { dst := some 29, op := Op.load 28 (Operand.tmp 28), type := 28, pos := "print.go:175", after := #[{ on := 5, ground := Ground.data }], guard := none }) (v := .agg #[.int .i64 k2, .int .i64 x2, .string s2, .slice an2 ln2 cn2, .slice ai2 li2 ci2]) rfl (by kernel_rfl) (by kernel_rfl) (by kernel_rfl) (by kernel_rfl) (by kernel_rfl) (fun _ _ _ h => h) (⟨c2, c3⟩) (fun _ => c5) (by rfl) (by intro w' hw'; have t0 := (hw'.1.cell (p := ⟨b, o + q * 5, none⟩) hb).trans m0; have t1 := (hw'.1.cell (p := ⟨b, o + q * 5 + 1, none⟩) hb).trans m1; have t2 := (hw'.1.cell (p := ⟨b, o + q * 5 + 2, none⟩) hb).trans m2; have t3 := (hw'.1.cell (p := ⟨b, o + q * 5 + 3, none⟩) hb).trans m3; have t4 := (hw'.1.cell (p := ⟨b, o + q * 5 + 4, none⟩) hb).trans m4; clear hw'; go_simp) ?_
        try simp only [Act.put, List.setIfInBounds_toArray, List.set_cons_zero, List.set_cons_succ]
        refine Until.wpU_ready (rs := [7]) (by kernel_rfl) (by simp) ?_
        refine (Until.AllU.cons (o := { dst := some 30, op := Op.call { callee := Callee.value (Operand.func 9), args := #[Operand.tmp 29], argTypes := #[28] }, type := 28, pos := "print.go:175", after := #[{ on := 6, ground := Ground.data }], guard := none }) rfl (fun K hK => ?_) Until.AllU.nil)
        go_simp
        refine (hcall.out X c2).mono ?_
        rintro e w2 ⟨k3, x3, s3, an3, ln3, cn3, ai3, li3, ci3, rfl, hu3, hb2⟩
        have d2 : Below w.heap.size w w2 := c2.trans (hb2.mono c2.size)
        have d3 := (hb2.block _ (Array.getElem?_eq_some_iff.1 c3).1).trans c3
        have d5 := (hb2.block _ (Array.getElem?_eq_some_iff.1 c5).1).trans c5
        replace hu3 := hid_e hu3
        refine hK.out _ _ ⟨d2, d3⟩ (fun _ => d5) ?_
        clear hK K
        try simp only [Act.put, List.setIfInBounds_toArray, List.set_cons_zero, List.set_cons_succ]
        refine Until.wpU_ready (rs := [8]) (by kernel_rfl) (by simp) ?_
        refine (Until.AllU.cons (o := { dst := some 31, op := Op.buildSlice 26 1 #[(0, Operand.tmp 30)], type := 26, pos := "print.go:175", after := #[{ on := 7, ground := Ground.data }], guard := none }) rfl (fun K hK => ?_) Until.AllU.nil)
        go_simp
        have e2 : Below w.heap.size w (w2.alloc (.cells #[.int .i64 k3, .int .i64 x3, .string s3, .slice an3 ln3 cn3, .slice ai3 li3 ci3] 28)) := d2.alloc d2.size _
        have e3 := (Below.heap_alloc w2 (.cells #[.int .i64 k3, .int .i64 x3, .string s3, .slice an3 ln3 cn3, .slice ai3 li3 ci3] 28) _ (Array.getElem?_eq_some_iff.1 d3).1).trans d3
        have e5 := (Below.heap_alloc w2 (.cells #[.int .i64 k3, .int .i64 x3, .string s3, .slice an3 ln3 cn3, .slice ai3 li3 ci3] 28) _ (Array.getElem?_eq_some_iff.1 d5).1).trans d5
        refine hK.out _ _ ⟨e2, e3⟩ (fun _ => e5) ?_
        clear hK K
        try simp only [Act.put, List.setIfInBounds_toArray, List.set_cons_zero, List.set_cons_succ]
        refine Until.wpU_ready (rs := [9]) (by kernel_rfl) (by simp) ?_
        refine (Until.AllU.cons (o := { dst := some 32, op := Op.call { callee := Callee.builtin Builtin.append, args := #[Operand.tmp 24, Operand.tmp 31], argTypes := #[26, 26] }, type := 26, pos := "print.go:175", after := #[{ on := 1, ground := Ground.data }, { on := 8, ground := Ground.data }, { on := 7, ground := Ground.chain }], guard := none }) rfl (fun K hK => ?_) Until.AllU.nil)
        refine step_append_lies _ (by rfl) _ _ 26 (by rfl) (w.heap.size + 2) 28 i0 _ 5 80 Tryz.underlying26 hi hz0 hz1 hz2 (by rfl) (by omega) _ q xs (by rfl) ((ownsRow_below hown.out hb2).alloc _) _ 1 1 [.int .i64 k3, .int .i64 x3, .string s3, .slice an3 ln3 cn3, .slice ai3 li3 ci3] (by rfl) (by rfl) (World.news_of_block (heap_alloc_new w2 _)) (five_one _ _ _ _ _ _ _ _ _) (by omega) (by unfold maxLen; omega) (by omega) (by have := e2.size; simp only [World.size_alloc] at *; have := hbl.out; have := hb2.size; omega) _ rfl ?_
        intro g4 cap4 w3 hown3 hgrow3 hat3 hlt3
        replace hgrow3 : (w2.alloc (.cells #[.int .i64 k3, .int .i64 x3, .string s3, .slice an3 ln3 cn3, .slice ai3 li3 ci3] 28)).grownBy w3 (Value.slice ao q ci).ownBlock := hgrow3
        have hstep := hid_e (copy_step3 hC.out hown.out hS.out hu3.out rfl hb2 hgrow3 hat3 hown3)
        have f2 : Below w.heap.size w w3 := e2.trans (grown_below hgrow3 e2.size (fun g hg => by have := (ownsRow_ge hown.out hg).1; omega))
        have f3 := (hgrow3.block _ (Array.getElem?_eq_some_iff.1 e3).1 (fun e => by have := (ownsRow_ge hown.out e.symm).1; omega)).trans e3
        have f5 := (hgrow3.block _ (Array.getElem?_eq_some_iff.1 e5).1 (fun e => hC.out.2.2.2.2.2.2 e.symm)).trans e5
        refine hK.out _ _ ⟨f2, f3⟩ (fun _ => f5) ?_
        clear hK K hat3 hgrow3 hown3
        try simp only [Act.put, List.setIfInBounds_toArray, List.set_cons_zero, List.set_cons_succ]
        refine Until.wpU_pure (i := 10) (oi := { dst := some 33, op := Op.fieldAddr 28 (Operand.tmp 3) 4, type := 0, pos := "print.go:175", after := #[{ on := 0, ground := Ground.phase }, { on := 1, ground := Ground.phase }, { on := 2, ground := Ground.phase }, { on := 3, ground := Ground.phase }, { on := 4, ground := Ground.phase }, { on := 5, ground := Ground.phase }, { on := 6, ground := Ground.phase }, { on := 7, ground := Ground.phase }, { on := 8, ground := Ground.phase }, { on := 9, ground := Ground.phase }], guard := none }) (v := .pointer (some ⟨bw, 4, none⟩)) rfl (by kernel_rfl) (by kernel_rfl) (by kernel_rfl) (by kernel_rfl) (by kernel_rfl) (fun _ _ _ h => h) (⟨f2, f3⟩) (fun _ => f5) (by rfl) (by intro w'; go_simp) ?_
        try simp only [Act.put, List.setIfInBounds_toArray, List.set_cons_zero, List.set_cons_succ]
        obtain ⟨-, -, -, -, z4, zf⟩ := row_cells f5
        have zf4 := zf 4
        clear zf
        refine Until.wpU_ready (rs := [11]) (by kernel_rfl) (by simp) ?_
        refine (Until.AllU.cons (o := { dst := none, op := Op.store 26 (Operand.tmp 33) (Operand.tmp 32), type := 0, pos := "print.go:175", after := #[{ on := 10, ground := Ground.data }, { on := 9, ground := Ground.data }, { on := 9, ground := Ground.chain }, { on := 0, ground := Ground.phase }, { on := 1, ground := Ground.phase }, { on := 2, ground := Ground.phase }, { on := 3, ground := Ground.phase }, { on := 4, ground := Ground.phase }, { on := 5, ground := Ground.phase }, { on := 6, ground := Ground.phase }, { on := 7, ground := Ground.phase }, { on := 8, ground := Ground.phase }, { on := 9, ground := Ground.phase }], guard := none }) rfl (fun K hK => ?_) Until.AllU.nil)
        go_simp
        obtain ⟨s1, s2, s3⟩ := hstep.out
        replace s1 := hid_e s1
        replace s2 := hid_e s2
        replace s3 := hid_e s3
        refine hK.out _ _ ⟨s1.out.2.1, s1.out.2.2.1⟩ (fun h => absurd h (by decide)) ?_
        clear hK K
        try simp only [Act.put, List.setIfInBounds_toArray, List.set_cons_zero, List.set_cons_succ]
        refine Until.wpU_done (by kernel_rfl) ?_ _
        refine NoPanic.normal ?_
        clear z4 zf4 f5 f3 f2 e5 e3 e2 d5 d3 d2
        go_wp2_with fail
        go_roundw
        case rel => exact ⟨q + 1, _, _, _, by omega, by simp, s1, s2, by rw [List.take_add_one, hu.out]; exact s3⟩
        case measure => simp [intOf]; omega
      · have hd : decide ((q : Int) < (its.length : Int)) = false := by simp; omega
        obtain rfl : q = its.length := by omega
        obtain ⟨z0, z1, z2, z3, z4, zf⟩ := row_cells c4
        have zf0 := zf 0; have zf1 := zf 1; have zf2 := zf 2; have zf3 := zf 3; have zf4 := zf 4
        obtain ⟨v0, v1, v2, v3, v4, -⟩ := row_cells c5
        clear zf hd hlt
        rw [List.take_length] at hS
        go_wp2_with fail
        have hr5 := put5_cells c4 (.int .i64 k) (.int .i64 x) (.string s) (.slice (some ⟨g, 0, none⟩) ns.length cap) (.slice ao its.length ci)
        have r0 := hr5 0; have r1 := hr5 1; have r2 := hr5 2; have r3 := hr5 3; have r4 := hr5 4
        clear hr5
        refine bodyPost_ret (v := .agg #[.int .i64 k, .int .i64 x, .string s, .slice (some ⟨g, 0, none⟩) ns.length cap, .slice ao its.length ci]) (by simp [results, Tryz.results9, go_sem, r0, r1, r2, r3, r4]) rfl ?_
        exact copy_end3 hC.out hown.out hS.out _ _ _ _ _
/-- The document's Copy of every value: all its lists are its own. -/
theorem copy_own (t : Tr) (cs : List Value) (w : World) (hV : VRep w t cs) (hS : SmallT t) :
    Calls Tryz.prog 9 #[.agg cs.toArray] w (OwnPost w t) := by
  match t, hV, hS with
  | .node k x s ns its, hV, hS =>
    unfold VRep at hV
    unfold SmallT at hS
    obtain ⟨nm, a, c, rfl, hn, hc, hI⟩ := hV
    obtain ⟨an, cn, rfl, -, -⟩ := id hn
    obtain ⟨_, s2, _, s4, s5⟩ := hS
    refine copy_top1 k x s an cn ns a c its w (by omega) (by omega) (hid_e hn) (hid_e hI) (hid_e (fun i u hu ds w' h1 => ?_))
    have hlt : SizeOf.sizeOf u < SizeOf.sizeOf its := tr_lt hu
    exact copy_own u ds w' h1 (SmallL.at s5 hu)
termination_by SizeOf.sizeOf t
decreasing_by simp only [Tr.node.sizeOf_spec]; omega
end Go.Proofs.YthgnkhpomhcdkaaGreatDoor.Own
/-! spoil: every list of a Value is written full, and grown: what else was there stays. -/
namespace Go.Proofs.YthgnkhpomhcdkaaGreatDoor.Own
open Go Go.RowKit

theorem grown_trans {w w1 w2 : World} {r : Option Nat} (h1 : w.grownBy w1 r) (h2 : w1.grownBy w2 r) : w.grownBy w2 r :=
  ⟨h2.os.trans h1.os, h2.tape.trans h1.tape, h2.output.trans h1.output, Nat.le_trans h1.size h2.size, fun k hk hne => (h2.block k (Nat.lt_of_lt_of_le hk h1.size) hne).trans (h1.block k hk hne)⟩
theorem store5 {w : World} {lo : Nat} {e : TypeId} {g m ci : Nat} {xs : List Value} (h : w.ownsRow lo e 5 (.slice (some ⟨g, 0, none⟩) m ci) m xs) (i : Nat) (a0 a1 a2 a3 a4 : Value) :
    (∃ ys, (((((w.setCell ⟨g, i, none⟩ a0).setCell ⟨g, i + 1, none⟩ a1).setCell ⟨g, i + 2, none⟩ a2).setCell ⟨g, i + 3, none⟩ a3).setCell ⟨g, i + 4, none⟩ a4).ownsRow lo e 5 (.slice (some ⟨g, 0, none⟩) m ci) m ys) ∧
      w.grownBy (((((w.setCell ⟨g, i, none⟩ a0).setCell ⟨g, i + 1, none⟩ a1).setCell ⟨g, i + 2, none⟩ a2).setCell ⟨g, i + 3, none⟩ a3).setCell ⟨g, i + 4, none⟩ a4) (some g) := by
  have s0 := h.stored i a0
  have s1 := s0.1.stored (i + 1) a1
  have s2 := s1.1.stored (i + 2) a2
  have s3 := s2.1.stored (i + 3) a3
  have s4 := s3.1.stored (i + 4) a4
  exact ⟨⟨_, s4.1⟩, grown_trans (grown_trans (grown_trans (grown_trans s0.2 s1.2) s2.2) s3.2) s4.2⟩
theorem row_at5 {W : World} {lo : Nat} {e : TypeId} {g n cap : Nat} {xs : List Value} (h : W.ownsRow lo e 5 (.slice (some ⟨g, 0, none⟩) n cap) n xs) (j : Nat) (hj : j < n * 5) : ∃ u, W.cell? ⟨g, j, none⟩ = some u := by
  rw [World.ownsRow.cellAt h j hj]
  exact ⟨_, List.getElem?_eq_getElem (by rw [h.1]; exact hj)⟩
/-- Rows of unlike types lie apart. -/
theorem rows_apart {w : World} {lo lo' : Nat} {e e' : TypeId} {size size' : Nat} {v v' : Value} {n n' : Nat} {xs xs' : List Value} (h : w.ownsRow lo e size v n xs) (h' : w.ownsRow lo' e' size' v' n' xs') (hne : e ≠ e') : v.ownBlock = none ∨ v.ownBlock ≠ v'.ownBlock := by
  rcases h.2 with ⟨rfl, _⟩ | ⟨g, cap, cur, rfl, hg, hh, _⟩
  · exact .inl rfl
  · refine .inr (fun eq => ?_)
    rcases h'.2 with ⟨rfl, _⟩ | ⟨g', cap', cur', rfl, hg', hh', _⟩
    · simp [Value.ownBlock] at eq
    · simp only [Value.ownBlock, Option.some.injEq] at eq
      subst eq
      rw [hh] at hh'
      simp only [Option.some.injEq, Obj.cells.injEq] at hh'
      exact hne hh'.2.1
theorem row_box {w : World} {lo : Nat} {v : Value} {n B : Nat} {xs : List Value} {b : Array Value} (h : w.ownsRow lo 9 1 v n xs) (hx : w.heap[B]? = some (.cells b 28 (0, 0))) : ∀ j, v.ownBlock = some j → j ≠ B := by
  intro j hj e
  subst e
  rcases h.2 with ⟨rfl, _⟩ | ⟨g', cap', cur, rfl, hg, hh, _⟩
  · cases hj
  · cases hj
    rw [hx] at hh
    simp at hh
/-- spoil on its way, at the last loop. -/
structure Sh (S : Nat → Prop) (w : World) (k x : Int) (s : ByteArray) (n m : Nat) (nv iv : Value) (wr : World) : Prop where
  kp : Fr S w wr
  box : wr.heap[w.heap.size]? = some (.cells #[.int .i64 k, .int .i64 x, .string s, nv, iv] 28 (0, 0))
  own1 : ∃ ys, wr.ownsRow 0 9 1 nv n ys
  own2 : ∃ ys, wr.ownsRow 0 28 5 iv m ys
  off : iv.ownBlock ≠ some w.heap.size
  pos1 : ∀ j, nv.ownBlock = some j → S j ∨ w.heap.size ≤ j
  pos2 : ∀ j, iv.ownBlock = some j → S j ∨ w.heap.size ≤ j
/-- One item more. -/
theorem Sh.item {S : Nat → Prop} {w wr wa : World} {k x : Int} {s : ByteArray} {n m : Nat} {nv iv : Value} {ys : List Value} {ga cap : Nat} (h : Sh S w k x s n m nv iv wr) (o : Obj)
    (ho : wa.ownsRow 0 28 5 (.slice (some ⟨ga, 0, none⟩) (m + 1) cap) (m + 1) ys) (hg : (wr.alloc o).grownBy wa iv.ownBlock) (hat : iv.ownBlock = some ga ∨ ga = (wr.alloc o).heap.size) :
    wa.heap[w.heap.size]? = some (.cells #[.int .i64 k, .int .i64 x, .string s, nv, iv] 28 (0, 0)) ∧ Sh S w k x s n (m + 1) nv (.slice (some ⟨ga, 0, none⟩) (m + 1) cap) (wa.setCell ⟨w.heap.size, 4, none⟩ (.slice (some ⟨ga, 0, none⟩) (m + 1) cap)) := by
  have hlt := (Array.getElem?_eq_some_iff.1 h.box).1
  have hga : ga ≠ w.heap.size := by
    rcases hat with e | e
    · intro e'; exact h.off (by rw [e, e'])
    · rw [World.size_alloc] at e; omega
  have hpos : ∀ j, (Value.slice (some ⟨ga, 0, none⟩) (m + 1) cap).ownBlock = some j → S j ∨ w.heap.size ≤ j := fun j hj => by
    cases hj
    rcases hat with e | e
    · exact h.pos2 _ e
    · rw [World.size_alloc] at e; exact .inr (by show w.heap.size ≤ ga; omega)
  have hbox : wa.heap[w.heap.size]? = some (.cells #[.int .i64 k, .int .i64 x, .string s, nv, iv] 28 (0, 0)) := (hg.block _ (by rw [World.size_alloc]; omega) (fun e => h.off e.symm)).trans ((Below.heap_alloc wr o _ hlt).trans h.box)
  obtain ⟨zs, hz⟩ := h.own1
  obtain ⟨us, hu⟩ := h.own2
  refine ⟨hbox, ⟨((h.kp.alloc o).grown hg h.pos2).set _ _ (.inr (Nat.le_refl _)), ?_, ⟨zs, ?_⟩, ⟨ys, ?_⟩, ?_, h.pos1, hpos⟩⟩
  · simp [World.setCell, Array.getElem?_modify, hbox]
  · have hne := row_box hz h.box
    refine ownsRow_keep hz (fun j hj => (Below.heap_setCell _ _ _ _ (hne j hj)).trans ((hg.block j (by rw [World.size_alloc]; have := (ownsRow_ge hz hj).2; omega) (fun e => ?_)).trans (Below.heap_alloc wr o j (ownsRow_ge hz hj).2)))
    rcases rows_apart hz hu (by decide) with h1 | h1
    · rw [h1] at hj; cases hj
    · exact h1 (by rw [hj, e])
  · refine ownsRow_keep ho (fun j hj => Below.heap_setCell _ _ _ _ (fun e => ?_))
    cases hj
    exact hga e
  · simp only [Value.ownBlock, ne_eq, Option.some.injEq]
    exact hga
/-- One name more. -/
theorem Sh.name {S : Nat → Prop} {w wr wa : World} {k x : Int} {s : ByteArray} {n m : Nat} {nv iv : Value} {ys : List Value} {ga cap : Nat} (h : Sh S w k x s n m nv iv wr) (o : Obj)
    (ho : wa.ownsRow 0 9 1 (.slice (some ⟨ga, 0, none⟩) (n + 1) cap) (n + 1) ys) (hg : (wr.alloc o).grownBy wa nv.ownBlock) (hat : nv.ownBlock = some ga ∨ ga = (wr.alloc o).heap.size) :
    wa.heap[w.heap.size]? = some (.cells #[.int .i64 k, .int .i64 x, .string s, nv, iv] 28 (0, 0)) ∧ Sh S w k x s (n + 1) m (.slice (some ⟨ga, 0, none⟩) (n + 1) cap) iv (wa.setCell ⟨w.heap.size, 3, none⟩ (.slice (some ⟨ga, 0, none⟩) (n + 1) cap)) := by
  have hlt := (Array.getElem?_eq_some_iff.1 h.box).1
  obtain ⟨zs, hz⟩ := h.own1
  obtain ⟨us, hu⟩ := h.own2
  have hne := row_box hz h.box
  have hpos : ∀ j, (Value.slice (some ⟨ga, 0, none⟩) (n + 1) cap).ownBlock = some j → S j ∨ w.heap.size ≤ j := fun j hj => by
    cases hj
    rcases hat with e | e
    · exact h.pos1 _ e
    · rw [World.size_alloc] at e; exact .inr (by show w.heap.size ≤ ga; omega)
  have hga : ga ≠ w.heap.size := by
    rcases hat with e | e
    · exact hne _ e
    · rw [World.size_alloc] at e; omega
  have hbox : wa.heap[w.heap.size]? = some (.cells #[.int .i64 k, .int .i64 x, .string s, nv, iv] 28 (0, 0)) := (hg.block _ (by rw [World.size_alloc]; omega) (fun e => hne _ e.symm rfl)).trans ((Below.heap_alloc wr o _ hlt).trans h.box)
  refine ⟨hbox, ⟨((h.kp.alloc o).grown hg h.pos1).set _ _ (.inr (Nat.le_refl _)), ?_, ⟨ys, ?_⟩, ⟨us, ?_⟩, h.off, hpos, h.pos2⟩⟩
  · simp [World.setCell, Array.getElem?_modify, hbox]
  · refine ownsRow_keep ho (fun j hj => Below.heap_setCell _ _ _ _ (fun e => ?_))
    cases hj
    exact hga e
  · refine ownsRow_keep hu (fun j hj => (Below.heap_setCell _ _ _ _ (fun e => h.off (by rw [hj, e]))).trans ((hg.block j (by rw [World.size_alloc]; have := (ownsRow_ge hu hj).2; omega) (fun e => ?_)).trans (Below.heap_alloc wr o j (ownsRow_ge hu hj).2)))
    rcases rows_apart hz hu (by decide) with h1 | h1
    · rw [h1] at e; cases e
    · exact h1 (by rw [hj, e])
end Go.Proofs.YthgnkhpomhcdkaaGreatDoor.Own
/-! jsonval.Copy: every list of what it answers lies in a block of its own. -/
namespace Go.Proofs.YthgnkhpomhcdkaaGreatDoor.Own
open Go Go.RowKit

set_option maxHeartbeats 1000000 in
theorem jclone_any (s : ByteArray) (hs : s.size ≤ 281474976710656) (w : World) : Calls Tryz.prog 26 #[.string s] w fun e w' => e = .returned (.string s) ∧ Below w.heap.size w w' := by
  go_enter Tryz.func26, Tryz.ntmps26
  go_wp2_with (go_at_call 58; refine (Tryz.stringslite_Clone s _ hs).mono ?_; rintro e w' ⟨rfl, hb⟩)
  go_ret
  exact ⟨rfl, hb⟩
def JCopyOk (its : List Tr) : Prop := ∀ (i : Nat) (u : Tr), its[i]? = some u → ∀ cs w', VRep w' u cs → Calls Tryz.prog 18 #[.agg cs.toArray] w' (OwnPost w' u)
/-- The copy on its way. -/
structure JC (w : World) (box : Array Value) (k x : Int) (s : ByteArray) (bw : Nat) (nv iv : Value) (ns' : List ByteArray) (ts : List Tr) (xs : List Value) (wr : World) : Prop where
  lt : w.heap.size + 1 < bw
  bel : Below w.heap.size w wr
  one : wr.heap[w.heap.size]? = some (.cells box 28 (0, 0))
  two : wr.heap[w.heap.size + 1]? = some (.cells #[.int .i64 0, .int .i64 0, .string ⟨#[]⟩, .slice none 0 0, .slice none 0 0] 28 (0, 0))
  cur : wr.heap[bw]? = some (.cells #[.int .i64 k, .int .i64 x, .string s, nv, iv] 28 (0, 0))
  own1 : wr.ownsRow (w.heap.size + 2) 9 1 nv ns'.length (strs ns')
  own2 : wr.ownsRow (w.heap.size + 2) 28 5 iv ts.length xs
  off1 : nv.ownBlock ≠ some bw
  off2 : iv.ownBlock ≠ some bw
  kids : ∃ kids : List HT, flatH kids = xs ∧ trL kids = ts ∧ OwnFL wr kids ∧ ∀ j ∈ bksL kids, w.heap.size + 1 < j ∧ j ≠ bw ∧ nv.ownBlock ≠ some j ∧ iv.ownBlock ≠ some j
theorem JC.fresh {w : World} {box : Array Value} {k x : Int} {s : ByteArray} {bw : Nat} {nv iv : Value} {ns' : List ByteArray} {ts : List Tr} {xs : List Value} {wr Y : World} (h : JC w box k x s bw nv iv ns' ts xs wr) (hb : Below wr.heap.size wr Y) : JC w box k x s bw nv iv ns' ts xs Y := by
  obtain ⟨kids, k1, k2, k3, k4⟩ := h.kids
  exact ⟨h.lt, h.bel.trans (hb.mono h.bel.size), (hb.block _ (Array.getElem?_eq_some_iff.1 h.one).1).trans h.one, (hb.block _ (Array.getElem?_eq_some_iff.1 h.two).1).trans h.two, (hb.block _ (Array.getElem?_eq_some_iff.1 h.cur).1).trans h.cur, ownsRow_below h.own1 hb, ownsRow_below h.own2 hb, h.off1, h.off2, kids, k1, k2, k3.keep (fun g hg => hb.block g (k3.lt g hg)), k4⟩
theorem JC.drew {w : World} {box : Array Value} {k x : Int} {s : ByteArray} {bw : Nat} {nv iv : Value} {ns' : List ByteArray} {ts : List Tr} {xs : List Value} {wr : World} (h : JC w box k x s bw nv iv ns' ts xs wr) : JC w box k x s bw nv iv ns' ts xs wr.drew := h.fresh (below_drew (Below.refl _ _))
theorem JC.size2 {w : World} {box : Array Value} {k x : Int} {s : ByteArray} {bw : Nat} {nv iv : Value} {ns' : List ByteArray} {ts : List Tr} {xs : List Value} {wr : World} (h : JC w box k x s bw nv iv ns' ts xs wr) : w.heap.size + 2 ≤ wr.heap.size := (Array.getElem?_eq_some_iff.1 h.two).1
theorem jc_new {w Y : World} {box : Array Value} {k x : Int} {s : ByteArray} {bw : Nat} (h1 : w.heap.size + 1 < bw) (h2 : Below w.heap.size w Y) (h3 : Y.heap[w.heap.size]? = some (.cells box 28 (0, 0))) (h4 : Y.heap[w.heap.size + 1]? = some (.cells #[.int .i64 0, .int .i64 0, .string ⟨#[]⟩, .slice none 0 0, .slice none 0 0] 28 (0, 0)))
    (h5 : Y.heap[bw]? = some (.cells #[.int .i64 0, .int .i64 0, .string ⟨#[]⟩, .slice none 0 0, .slice none 0 0] 28 (0, 0))) : JC w box k x s bw (.slice none 0 0) (.slice none 0 0) [] [] [] (put5 Y bw (.int .i64 k) (.int .i64 x) (.string s) (.slice none 0 0) (.slice none 0 0)) :=
  ⟨h1, h2.trans (put5_below (by omega) _ _ _ _ _), (put5_far _ _ _ _ _ (by omega)).trans h3, (put5_far _ _ _ _ _ (by omega)).trans h4, put5_at h5 _ _ _ _ _, World.ownsRow_nil _ _ _ _, World.ownsRow_nil _ _ _ _, by simp [Value.ownBlock], by simp [Value.ownBlock], [], rfl, by simp [trL], ownFL_nil _, fun j hj => by simp [bksL_nil] at hj⟩
/-- One name more. -/
theorem JC.name {w : World} {box : Array Value} {k x : Int} {s sn : ByteArray} {bw : Nat} {nv iv : Value} {ns' : List ByteArray} {ts : List Tr} {xs : List Value} {wr w2 w3 : World} {o : Obj} {g4 cap4 : Nat} (h : JC w box k x s bw nv iv ns' ts xs wr) (hb : Below wr.heap.size wr w2)
    (hgrow : (w2.alloc o).grownBy w3 nv.ownBlock) (hat : nv.ownBlock = some g4 ∨ g4 = (w2.alloc o).heap.size)
    (hown3 : w3.ownsRow (w.heap.size + 2) 9 1 (.slice (some ⟨g4, 0, none⟩) (ns'.length + 1) cap4) (ns'.length + 1) (strs ns' ++ [.string sn])) :
    Below w.heap.size w w3 ∧ w3.heap[bw]? = some (.cells #[.int .i64 k, .int .i64 x, .string s, nv, iv] 28 (0, 0)) ∧ JC w box k x s bw (.slice (some ⟨g4, 0, none⟩) (ns'.length + 1) cap4) iv (ns' ++ [sn]) ts xs (w3.setCell ⟨bw, 3, none⟩ (.slice (some ⟨g4, 0, none⟩) (ns'.length + 1) cap4)) := by
  have hs2 := hb.size
  have hs3 := hgrow.size
  rw [World.size_alloc] at hs3 hat
  have hbw := (Array.getElem?_eq_some_iff.1 h.cur).1
  have hsz := h.size2
  have far3 : ∀ j, j < wr.heap.size → nv.ownBlock ≠ some j → w3.heap[j]? = wr.heap[j]? := fun j hj hne =>
    (hgrow.block j (by rw [World.size_alloc]; omega) (fun e => hne e.symm)).trans ((Below.heap_alloc w2 _ j (by omega)).trans (hb.block j hj))
  have own_lt : ∀ j, nv.ownBlock = some j → w.heap.size + 2 ≤ j ∧ j < wr.heap.size := fun j hj => ownsRow_ge h.own1 hj
  have far4 : ∀ j, j ≠ bw → (w3.setCell ⟨bw, 3, none⟩ (.slice (some ⟨g4, 0, none⟩) (ns'.length + 1) cap4)).heap[j]? = w3.heap[j]? := fun j hj => Below.heap_setCell _ _ _ _ hj
  have hB3 : Below w.heap.size w w3 := (h.bel.trans (hb.mono h.bel.size)).trans (grown_below (World.grownBy.mk (w := w2) (w' := w3) hgrow.os hgrow.tape hgrow.output (by omega) (fun j hj hne => (hgrow.block j (by rw [World.size_alloc]; omega) hne).trans (Below.heap_alloc w2 _ j hj))) (by have := h.bel.size; omega) (fun g hg => by have := own_lt g hg; omega))
  have hcur3 := (far3 bw hbw h.off1).trans h.cur
  have hne : g4 ≠ bw := by
    rcases hat with e | e
    · intro e'; exact h.off1 (by rw [e, e'])
    · omega
  obtain ⟨kids, k1, k2, k3, k4⟩ := h.kids
  have ap := rows_apart h.own1 h.own2 (by decide)
  have keep2 : ∀ j, iv.ownBlock = some j → nv.ownBlock ≠ some j := fun j hj e => by
    rcases ap with a | a
    · rw [a] at e; cases e
    · exact a (by rw [e, hj])
  refine ⟨hB3, hcur3, h.lt, ⟨hB3.os, hB3.tape, hB3.output, by simpa [World.setCell] using hB3.size, fun j hj => (far4 j (by have := h.lt; omega)).trans (hB3.block j hj)⟩, ?_, ?_, ?_, ?_, ?_, ?_, h.off2, kids, k1, k2, ?_, ?_⟩
  · exact (far4 _ (by have := h.lt; omega)).trans ((far3 _ (by omega) (fun e => by have := own_lt _ e; omega)).trans h.one)
  · exact (far4 _ (by have := h.lt; omega)).trans ((far3 _ (by omega) (fun e => by have := own_lt _ e; omega)).trans h.two)
  · simp [World.setCell, Array.getElem?_modify, hcur3]
  · rw [List.length_append, strs_snoc]
    exact ownsRow_keep hown3 (fun j hj => by cases hj; exact far4 _ hne)
  · refine ownsRow_keep h.own2 (fun j hj => (far4 _ (fun e => h.off2 (by rw [hj, e]))).trans (far3 j (ownsRow_ge h.own2 hj).2 (keep2 j hj)))
  · simp only [Value.ownBlock, ne_eq, Option.some.injEq]
    exact hne
  · exact k3.keep (fun j hj => (far4 _ (k4 j hj).2.1).trans (far3 j (k3.lt j hj) (k4 j hj).2.2.1))
  · intro j hj
    obtain ⟨a1, a2, a3, a4⟩ := k4 j hj
    refine ⟨a1, a2, fun e => ?_, a4⟩
    have e' : g4 = j := by simpa [Value.ownBlock] using e
    rcases hat with h' | h'
    · exact a3 (by rw [h', e'])
    · have := k3.lt j hj; omega
/-- One item more. -/
theorem JC.item {w : World} {box : Array Value} {k x : Int} {s : ByteArray} {bw : Nat} {nv iv : Value} {ns' : List ByteArray} {ts : List Tr} {xs : List Value} {wr w2 w3 : World} {cs : List Value} {o : Obj} {u : Tr} {g4 cap4 : Nat} (h : JC w box k x s bw nv iv ns' ts xs wr) (hu : OwnAt wr.heap.size w2 u cs) (hb : Below wr.heap.size wr w2)
    (hgrow : (w2.alloc o).grownBy w3 iv.ownBlock) (hat : iv.ownBlock = some g4 ∨ g4 = (w2.alloc o).heap.size)
    (hown3 : w3.ownsRow (w.heap.size + 2) 28 5 (.slice (some ⟨g4, 0, none⟩) (ts.length + 1) cap4) (ts.length + 1) (xs ++ cs)) :
    Below w.heap.size w w3 ∧ w3.heap[bw]? = some (.cells #[.int .i64 k, .int .i64 x, .string s, nv, iv] 28 (0, 0)) ∧ JC w box k x s bw nv (.slice (some ⟨g4, 0, none⟩) (ts.length + 1) cap4) ns' (ts ++ [u]) (xs ++ cs) (w3.setCell ⟨bw, 4, none⟩ (.slice (some ⟨g4, 0, none⟩) (ts.length + 1) cap4)) := by
  have hs2 := hb.size
  have hs3 := hgrow.size
  rw [World.size_alloc] at hs3 hat
  have hbw := (Array.getElem?_eq_some_iff.1 h.cur).1
  have hsz := h.size2
  have far3 : ∀ j, j < wr.heap.size → iv.ownBlock ≠ some j → w3.heap[j]? = wr.heap[j]? := fun j hj hne =>
    (hgrow.block j (by rw [World.size_alloc]; omega) (fun e => hne e.symm)).trans ((Below.heap_alloc w2 _ j (by omega)).trans (hb.block j hj))
  have own_lt : ∀ j, iv.ownBlock = some j → w.heap.size + 2 ≤ j ∧ j < wr.heap.size := fun j hj => ownsRow_ge h.own2 hj
  have far4 : ∀ j, j ≠ bw → (w3.setCell ⟨bw, 4, none⟩ (.slice (some ⟨g4, 0, none⟩) (ts.length + 1) cap4)).heap[j]? = w3.heap[j]? := fun j hj => Below.heap_setCell _ _ _ _ hj
  have hB3 : Below w.heap.size w w3 := (h.bel.trans (hb.mono h.bel.size)).trans (grown_below (World.grownBy.mk (w := w2) (w' := w3) hgrow.os hgrow.tape hgrow.output (by omega) (fun j hj hne => (hgrow.block j (by rw [World.size_alloc]; omega) hne).trans (Below.heap_alloc w2 _ j hj))) (by have := h.bel.size; omega) (fun g hg => by have := own_lt g hg; omega))
  have hcur3 := (far3 bw hbw h.off2).trans h.cur
  have hne : g4 ≠ bw := by
    rcases hat with e | e
    · intro e'; exact h.off2 (by rw [e, e'])
    · omega
  obtain ⟨kids, rfl, rfl, k3, k4⟩ := h.kids
  obtain ⟨t, ht, rfl, ho, hlo⟩ := hu
  have ap := rows_apart h.own1 h.own2 (by decide)
  have keep1 : ∀ j, nv.ownBlock = some j → iv.ownBlock ≠ some j := fun j hj e => by
    rcases ap with a | a
    · rw [a] at hj; cases hj
    · exact a (by rw [e, hj])
  have n_lt : ∀ j, nv.ownBlock = some j → j < wr.heap.size := fun j hj => (ownsRow_ge h.own1 hj).2
  have e1 : ∀ j ∈ bksL kids, (w3.setCell ⟨bw, 4, none⟩ (.slice (some ⟨g4, 0, none⟩) ((trL kids).length + 1) cap4)).heap[j]? = wr.heap[j]? := fun j hj => (far4 _ (k4 j hj).2.1).trans (far3 _ (k3.lt j hj) (k4 j hj).2.2.2)
  have e2 : ∀ j ∈ bksT t, (w3.setCell ⟨bw, 4, none⟩ (.slice (some ⟨g4, 0, none⟩) ((trL kids).length + 1) cap4)).heap[j]? = w2.heap[j]? := fun j hj => by
    have h5 := hlo j hj
    have h6 := ho.lt j hj
    refine (far4 _ (by omega)).trans ((hgrow.block _ (by rw [World.size_alloc]; omega) (fun e => ?_)).trans (Below.heap_alloc w2 _ _ h6))
    have := own_lt _ e.symm
    omega
  refine ⟨hB3, hcur3, h.lt, ⟨hB3.os, hB3.tape, hB3.output, by simpa [World.setCell] using hB3.size, fun j hj => (far4 j (by have := h.lt; omega)).trans (hB3.block j hj)⟩, ?_, ?_, ?_, ?_, ?_, h.off1, ?_, kids ++ [t], by rw [flatH_app, flatH_one, ht], trL_snoc kids t, OwnFL.snoc (m := wr.heap.size) (k3.keep e1) (ho.keep e2) k3.lt hlo, ?_⟩
  · exact (far4 _ (by have := h.lt; omega)).trans ((far3 _ (by omega) (fun e => by have := own_lt _ e; omega)).trans h.one)
  · exact (far4 _ (by have := h.lt; omega)).trans ((far3 _ (by omega) (fun e => by have := own_lt _ e; omega)).trans h.two)
  · simp [World.setCell, Array.getElem?_modify, hcur3]
  · refine ownsRow_keep h.own1 (fun j hj => (far4 _ (fun e => h.off1 (by rw [hj, e]))).trans (far3 j (ownsRow_ge h.own1 hj).2 (keep1 j hj)))
  · rw [List.length_append]
    exact ownsRow_keep hown3 (fun j hj => by cases hj; exact far4 _ hne)
  · simp only [Value.ownBlock, ne_eq, Option.some.injEq]
    exact hne
  · intro j hj
    rw [bksL_app, bksL_one] at hj
    rcases List.mem_append.1 hj with hj | hj
    · obtain ⟨a1, a2, a3, a4⟩ := k4 j hj
      refine ⟨a1, a2, a3, fun e => ?_⟩
      have e' : g4 = j := by simpa [Value.ownBlock] using e
      rcases hat with h' | h'
      · exact a4 (by rw [h', e'])
      · have := k3.lt j hj; omega
    · have h5 := hlo j hj
      have h6 := ho.lt j hj
      refine ⟨by omega, by omega, fun e => by have := n_lt j e; omega, fun e => ?_⟩
      have e' : g4 = j := by simpa [Value.ownBlock] using e
      rcases hat with h' | h'
      · have := own_lt _ h'; omega
      · omega
theorem jc_end {w wr : World} {box : Array Value} {k x : Int} {s : ByteArray} {ns : List ByteArray} {bw : Nat} {nv iv : Value} {its : List Tr} {xs : List Value} (h : JC w box k x s bw nv iv ns its xs wr) (c0 c1 c2 c3 c4 : Value) :
    ∃ an cn ai ci, nv = .slice an ns.length cn ∧ iv = .slice ai its.length ci ∧ OwnPost w (.node k x s ns its) (.returned (.agg #[.int .i64 k, .int .i64 x, .string s, .slice an ns.length cn, .slice ai its.length ci])) (put5 wr (w.heap.size + 1) c0 c1 c2 c3 c4) := by
  obtain ⟨kids, rfl, rfl, k3, k4⟩ := h.kids
  obtain ⟨an, cn, rfl⟩ := ownsRow_slice h.own1
  obtain ⟨ai, ci, rfl⟩ := ownsRow_slice h.own2
  have far : ∀ j, w.heap.size + 1 < j → (put5 wr (w.heap.size + 1) c0 c1 c2 c3 c4).heap[j]? = wr.heap[j]? := fun j hj => put5_far _ _ _ _ _ (by omega)
  have h1 := h.own1
  have h2 := h.own2
  have ap := rows_apart h.own1 h.own2 (by decide)
  rw [trL_len] at h2 k4 ap ⊢
  refine ⟨an, cn, ai, ci, rfl, rfl, k, x, s, an, _, cn, ai, kids.length, ci, rfl, ⟨.node k x s (.slice an ns.length cn) (.slice ai kids.length ci) ns kids, rfl, by unfold HT.tr; rfl, ?_, fun j hj' => ?_⟩, h.bel.trans (put5_below (by omega) _ _ _ _ _)⟩
  · exact ownF_node (ownsRow_lo (ownsRow_keep h1 (fun g' hg' => far _ (by have := (ownsRow_ge h1 hg').1; omega))) (Nat.zero_le _)) (ownsRow_lo (ownsRow_keep h2 (fun g' hg' => far _ (by have := (ownsRow_ge h2 hg').1; omega))) (Nat.zero_le _)) (k3.keep (fun j hj' => far _ (k4 j hj').1)) ap (fun j hj' => ⟨(k4 j hj').2.2.1, (k4 j hj').2.2.2⟩)
  · rw [bksT_node] at hj'
    rcases List.mem_append.1 hj' with hj' | hj'
    · rcases List.mem_append.1 hj' with hj' | hj'
      · have := (ownsRow_ge h1 (g := j) (by simpa using hj')).1; omega
      · have := (ownsRow_ge h2 (g := j) (by simpa using hj')).1; omega
    · have := (k4 j hj').1; omega
set_option maxHeartbeats 8000000 in
set_option maxRecDepth 100000 in
theorem jcopy_one (k x : Int) (s : ByteArray) (an : Option Addr) (cn : Nat) (ns : List ByteArray) (a : Option Addr) (c : Nat) (its : List Tr) (w : World) (hss : s.size ≤ 140737488355328) (hsn : Hid (∀ n ∈ ns, n.size ≤ 140737488355328)) (hnl : ns.length * 16 ≤ 140737488355328) (hil : its.length * 80 ≤ 140737488355328)
    (hN : Hid (Reads w (.slice an ns.length cn) ns)) (hL : Hid (ItemsAt' w a its)) (hI : Hid (JCopyOk its)) :
    Calls Tryz.prog 18 #[.agg #[.int .i64 k, .int .i64 x, .string s, .slice an ns.length cn, .slice a its.length c]] w (OwnPost w (.node k x s ns its)) := by
  go_enter Tryz.func18, Tryz.ntmps18
  go_upto_region 1 with fail
  have hB0 : Below w.heap.size w ((w.alloc (.cells #[.int .i64 k, .int .i64 x, .string s, .slice an ns.length cn, .slice a its.length c] 28)).alloc (.cells #[.int .i64 0, .int .i64 0, .string ⟨#[]⟩, .slice none 0 0, .slice none 0 0] 28)) := ((Below.refl _ w).alloc (Nat.le_refl _) _).alloc (by simp) _
  have n1 := new1 w (.cells #[.int .i64 k, .int .i64 x, .string s, .slice an ns.length cn, .slice a its.length c] 28) (.cells #[.int .i64 0, .int .i64 0, .string ⟨#[]⟩, .slice none 0 0, .slice none 0 0] 28)
  have n2 := new2 w (.cells #[.int .i64 k, .int .i64 x, .string s, .slice an ns.length cn, .slice a its.length c] 28) (.cells #[.int .i64 0, .int .i64 0, .string ⟨#[]⟩, .slice none 0 0, .slice none 0 0] 28)
  have hsz : ((w.alloc (.cells #[.int .i64 k, .int .i64 x, .string s, .slice an ns.length cn, .slice a its.length c] 28)).alloc (.cells #[.int .i64 0, .int .i64 0, .string ⟨#[]⟩, .slice none 0 0, .slice none 0 0] 28)).heap.size = w.heap.size + 2 := by simp only [World.size_alloc]
  generalize (w.alloc (.cells #[.int .i64 k, .int .i64 x, .string s, .slice an ns.length cn, .slice a its.length c] 28)).alloc (.cells #[.int .i64 0, .int .i64 0, .string ⟨#[]⟩, .slice none 0 0, .slice none 0 0] 28) = X0 at hB0 n1 n2 hsz
  go_cut [3] (fun p wx => ∃ (bw : Nat), p = .pointer (some ⟨bw, 0, none⟩) ∧ Hid (JC w #[.int .i64 k, .int .i64 x, .string s, .slice an ns.length cn, .slice a its.length c] k x s bw (.slice none 0 0) (.slice none 0 0) [] [] [] wx))
  case first =>
    replace hB0 : Below w.heap.size w X0.drew := below_drew hB0
    replace n1 : X0.drew.heap[w.heap.size]? = some (.cells #[.int .i64 k, .int .i64 x, .string s, .slice an ns.length cn, .slice a its.length c] 28 (0, 0)) := n1
    replace n2 : X0.drew.heap[w.heap.size + 1]? = some (.cells #[.int .i64 0, .int .i64 0, .string ⟨#[]⟩, .slice none 0 0, .slice none 0 0] 28 (0, 0)) := n2
    replace hsz : X0.drew.heap.size = w.heap.size + 2 := hsz
    generalize hX : X0.drew = X at hB0 n1 n2 hsz
    replace hsz := hid_e hsz
    replace n2 := hid_e n2
    replace hB0 := hid_e hB0
    refine wp_region_noPanic ?_
    refine Until.wp_region_U (fun w' => w'.heap[w.heap.size]? = some (.cells #[.int .i64 k, .int .i64 x, .string s, .slice an ns.length cn, .slice a its.length c] 28 (0, 0))) (fun _ => True) 9 (by kernel_rfl) ?_
    rw [hX]
    clear hX
    refine Until.wpU_pure (i := 0) (oi := { dst := some 8, op := Op.fieldAddr 28 (Operand.tmp 1) 0, type := 0, pos := "jsonval.go:19", after := #[], guard := none }) (v := .pointer (some ⟨w.heap.size, 0, none⟩)) rfl (by kernel_rfl) (by kernel_rfl) (by kernel_rfl) (by kernel_rfl) (by kernel_rfl) (fun _ _ _ h => h) (n1) (fun _ => trivial) (by rfl) (by intro w'; go_simp) ?_
    try simp only [Act.put, List.setIfInBounds_toArray, List.set_cons_zero, List.set_cons_succ]
    refine Until.wpU_load0 (i := 1) (oi := { dst := some 9, op := Op.load 3 (Operand.tmp 8), type := 3, pos := "jsonval.go:19", after := #[{ on := 0, ground := Ground.data }], guard := none }) (v := .int .i64 k) rfl (by kernel_rfl) (by kernel_rfl) (by kernel_rfl) (by kernel_rfl) (by kernel_rfl) (fun _ _ _ h => h) (n1) (fun _ => trivial) (by rfl) (by intro w' hw'; obtain ⟨t0, t1, t2, t3, t4, -⟩ := row_cells hw'; clear hw'; go_simp) ?_
    try simp only [Act.put, List.setIfInBounds_toArray, List.set_cons_zero, List.set_cons_succ]
    refine Until.wpU_pure (i := 2) (oi := { dst := some 10, op := Op.fieldAddr 28 (Operand.tmp 1) 1, type := 0, pos := "jsonval.go:19", after := #[], guard := none }) (v := .pointer (some ⟨w.heap.size, 1, none⟩)) rfl (by kernel_rfl) (by kernel_rfl) (by kernel_rfl) (by kernel_rfl) (by kernel_rfl) (fun _ _ _ h => h) (n1) (fun _ => trivial) (by rfl) (by intro w'; go_simp) ?_
    try simp only [Act.put, List.setIfInBounds_toArray, List.set_cons_zero, List.set_cons_succ]
    refine Until.wpU_load0 (i := 3) (oi := { dst := some 11, op := Op.load 2 (Operand.tmp 10), type := 2, pos := "jsonval.go:19", after := #[{ on := 2, ground := Ground.data }], guard := none }) (v := .int .i64 x) rfl (by kernel_rfl) (by kernel_rfl) (by kernel_rfl) (by kernel_rfl) (by kernel_rfl) (fun _ _ _ h => h) (n1) (fun _ => trivial) (by rfl) (by intro w' hw'; obtain ⟨t0, t1, t2, t3, t4, -⟩ := row_cells hw'; clear hw'; go_simp) ?_
    try simp only [Act.put, List.setIfInBounds_toArray, List.set_cons_zero, List.set_cons_succ]
    refine Until.wpU_pure (i := 4) (oi := { dst := some 12, op := Op.fieldAddr 28 (Operand.tmp 1) 2, type := 0, pos := "jsonval.go:19", after := #[], guard := none }) (v := .pointer (some ⟨w.heap.size, 2, none⟩)) rfl (by kernel_rfl) (by kernel_rfl) (by kernel_rfl) (by kernel_rfl) (by kernel_rfl) (fun _ _ _ h => h) (n1) (fun _ => trivial) (by rfl) (by intro w'; go_simp) ?_
    try simp only [Act.put, List.setIfInBounds_toArray, List.set_cons_zero, List.set_cons_succ]
    refine Until.wpU_load0 (i := 5) (oi := { dst := some 13, op := Op.load 9 (Operand.tmp 12), type := 9, pos := "jsonval.go:19", after := #[{ on := 4, ground := Ground.data }], guard := none }) (v := .string s) rfl (by kernel_rfl) (by kernel_rfl) (by kernel_rfl) (by kernel_rfl) (by kernel_rfl) (fun _ _ _ h => h) (n1) (fun _ => trivial) (by rfl) (by intro w' hw'; obtain ⟨t0, t1, t2, t3, t4, -⟩ := row_cells hw'; clear hw'; go_simp) ?_
    try simp only [Act.put, List.setIfInBounds_toArray, List.set_cons_zero, List.set_cons_succ]
    refine Until.wpU_ready (rs := [6, 8]) (by kernel_rfl) (by simp) ?_
    refine (Until.AllU.cons (o := { dst := some 14, op := Op.call { callee := Callee.value (Operand.func 26), args := #[Operand.tmp 13], argTypes := #[9] }, type := 9, pos := "jsonval.go:19", after := #[{ on := 5, ground := Ground.data }], guard := none }) rfl (fun K hK => ?_) (Until.AllU.cons (o := { dst := some 3, op := Op.alloc 28, type := 0, pos := "jsonval.go:19", after := #[], guard := none }) rfl (fun K hK => ?_) Until.AllU.nil))
    · go_simp
      refine (jclone_any s (by omega) _).mono ?_
      rintro e Y ⟨rfl, hb⟩
      have p1 := (hb.block _ (Array.getElem?_eq_some_iff.1 n1).1).trans n1
      have p2 := (hb.block _ (Array.getElem?_eq_some_iff.1 n2.out).1).trans n2.out
      have hY : Below w.heap.size w Y := hB0.out.trans (hb.mono hB0.out.size)
      have hs3 := hb.size
      rw [hsz.out] at hs3
      clear hb
      refine hK.out _ _ (p1) (fun _ => trivial) ?_
      clear hK K
      try simp only [Act.put, List.setIfInBounds_toArray, List.set_cons_zero, List.set_cons_succ]
      refine Until.wpU_pure (i := 7) (oi := { dst := some 15, op := Op.build 28 #[(0, Operand.tmp 9), (1, Operand.tmp 11), (2, Operand.tmp 14)], type := 28, pos := "jsonval.go:19", after := #[{ on := 1, ground := Ground.data }, { on := 3, ground := Ground.data }, { on := 6, ground := Ground.data }], guard := none }) (v := .agg #[.int .i64 k, .int .i64 x, .string s, .slice none 0 0, .slice none 0 0]) rfl (by kernel_rfl) (by kernel_rfl) (by kernel_rfl) (by kernel_rfl) (by kernel_rfl) (fun _ _ _ h => h) (p1) (fun _ => trivial) (by rfl) (by intro w'; go_simp) ?_
      try simp only [Act.put, List.setIfInBounds_toArray, List.set_cons_zero, List.set_cons_succ]
      refine Until.wpU_ready (rs := [8]) (by kernel_rfl) (by simp) ?_
      refine (Until.AllU.cons (o := { dst := some 3, op := Op.alloc 28, type := 0, pos := "jsonval.go:19", after := #[], guard := none }) rfl (fun K hK => ?_) Until.AllU.nil)
      go_simp
      have q1 := (Below.heap_alloc Y (.cells #[.int .i64 0, .int .i64 0, .string ⟨#[]⟩, .slice none 0 0, .slice none 0 0] 28) _ (Array.getElem?_eq_some_iff.1 p1).1).trans p1
      have q2 := (Below.heap_alloc Y (.cells #[.int .i64 0, .int .i64 0, .string ⟨#[]⟩, .slice none 0 0, .slice none 0 0] 28) _ (Array.getElem?_eq_some_iff.1 p2).1).trans p2
      have q3 := heap_alloc_new Y (.cells #[.int .i64 0, .int .i64 0, .string ⟨#[]⟩, .slice none 0 0, .slice none 0 0] 28)
      have hZ : Below w.heap.size w (Y.alloc (.cells #[.int .i64 0, .int .i64 0, .string ⟨#[]⟩, .slice none 0 0, .slice none 0 0] 28)) := hY.alloc hY.size _
      refine hK.out _ _ (q1) (fun _ => trivial) ?_
      clear hK K
      try simp only [Act.put, List.setIfInBounds_toArray, List.set_cons_zero, List.set_cons_succ]
      generalize Y.alloc (.cells #[.int .i64 0, .int .i64 0, .string ⟨#[]⟩, .slice none 0 0, .slice none 0 0] 28) = V at q1 q2 q3 hZ ⊢
      have hfin := jc_new (w := w) (k := k) (x := x) (s := s) (box := #[.int .i64 k, .int .i64 x, .string s, .slice an ns.length cn, .slice a its.length c]) (by omega) (hZ) (q1) (q2) (q3)
      obtain ⟨z0, z1, z2, z3, z4, zf⟩ := row_cells q3
      have zf0 := zf 0; have zf1 := zf 1; have zf2 := zf 2; have zf3 := zf 3; have zf4 := zf 4
      clear zf
      replace hfin := hid_e hfin
      refine Until.wpU_ready (rs := [9]) (by kernel_rfl) (by simp) ?_
      refine (Until.AllU.cons (o := { dst := none, op := Op.store 28 (Operand.tmp 3) (Operand.tmp 15), type := 0, pos := "jsonval.go:19", after := #[{ on := 8, ground := Ground.data }, { on := 7, ground := Ground.data }, { on := 6, ground := Ground.chain }, { on := 0, ground := Ground.phase }, { on := 1, ground := Ground.phase }, { on := 2, ground := Ground.phase }, { on := 3, ground := Ground.phase }, { on := 4, ground := Ground.phase }, { on := 5, ground := Ground.phase }, { on := 6, ground := Ground.phase }, { on := 7, ground := Ground.phase }, { on := 8, ground := Ground.phase }], guard := none }) rfl (fun K hK => ?_) Until.AllU.nil)
      go_simp
      refine hK.out _ _ (hfin.out.one) (fun _ => trivial) ?_
      clear hK K
      try simp only [Act.put, List.setIfInBounds_toArray, List.set_cons_zero, List.set_cons_succ]
      clear z0 z1 z2 z3 z4 zf0 zf1 zf2 zf3 zf4
      refine Until.wpU_done (by kernel_rfl) ?_ _
      refine NoPanic.normal ?_
      go_wp2_with fail
      go_meet
      exact ⟨_, rfl, hfin⟩
    · go_simp
      have q1 := (Below.heap_alloc X (.cells #[.int .i64 0, .int .i64 0, .string ⟨#[]⟩, .slice none 0 0, .slice none 0 0] 28) _ (Array.getElem?_eq_some_iff.1 n1).1).trans n1
      have q2 := (Below.heap_alloc X (.cells #[.int .i64 0, .int .i64 0, .string ⟨#[]⟩, .slice none 0 0, .slice none 0 0] 28) _ (Array.getElem?_eq_some_iff.1 n2.out).1).trans n2.out
      have q3 := heap_alloc_new X (.cells #[.int .i64 0, .int .i64 0, .string ⟨#[]⟩, .slice none 0 0, .slice none 0 0] 28)
      have hZ : Below w.heap.size w (X.alloc (.cells #[.int .i64 0, .int .i64 0, .string ⟨#[]⟩, .slice none 0 0, .slice none 0 0] 28)) := hB0.out.alloc hB0.out.size _
      have hs3 : Hid (w.heap.size + 1 < X.heap.size) := by have := hsz.out; show _ < _; omega
      refine hK.out _ _ (q1) (fun _ => trivial) ?_
      clear hK K
      try simp only [Act.put, List.setIfInBounds_toArray, List.set_cons_zero, List.set_cons_succ]
      generalize X.alloc (.cells #[.int .i64 0, .int .i64 0, .string ⟨#[]⟩, .slice none 0 0, .slice none 0 0] 28) = V at q1 q2 q3 hZ ⊢
      refine Until.wpU_ready (rs := [6]) (by kernel_rfl) (by simp) ?_
      refine (Until.AllU.cons (o := { dst := some 14, op := Op.call { callee := Callee.value (Operand.func 26), args := #[Operand.tmp 13], argTypes := #[9] }, type := 9, pos := "jsonval.go:19", after := #[{ on := 5, ground := Ground.data }], guard := none }) rfl (fun K hK => ?_) Until.AllU.nil)
      go_simp
      refine (jclone_any s (by omega) _).mono ?_
      rintro e Y ⟨rfl, hb⟩
      have p1 := (hb.block _ (Array.getElem?_eq_some_iff.1 q1).1).trans q1
      have p2 := (hb.block _ (Array.getElem?_eq_some_iff.1 q2).1).trans q2
      have p3 := (hb.block _ (Array.getElem?_eq_some_iff.1 q3).1).trans q3
      have hY : Below w.heap.size w Y := hZ.trans (hb.mono hZ.size)
      clear hb
      refine hK.out _ _ (p1) (fun _ => trivial) ?_
      clear hK K
      try simp only [Act.put, List.setIfInBounds_toArray, List.set_cons_zero, List.set_cons_succ]
      refine Until.wpU_pure (i := 7) (oi := { dst := some 15, op := Op.build 28 #[(0, Operand.tmp 9), (1, Operand.tmp 11), (2, Operand.tmp 14)], type := 28, pos := "jsonval.go:19", after := #[{ on := 1, ground := Ground.data }, { on := 3, ground := Ground.data }, { on := 6, ground := Ground.data }], guard := none }) (v := .agg #[.int .i64 k, .int .i64 x, .string s, .slice none 0 0, .slice none 0 0]) rfl (by kernel_rfl) (by kernel_rfl) (by kernel_rfl) (by kernel_rfl) (by kernel_rfl) (fun _ _ _ h => h) (p1) (fun _ => trivial) (by rfl) (by intro w'; go_simp) ?_
      try simp only [Act.put, List.setIfInBounds_toArray, List.set_cons_zero, List.set_cons_succ]
      have hfin := jc_new (w := w) (k := k) (x := x) (s := s) (box := #[.int .i64 k, .int .i64 x, .string s, .slice an ns.length cn, .slice a its.length c]) (hs3.out) (hY) (p1) (p2) (p3)
      obtain ⟨z0, z1, z2, z3, z4, zf⟩ := row_cells p3
      have zf0 := zf 0; have zf1 := zf 1; have zf2 := zf 2; have zf3 := zf 3; have zf4 := zf 4
      clear zf
      replace hfin := hid_e hfin
      refine Until.wpU_ready (rs := [9]) (by kernel_rfl) (by simp) ?_
      refine (Until.AllU.cons (o := { dst := none, op := Op.store 28 (Operand.tmp 3) (Operand.tmp 15), type := 0, pos := "jsonval.go:19", after := #[{ on := 8, ground := Ground.data }, { on := 7, ground := Ground.data }, { on := 6, ground := Ground.chain }, { on := 0, ground := Ground.phase }, { on := 1, ground := Ground.phase }, { on := 2, ground := Ground.phase }, { on := 3, ground := Ground.phase }, { on := 4, ground := Ground.phase }, { on := 5, ground := Ground.phase }, { on := 6, ground := Ground.phase }, { on := 7, ground := Ground.phase }, { on := 8, ground := Ground.phase }], guard := none }) rfl (fun K hK => ?_) Until.AllU.nil)
      go_simp
      refine hK.out _ _ (hfin.out.one) (fun _ => trivial) ?_
      clear hK K
      try simp only [Act.put, List.setIfInBounds_toArray, List.set_cons_zero, List.set_cons_succ]
      clear z0 z1 z2 z3 z4 zf0 zf1 zf2 zf3 zf4
      refine Until.wpU_done (by kernel_rfl) ?_ _
      refine NoPanic.normal ?_
      go_wp2_with fail
      go_meet
      exact ⟨_, rfl, hfin⟩
  case rest =>
    clear hB0 n1 n2 hsz
    obtain ⟨bw, rfl, hC0⟩ := hcut
    obtain ⟨i0, hi, hz0, hz1, hz2⟩ := info_parts AV
    obtain ⟨i9, hi9, hy0, hy1, hy2⟩ := info_parts A9
    obtain ⟨-, -, -, y3, -, -⟩ := row_cells hC0.out.one
    have hbn : Hid (∀ q, q < ns.length → q + 1 ≤ maxLen ∧ (q + 1) * 16 ≤ 140737488355328) := fun q hq => by unfold maxLen; omega
    have hbi : Hid (∀ q, q < its.length → q + 1 ≤ maxLen ∧ (q + 1) * 80 ≤ 140737488355328) := fun q hq => by unfold maxLen; omega
    go_wp2_with fail
    clear y3
    go_loopw [19] (fun i wr => ∃ (q : Nat) (nv : Value), q ≤ ns.length ∧ i = .int .i64 q ∧ Hid (JC w #[.int .i64 k, .int .i64 x, .string s, .slice an ns.length cn, .slice a its.length c] k x s bw nv (.slice none 0 0) (ns.take q) [] [] wr)) (fun i _ => ns.length - (intOf i).toNat)
    case atStart => exact ⟨0, _, Nat.zero_le _, rfl, hC0⟩
    case round =>
      clear hC0
      obtain ⟨q, nv, hq, rfl, hC⟩ := hrel
      by_cases hlt : q < ns.length
      · have i1 : (q : Int) < (ns.length : Int) := by omega
        obtain ⟨sn, hu⟩ : ∃ u, Hid (ns[q]? = some u) := ⟨_, List.getElem?_eq_getElem hlt⟩
        have hsz := hid_e (hsn.out sn (List.mem_of_getElem? hu.out))
        obtain ⟨an', cn', e, hcc, hr⟩ := id hN.out
        cases e
        obtain ⟨b, o, rfl, hb, hr⟩ := hr.resolve_left (by intro e; subst e; simp at hlt)
        have m0 := (hC.out.bel.cell (p := ⟨b, o + q, none⟩) hb).trans (hr q sn hu.out)
        clear hr hcc
        obtain ⟨an1, cn1, hnv⟩ := ownsRow_slice hC.out.own1
        have hlq : (ns.take q).length = q := by simp; omega
        rw [hlq] at hnv
        subst hnv
        go_upto_region 5 with fail
        clear m0
        have c1 := hC.out.one
        have c5 := hC.out.cur
        have c2 := hC.out.bel
        replace hC := hid_e hC.out.drew
        replace c1 : wr.drew.heap[w.heap.size]? = _ := c1
        replace c5 : wr.drew.heap[bw]? = _ := c5
        replace c2 : Below w.heap.size w wr.drew := below_drew c2
        generalize hX : wr.drew = X at c1 c2 c5 hC
        refine wp_region_noPanic ?_
        refine Until.wp_region_U (fun w' => Below w.heap.size w w') (fun w' => w'.heap[bw]? = some (.cells #[.int .i64 k, .int .i64 x, .string s, .slice an1 q cn1, .slice none 0 0] 28 (0, 0))) 7 (by kernel_rfl) ?_
        rw [hX]
        clear hX hlq
        refine Until.wpU_pure (i := 0) (oi := { dst := some 23, op := Op.fieldAddr 28 (Operand.tmp 3) 3, type := 0, pos := "jsonval.go:21", after := #[], guard := none }) (v := .pointer (some ⟨bw, 3, none⟩)) rfl (by kernel_rfl) (by kernel_rfl) (by kernel_rfl) (by kernel_rfl) (by kernel_rfl) (fun _ _ _ h => h) (c2) (fun _ => c5) (by rfl) (by intro w'; go_simp) ?_
        try simp only [Act.put, List.setIfInBounds_toArray, List.set_cons_zero, List.set_cons_succ]
        refine Until.wpU_load1 (i := 1) (oi := { dst := some 24, op := Op.load 25 (Operand.tmp 23), type := 25, pos := "jsonval.go:21", after := #[{ on := 0, ground := Ground.data }], guard := none }) (v := .slice an1 q cn1) rfl (by kernel_rfl) (by kernel_rfl) (by kernel_rfl) (by kernel_rfl) (by kernel_rfl) (by kernel_rfl) (fun _ _ _ h => h) (c2) (c5) (by rfl) (by intro w' hw'; obtain ⟨t0, t1, t2, t3, t4, -⟩ := row_cells hw'; clear hw'; go_simp) ?_
        try simp only [Act.put, List.setIfInBounds_toArray, List.set_cons_zero, List.set_cons_succ]
        refine Until.wpU_pure (i := 2) (oi := { dst := some 25, op := Op.move (Operand.tmp 5), type := 9, pos := "jsonval.go:21", after := #[], guard := none }) (v := .string sn) rfl (by kernel_rfl) (by kernel_rfl) (by kernel_rfl) (by kernel_rfl) (by kernel_rfl) (fun _ _ _ h => h) (c2) (fun _ => c5) (by rfl) (by intro w'; go_simp) ?_
        try simp only [Act.put, List.setIfInBounds_toArray, List.set_cons_zero, List.set_cons_succ]
        refine Until.wpU_ready (rs := [3]) (by kernel_rfl) (by simp) ?_
        refine (Until.AllU.cons (o := { dst := some 26, op := Op.call { callee := Callee.value (Operand.func 26), args := #[Operand.tmp 25], argTypes := #[9] }, type := 9, pos := "jsonval.go:21", after := #[{ on := 2, ground := Ground.data }], guard := none }) rfl (fun K hK => ?_) Until.AllU.nil)
        go_simp
        refine (jclone_any sn (by have := hsz.out; omega) _).mono ?_
        rintro e w2 ⟨rfl, hb2⟩
        have d2 : Below w.heap.size w w2 := c2.trans (hb2.mono c2.size)
        have d5 := (hb2.block _ (Array.getElem?_eq_some_iff.1 c5).1).trans c5
        refine hK.out _ _ (d2) (fun _ => d5) ?_
        clear hK K
        try simp only [Act.put, List.setIfInBounds_toArray, List.set_cons_zero, List.set_cons_succ]
        refine Until.wpU_ready (rs := [4]) (by kernel_rfl) (by simp) ?_
        refine (Until.AllU.cons (o := { dst := some 27, op := Op.buildSlice 25 1 #[(0, Operand.tmp 26)], type := 25, pos := "jsonval.go:21", after := #[{ on := 3, ground := Ground.data }], guard := none }) rfl (fun K hK => ?_) Until.AllU.nil)
        go_simp
        have e2 : Below w.heap.size w (w2.alloc (.cells #[.string sn] 9)) := d2.alloc d2.size _
        have e5 := (Below.heap_alloc w2 (.cells #[.string sn] 9) _ (Array.getElem?_eq_some_iff.1 d5).1).trans d5
        refine hK.out _ _ (e2) (fun _ => e5) ?_
        clear hK K
        try simp only [Act.put, List.setIfInBounds_toArray, List.set_cons_zero, List.set_cons_succ]
        have hrow := hC.out.own1
        rw [show (ns.take q).length = q from by simp; omega] at hrow
        refine Until.wpU_ready (rs := [5]) (by kernel_rfl) (by simp) ?_
        refine (Until.AllU.cons (o := { dst := some 28, op := Op.call { callee := Callee.builtin Builtin.append, args := #[Operand.tmp 24, Operand.tmp 27], argTypes := #[25, 25] }, type := 25, pos := "jsonval.go:21", after := #[{ on := 1, ground := Ground.data }, { on := 4, ground := Ground.data }, { on := 3, ground := Ground.chain }], guard := none }) rfl (fun K hK => ?_) Until.AllU.nil)
        refine step_append_lies _ (by rfl) _ _ 25 (by rfl) (w.heap.size + 2) 9 i9 _ 1 16 Tryz.underlying25 hi9 hy0 hy1 hy2 (by rfl) (by omega) _ q (strs (ns.take q)) (by rfl) ((ownsRow_below hrow hb2).alloc _) _ 1 1 [.string sn] (by rfl) (by rfl) (World.news_of_block (heap_alloc_new w2 _)) (one_string sn) (by omega) (hbn.out q hlt).1 (hbn.out q hlt).2 (by have := hC.out.size2; have := hb2.size; simp only [World.size_alloc]; omega) _ rfl ?_
        intro g4 cap4 w3 hown3 hgrow3 hat3 hlt3
        have hstep := JC.name (sn := sn) hC.out hb2 hgrow3 hat3 (by rw [show (ns.take q).length = q from by simp; omega]; exact hown3)
        obtain ⟨f2, f5, hstep⟩ := hstep
        rw [show (ns.take q).length = q from by simp; omega] at hstep
        replace hstep := hid_e hstep
        refine hK.out _ _ (f2) (fun _ => f5) ?_
        clear hK K
        try simp only [Act.put, List.setIfInBounds_toArray, List.set_cons_zero, List.set_cons_succ]
        clear hat3 hgrow3 hown3 hrow
        refine Until.wpU_pure (i := 6) (oi := { dst := some 29, op := Op.fieldAddr 28 (Operand.tmp 3) 3, type := 0, pos := "jsonval.go:21", after := #[{ on := 0, ground := Ground.phase }, { on := 1, ground := Ground.phase }, { on := 2, ground := Ground.phase }, { on := 3, ground := Ground.phase }, { on := 4, ground := Ground.phase }, { on := 5, ground := Ground.phase }], guard := none }) (v := .pointer (some ⟨bw, 3, none⟩)) rfl (by kernel_rfl) (by kernel_rfl) (by kernel_rfl) (by kernel_rfl) (by kernel_rfl) (fun _ _ _ h => h) (f2) (fun _ => f5) (by rfl) (by intro w'; go_simp) ?_
        try simp only [Act.put, List.setIfInBounds_toArray, List.set_cons_zero, List.set_cons_succ]
        obtain ⟨-, -, -, z3, -, zf⟩ := row_cells f5
        have zf3 := zf 3
        clear zf
        refine Until.wpU_ready (rs := [7]) (by kernel_rfl) (by simp) ?_
        refine (Until.AllU.cons (o := { dst := none, op := Op.store 25 (Operand.tmp 29) (Operand.tmp 28), type := 0, pos := "jsonval.go:21", after := #[{ on := 6, ground := Ground.data }, { on := 5, ground := Ground.data }, { on := 5, ground := Ground.chain }, { on := 0, ground := Ground.phase }, { on := 1, ground := Ground.phase }, { on := 2, ground := Ground.phase }, { on := 3, ground := Ground.phase }, { on := 4, ground := Ground.phase }, { on := 5, ground := Ground.phase }], guard := none }) rfl (fun K hK => ?_) Until.AllU.nil)
        go_simp
        refine hK.out _ _ (hstep.out.bel) (fun h => absurd h (by decide)) ?_
        clear hK K
        try simp only [Act.put, List.setIfInBounds_toArray, List.set_cons_zero, List.set_cons_succ]
        refine Until.wpU_done (by kernel_rfl) ?_ _
        refine NoPanic.normal ?_
        clear z3 zf3 f5 f2 e5 e2 d5 d2
        go_wp2_with fail
        go_roundw
        case rel => exact ⟨q + 1, _, by omega, by go_num, by rw [List.take_add_one, hu.out]; exact hstep⟩
        case measure => simp [intOf]; omega
      · obtain rfl : q = ns.length := by omega
        clear hq hlt
        rw [List.take_length] at hC
        obtain ⟨-, -, -, -, y4, -⟩ := row_cells hC.out.one
        go_wp2_with fail
        clear y4
        go_loopw [34] (fun i wr => ∃ (q : Nat) (iv : Value) (xs : List Value), q ≤ its.length ∧ i = .int .i64 q ∧ Hid (JC w #[.int .i64 k, .int .i64 x, .string s, .slice an ns.length cn, .slice a its.length c] k x s bw nv iv ns (its.take q) xs wr)) (fun i _ => its.length - (intOf i).toNat)
        case atStart => exact ⟨0, _, _, Nat.zero_le _, rfl, hC⟩
        case round =>
          clear hC
          obtain ⟨q, iv, xs, hq, rfl, hC⟩ := hrel
          by_cases hlt : q < its.length
          · have i1 : (q : Int) < (its.length : Int) := by omega
            obtain ⟨u, hu⟩ : ∃ u, Hid (its[q]? = some u) := ⟨_, List.getElem?_eq_getElem hlt⟩
            obtain ⟨b, o, rfl, hb, hV⟩ := hL.out.resolve_left (by intro e; subst e; simp at hlt)
            obtain ⟨cs, hCs, h2⟩ := VRepL.at its o q u hV hu.out
            obtain ⟨k2, x2, s2, an2, ln2, cn2, ai2, li2, ci2, rfl⟩ := vrep_five h2
            have m0 := (hC.out.bel.cell (p := ⟨b, o + q * 5, none⟩) hb).trans (hCs 0 _ rfl)
            have m1 := (hC.out.bel.cell (p := ⟨b, o + q * 5 + 1, none⟩) hb).trans (hCs 1 _ rfl)
            have m2 := (hC.out.bel.cell (p := ⟨b, o + q * 5 + 2, none⟩) hb).trans (hCs 2 _ rfl)
            have m3 := (hC.out.bel.cell (p := ⟨b, o + q * 5 + 3, none⟩) hb).trans (hCs 3 _ rfl)
            have m4 := (hC.out.bel.cell (p := ⟨b, o + q * 5 + 4, none⟩) hb).trans (hCs 4 _ rfl)
            have hcall := hid_e (fun W (hW : Below w.heap.size w W) => hI.out q u hu.out _ W (VRep.keep hW _ _ h2))
            clear hV hCs h2
            obtain ⟨an1, cn1, hiv⟩ := ownsRow_slice hC.out.own2
            have hlq : (its.take q).length = q := by simp; omega
            rw [hlq] at hiv
            subst hiv
            clear hlq
            have b7 := heap_alloc_new wr (.cells #[.int .i64 k2, .int .i64 x2, .string s2, .slice an2 ln2 cn2, .slice ai2 li2 ci2] 28)
            have hC2 := hC.out.fresh ((Below.refl _ wr).alloc (Nat.le_refl _) (.cells #[.int .i64 k2, .int .i64 x2, .string s2, .slice an2 ln2 cn2, .slice ai2 li2 ci2] 28))
            replace hC2 := hid_e hC2
            replace b7 := hid_e b7
            have hne7 : Hid (∀ g, (Value.slice an1 q cn1).ownBlock = some g → g ≠ wr.heap.size) := fun g hg => by have := (ownsRow_ge hC.out.own2 hg).2; omega
            go_upto_region 10 with fail
            clear m0 m1 m2 m3 m4 hC
            replace b7 := b7.out
            generalize wr.alloc (.cells #[.int .i64 k2, .int .i64 x2, .string s2, .slice an2 ln2 cn2, .slice ai2 li2 ci2] 28) = Wb at b7 hC2 ⊢
            generalize wr.heap.size = B7 at b7 hne7 ⊢
            have c5 := hC2.out.cur
            have c2 := hC2.out.bel
            replace hC := hid_e hC2.out.drew
            clear hC2
            replace c5 : Wb.drew.heap[bw]? = _ := c5
            replace b7 : Wb.drew.heap[B7]? = _ := b7
            replace c2 : Below w.heap.size w Wb.drew := below_drew c2
            generalize hX : Wb.drew = X at b7 c2 c5 hC
            refine wp_region_noPanic ?_
            refine Until.wp_region_U (fun w' => Below w.heap.size w w') (fun w' => w'.heap[B7]? = some (.cells #[.int .i64 k2, .int .i64 x2, .string s2, .slice an2 ln2 cn2, .slice ai2 li2 ci2] 28 (0, 0)) ∧ w'.heap[bw]? = some (.cells #[.int .i64 k, .int .i64 x, .string s, nv, .slice an1 q cn1] 28 (0, 0))) 7 (by kernel_rfl) ?_
            rw [hX]
            clear hX
            refine Until.wpU_pure (i := 0) (oi := { dst := some 38, op := Op.fieldAddr 28 (Operand.tmp 3) 4, type := 0, pos := "jsonval.go:24", after := #[], guard := none }) (v := .pointer (some ⟨bw, 4, none⟩)) rfl (by kernel_rfl) (by kernel_rfl) (by kernel_rfl) (by kernel_rfl) (by kernel_rfl) (fun _ _ _ h => h) (c2) (fun _ => ⟨b7, c5⟩) (by rfl) (by intro w'; go_simp) ?_
            try simp only [Act.put, List.setIfInBounds_toArray, List.set_cons_zero, List.set_cons_succ]
            refine Until.wpU_load1 (i := 1) (oi := { dst := some 39, op := Op.load 26 (Operand.tmp 38), type := 26, pos := "jsonval.go:24", after := #[{ on := 0, ground := Ground.data }], guard := none }) (v := .slice an1 q cn1) rfl (by kernel_rfl) (by kernel_rfl) (by kernel_rfl) (by kernel_rfl) (by kernel_rfl) (by kernel_rfl) (fun _ _ _ h => h) (c2) (⟨b7, c5⟩) (by rfl) (by intro w' hw'; obtain ⟨t0, t1, t2, t3, t4, -⟩ := row_cells hw'.2; clear hw'; go_simp) ?_
            try simp only [Act.put, List.setIfInBounds_toArray, List.set_cons_zero, List.set_cons_succ]
            refine Until.wpU_load1 (i := 2) (oi := { dst := some 40, op := Op.load 28 (Operand.tmp 7), type := 28, pos := "jsonval.go:24", after := #[], guard := none }) (v := .agg #[.int .i64 k2, .int .i64 x2, .string s2, .slice an2 ln2 cn2, .slice ai2 li2 ci2]) rfl (by kernel_rfl) (by kernel_rfl) (by kernel_rfl) (by kernel_rfl) (by kernel_rfl) (by kernel_rfl) (fun _ _ _ h => h) (c2) (⟨b7, c5⟩) (by rfl) (by intro w' hw'; obtain ⟨t0, t1, t2, t3, t4, -⟩ := row_cells hw'.1; clear hw'; go_simp) ?_
            try simp only [Act.put, List.setIfInBounds_toArray, List.set_cons_zero, List.set_cons_succ]
            refine Until.wpU_ready (rs := [3]) (by kernel_rfl) (by simp) ?_
            refine (Until.AllU.cons (o := { dst := some 41, op := Op.call { callee := Callee.value (Operand.func 18), args := #[Operand.tmp 40], argTypes := #[28] }, type := 28, pos := "jsonval.go:24", after := #[{ on := 2, ground := Ground.data }], guard := none }) rfl (fun K hK => ?_) Until.AllU.nil)
            go_simp
            refine (hcall.out X c2).mono ?_
            rintro e w2 ⟨k3, x3, s3, an3, ln3, cn3, ai3, li3, ci3, rfl, hu3, hb2⟩
            have d2 : Below w.heap.size w w2 := c2.trans (hb2.mono c2.size)
            have d7 := (hb2.block _ (Array.getElem?_eq_some_iff.1 b7).1).trans b7
            have d5 := (hb2.block _ (Array.getElem?_eq_some_iff.1 c5).1).trans c5
            replace hu3 := hid_e hu3
            refine hK.out _ _ (d2) (fun _ => ⟨d7, d5⟩) ?_
            clear hK K
            try simp only [Act.put, List.setIfInBounds_toArray, List.set_cons_zero, List.set_cons_succ]
            refine Until.wpU_ready (rs := [4]) (by kernel_rfl) (by simp) ?_
            refine (Until.AllU.cons (o := { dst := some 42, op := Op.buildSlice 26 1 #[(0, Operand.tmp 41)], type := 26, pos := "jsonval.go:24", after := #[{ on := 3, ground := Ground.data }], guard := none }) rfl (fun K hK => ?_) Until.AllU.nil)
            go_simp
            have e2 : Below w.heap.size w (w2.alloc (.cells #[.int .i64 k3, .int .i64 x3, .string s3, .slice an3 ln3 cn3, .slice ai3 li3 ci3] 28)) := d2.alloc d2.size _
            have e7 := (Below.heap_alloc w2 (.cells #[.int .i64 k3, .int .i64 x3, .string s3, .slice an3 ln3 cn3, .slice ai3 li3 ci3] 28) _ (Array.getElem?_eq_some_iff.1 d7).1).trans d7
            have e5 := (Below.heap_alloc w2 (.cells #[.int .i64 k3, .int .i64 x3, .string s3, .slice an3 ln3 cn3, .slice ai3 li3 ci3] 28) _ (Array.getElem?_eq_some_iff.1 d5).1).trans d5
            refine hK.out _ _ (e2) (fun _ => ⟨e7, e5⟩) ?_
            clear hK K
            try simp only [Act.put, List.setIfInBounds_toArray, List.set_cons_zero, List.set_cons_succ]
            have hrow := hC.out.own2
            rw [show (its.take q).length = q from by simp; omega] at hrow
            refine Until.wpU_ready (rs := [5]) (by kernel_rfl) (by simp) ?_
            refine (Until.AllU.cons (o := { dst := some 43, op := Op.call { callee := Callee.builtin Builtin.append, args := #[Operand.tmp 39, Operand.tmp 42], argTypes := #[26, 26] }, type := 26, pos := "jsonval.go:24", after := #[{ on := 1, ground := Ground.data }, { on := 4, ground := Ground.data }, { on := 3, ground := Ground.chain }], guard := none }) rfl (fun K hK => ?_) Until.AllU.nil)
            refine step_append_lies _ (by rfl) _ _ 26 (by rfl) (w.heap.size + 2) 28 i0 _ 5 80 Tryz.underlying26 hi hz0 hz1 hz2 (by rfl) (by omega) _ q xs (by rfl) ((ownsRow_below hrow hb2).alloc _) _ 1 1 [.int .i64 k3, .int .i64 x3, .string s3, .slice an3 ln3 cn3, .slice ai3 li3 ci3] (by rfl) (by rfl) (World.news_of_block (heap_alloc_new w2 _)) (five_one _ _ _ _ _ _ _ _ _) (by omega) (hbi.out q hlt).1 (hbi.out q hlt).2 (by have := hC.out.size2; have := hb2.size; simp only [World.size_alloc]; omega) _ rfl ?_
            intro g4 cap4 w3 hown3 hgrow3 hat3 hlt3
            have hstep := JC.item (u := u) hC.out hu3.out hb2 hgrow3 hat3 (by rw [show (its.take q).length = q from by simp; omega]; exact hown3)
            obtain ⟨f2, f5, hstep⟩ := hstep
            rw [show (its.take q).length = q from by simp; omega] at hstep
            have f7 := (hgrow3.block B7 (Array.getElem?_eq_some_iff.1 e7).1 (fun e => hne7.out _ e.symm rfl)).trans e7
            replace hstep := hid_e hstep
            refine hK.out _ _ (f2) (fun _ => ⟨f7, f5⟩) ?_
            clear hK K
            try simp only [Act.put, List.setIfInBounds_toArray, List.set_cons_zero, List.set_cons_succ]
            clear hat3 hgrow3 hown3 hrow
            refine Until.wpU_pure (i := 6) (oi := { dst := some 44, op := Op.fieldAddr 28 (Operand.tmp 3) 4, type := 0, pos := "jsonval.go:24", after := #[{ on := 0, ground := Ground.phase }, { on := 1, ground := Ground.phase }, { on := 2, ground := Ground.phase }, { on := 3, ground := Ground.phase }, { on := 4, ground := Ground.phase }, { on := 5, ground := Ground.phase }], guard := none }) (v := .pointer (some ⟨bw, 4, none⟩)) rfl (by kernel_rfl) (by kernel_rfl) (by kernel_rfl) (by kernel_rfl) (by kernel_rfl) (fun _ _ _ h => h) (f2) (fun _ => ⟨f7, f5⟩) (by rfl) (by intro w'; go_simp) ?_
            try simp only [Act.put, List.setIfInBounds_toArray, List.set_cons_zero, List.set_cons_succ]
            obtain ⟨-, -, -, -, z4, zf⟩ := row_cells f5
            have zf4 := zf 4
            clear zf
            refine Until.wpU_ready (rs := [7]) (by kernel_rfl) (by simp) ?_
            refine (Until.AllU.cons (o := { dst := none, op := Op.store 26 (Operand.tmp 44) (Operand.tmp 43), type := 0, pos := "jsonval.go:24", after := #[{ on := 6, ground := Ground.data }, { on := 5, ground := Ground.data }, { on := 5, ground := Ground.chain }, { on := 0, ground := Ground.phase }, { on := 1, ground := Ground.phase }, { on := 2, ground := Ground.phase }, { on := 3, ground := Ground.phase }, { on := 4, ground := Ground.phase }, { on := 5, ground := Ground.phase }], guard := none }) rfl (fun K hK => ?_) Until.AllU.nil)
            go_simp
            refine hK.out _ _ (hstep.out.bel) (fun h => absurd h (by decide)) ?_
            clear hK K
            try simp only [Act.put, List.setIfInBounds_toArray, List.set_cons_zero, List.set_cons_succ]
            refine Until.wpU_done (by kernel_rfl) ?_ _
            refine NoPanic.normal ?_
            clear z4 zf4 f5 f2 f7 e7 e5 e2 d7 d5 d2
            go_wp2_with fail
            go_roundw
            case rel => exact ⟨q + 1, _, _, by omega, by go_num, by rw [List.take_add_one, hu.out]; exact hstep⟩
            case measure => simp [intOf]; omega
          · obtain rfl : q = its.length := by omega
            clear hq hlt
            rw [List.take_length] at hC
            obtain ⟨an1, cn1, ai1, ci1, rfl, rfl, hend⟩ := jc_end hC.out (.int .i64 k) (.int .i64 x) (.string s) nv iv
            replace hend := hid_e hend
            obtain ⟨z0, z1, z2, z3, z4, zf⟩ := row_cells hC.out.two
            have zf0 := zf 0; have zf1 := zf 1; have zf2 := zf 2; have zf3 := zf 3; have zf4 := zf 4
            obtain ⟨v0, v1, v2, v3, v4, -⟩ := row_cells hC.out.cur
            clear zf
            have hr5 := put5_cells hC.out.two (.int .i64 k) (.int .i64 x) (.string s) (.slice an1 ns.length cn1) (.slice ai1 its.length ci1)
            have r0 := hr5 0; have r1 := hr5 1; have r2 := hr5 2; have r3 := hr5 3; have r4 := hr5 4
            clear hr5
            go_wp2_with fail
            refine bodyPost_ret (v := .agg #[.int .i64 k, .int .i64 x, .string s, .slice an1 ns.length cn1, .slice ai1 its.length ci1]) (by simp [results, Tryz.results18, go_sem, r0, r1, r2, r3, r4]) rfl ?_
            exact hend.out
/-- jsonval.Copy of every value: all its lists are its own. -/
theorem jcopy_own (t : Tr) (cs : List Value) (w : World) (hV : VRep w t cs) (hS : SmallT t) :
    Calls Tryz.prog 18 #[.agg cs.toArray] w (OwnPost w t) := by
  match t, hV, hS with
  | .node k x s ns its, hV, hS =>
    unfold VRep at hV
    unfold SmallT at hS
    obtain ⟨nm, a, c, rfl, hn, hc, hI⟩ := hV
    obtain ⟨an, cn, rfl, -, -⟩ := id hn
    obtain ⟨s1, s2, s3, s4, s5⟩ := hS
    refine jcopy_one k x s an cn ns a c its w (by omega) (hid_e (fun n hn => by have := s3 n hn; omega)) (by omega) (by omega) (hid_e hn) (hid_e hI) (hid_e (fun i u hu ds w' h1 => ?_))
    have hlt : SizeOf.sizeOf u < SizeOf.sizeOf its := tr_lt hu
    exact jcopy_own u ds w' h1 (SmallL.at s5 hu)
termination_by SizeOf.sizeOf t
decreasing_by simp only [Tr.node.sizeOf_spec]; omega
end Go.Proofs.YthgnkhpomhcdkaaGreatDoor.Own
