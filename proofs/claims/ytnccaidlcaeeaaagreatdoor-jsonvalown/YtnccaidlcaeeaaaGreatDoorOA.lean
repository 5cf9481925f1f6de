import Derived.Test.YtnccaidlcaeeaaaGreatDoorPA
/-! Values whose lists lie in blocks of their own. -/
namespace Go.Proofs.YtnccaidlcaeeaaaGreatDoor.Tree
open Go Go.RowKit

theorem SmallL.at : {its : List Tr} → {i : Nat} → {u : Tr} → SmallL its → its[i]? = some u → SmallT u
  | [], _, _, _, hu => by simp at hu
  | t :: ts, 0, u, h, hu => by
    unfold SmallL at h
    have : t = u := by simpa using hu
    exact this ▸ h.1
  | t :: ts, i + 1, u, h, hu => by
    unfold SmallL at h
    exact SmallL.at h.2 (by simpa using hu)
/-- A value as it lies in memory: its cells, its names, the values of its list. -/
inductive HT where
  | node (k x : Int) (s : ByteArray) (nm it : Value) (ns : List ByteArray) (kids : List HT)
def HT.head : HT → List Value
  | .node k x s nm it _ _ => five k x s nm it
def HT.kids : HT → List HT
  | .node _ _ _ _ _ _ kids => kids
def HT.names : HT → List ByteArray
  | .node _ _ _ _ _ ns _ => ns
mutual
def HT.tr : HT → Tr
  | .node k x s _ _ ns kids => .node k x s ns (trL kids)
def trL : List HT → List Tr
  | [] => []
  | t :: ts => HT.tr t :: trL ts
end
def flatH (l : List HT) : List Value := l.flatMap HT.head
theorem head_len (t : HT) : t.head.length = 5 := by cases t; rfl
theorem flatH_len (l : List HT) : (flatH l).length = l.length * 5 := by
  induction l with
  | nil => rfl
  | cons t l ih => simp only [flatH, List.flatMap_cons, List.length_append, head_len, List.length_cons] at *; omega
theorem flatH_app (l r : List HT) : flatH (l ++ r) = flatH l ++ flatH r := by simp [flatH]
theorem flatH_one (h : HT) : flatH [h] = h.head := by simp [flatH]
theorem trL_len (l : List HT) : (trL l).length = l.length := by
  induction l with
  | nil => rfl
  | cons t l ih => unfold trL; simp [ih]
theorem trL_snoc (l : List HT) (h : HT) : trL (l ++ [h]) = trL l ++ [h.tr] := by
  induction l with
  | nil => show trL [h] = [h.tr]; unfold trL trL; rfl
  | cons t l ih => show trL (t :: (l ++ [h])) = _; unfold trL; rw [ih]; unfold trL; rfl
mutual
/-- A value and all within it, in the order of 'under'. -/
def preT : HT → List HT
  | .node k x s nm it ns kids => .node k x s nm it ns kids :: preL kids
def preL : List HT → List HT
  | [] => []
  | t :: ts => preT t ++ preL ts
end
def HT.blks : HT → List Nat
  | .node _ _ _ nm it _ _ => nm.ownBlock.toList ++ it.ownBlock.toList
def bksT (t : HT) : List Nat := (preT t).flatMap HT.blks
def bksL (l : List HT) : List Nat := (preL l).flatMap HT.blks
theorem bksT_node (k x : Int) (s : ByteArray) (nm it : Value) (ns : List ByteArray) (kids : List HT) : bksT (.node k x s nm it ns kids) = (nm.ownBlock.toList ++ it.ownBlock.toList) ++ bksL kids := by
  simp [bksT, bksL, preT, HT.blks]
theorem bksL_cons (t : HT) (ts : List HT) : bksL (t :: ts) = bksT t ++ bksL ts := by
  simp [bksT, bksL, preL]
theorem bksL_nil : bksL [] = [] := by simp [bksL, preL]
theorem preL_app : (l r : List HT) → preL (l ++ r) = preL l ++ preL r
  | [], r => by simp [preL]
  | t :: l, r => by rw [List.cons_append, preL, preL_app l r, preL, List.append_assoc]
theorem bksL_app (l r : List HT) : bksL (l ++ r) = bksL l ++ bksL r := by simp [bksL, preL_app]
theorem bksL_one (t : HT) : bksL [t] = bksT t := by rw [bksL_cons, bksL_nil, List.append_nil]
theorem preL_one (t : HT) : preL [t] = preT t := by simp [preL]
/-- The rows of one value. -/
def RowsT (w : World) : HT → Prop
  | .node _ _ _ nm it ns kids => w.ownsRow 0 9 1 nm ns.length (strs ns) ∧ w.ownsRow 0 25 5 it kids.length (flatH kids)
/-- The lists of a value lie in blocks of their own. -/
def OwnF (w : World) (h : HT) : Prop := (∀ u ∈ preT h, RowsT w u) ∧ (bksT h).Nodup
def OwnFL (w : World) (l : List HT) : Prop := (∀ u ∈ preL l, RowsT w u) ∧ (bksL l).Nodup
theorem rows_keep {w w' : World} {u : HT} (h : RowsT w u) (hk : ∀ g ∈ u.blks, w'.heap[g]? = w.heap[g]?) : RowsT w' u := by
  cases u with
  | node k x s nm it ns kids =>
    obtain ⟨h1, h2⟩ := h
    exact ⟨ownsRow_keep h1 (fun g hg => hk g (by simp [HT.blks, hg])), ownsRow_keep h2 (fun g hg => hk g (by simp [HT.blks, hg]))⟩
theorem rows_lt {w : World} {u : HT} (h : RowsT w u) : ∀ g ∈ u.blks, g < w.heap.size := by
  cases u with
  | node k x s nm it ns kids =>
    obtain ⟨h1, h2⟩ := h
    intro g hg
    rcases List.mem_append.1 hg with hg | hg
    · exact (ownsRow_ge h1 (by simpa using hg)).2
    · exact (ownsRow_ge h2 (by simpa using hg)).2
theorem OwnF.keep {w w' : World} {h : HT} (hO : OwnF w h) (hk : ∀ g ∈ bksT h, w'.heap[g]? = w.heap[g]?) : OwnF w' h :=
  ⟨fun u hu => rows_keep (hO.1 u hu) (fun g hg => hk g (List.mem_flatMap.2 ⟨u, hu, hg⟩)), hO.2⟩
theorem OwnFL.keep {w w' : World} {l : List HT} (hO : OwnFL w l) (hk : ∀ g ∈ bksL l, w'.heap[g]? = w.heap[g]?) : OwnFL w' l :=
  ⟨fun u hu => rows_keep (hO.1 u hu) (fun g hg => hk g (List.mem_flatMap.2 ⟨u, hu, hg⟩)), hO.2⟩
theorem OwnF.lt {w : World} {h : HT} (hO : OwnF w h) : ∀ g ∈ bksT h, g < w.heap.size := fun g hg => by
  obtain ⟨u, hu, hg⟩ := List.mem_flatMap.1 hg
  exact rows_lt (hO.1 u hu) g hg
theorem OwnFL.lt {w : World} {l : List HT} (hO : OwnFL w l) : ∀ g ∈ bksL l, g < w.heap.size := fun g hg => by
  obtain ⟨u, hu, hg⟩ := List.mem_flatMap.1 hg
  exact rows_lt (hO.1 u hu) g hg
theorem ownFL_nil (w : World) : OwnFL w [] := ⟨fun u hu => by simp [preL] at hu, by simp [bksL_nil]⟩
theorem OwnFL.snoc {w : World} {l : List HT} {h : HT} {m : Nat} (hl : OwnFL w l) (hh : OwnF w h) (h1 : ∀ g ∈ bksL l, g < m) (h2 : ∀ g ∈ bksT h, m ≤ g) : OwnFL w (l ++ [h]) := by
  refine ⟨fun u hu => ?_, ?_⟩
  · rw [preL_app, preL_one] at hu
    rcases List.mem_append.1 hu with hu | hu
    · exact hl.1 u hu
    · exact hh.1 u hu
  · rw [bksL_app, bksL_one]
    refine List.nodup_append.2 ⟨hl.2, hh.2, fun a ha b hb e => ?_⟩
    have := h1 a ha
    have := h2 b hb
    omega
/-- The value whose lists these are. -/
theorem ownF_node {w : World} {k x : Int} {s : ByteArray} {nm it : Value} {ns : List ByteArray} {kids : List HT} (h1 : w.ownsRow 0 9 1 nm ns.length (strs ns)) (h2 : w.ownsRow 0 25 5 it kids.length (flatH kids)) (hk : OwnFL w kids) (h3 : nm.ownBlock = none ∨ nm.ownBlock ≠ it.ownBlock) (h4 : ∀ g ∈ bksL kids, nm.ownBlock ≠ some g ∧ it.ownBlock ≠ some g) : OwnF w (.node k x s nm it ns kids) := by
  refine ⟨fun u hu => ?_, ?_⟩
  · rw [preT] at hu
    rcases List.mem_cons.1 hu with rfl | hu
    · exact ⟨h1, h2⟩
    · exact hk.1 u hu
  · rw [bksT_node]
    refine List.nodup_append.2 ⟨?_, hk.2, fun a ha b hb e => ?_⟩
    · cases hn : nm.ownBlock with
      | none => cases hi : it.ownBlock <;> simp
      | some a =>
        cases hi : it.ownBlock with
        | none => simp
        | some b =>
          rw [hn, hi] at h3
          have : a ≠ b := by rintro rfl; simp at h3
          simp [this]
    · subst e
      obtain ⟨h5, h6⟩ := h4 a hb
      rcases List.mem_append.1 ha with ha | ha
      · exact h5 (by simpa using ha)
      · exact h6 (by simpa using ha)
/-- What is within. -/
theorem OwnF.inner {w : World} {k x : Int} {s : ByteArray} {nm it : Value} {ns : List ByteArray} {kids : List HT} (h : OwnF w (.node k x s nm it ns kids)) : w.ownsRow 0 9 1 nm ns.length (strs ns) ∧ w.ownsRow 0 25 5 it kids.length (flatH kids) ∧ OwnFL w kids ∧ (∀ g ∈ bksL kids, nm.ownBlock ≠ some g ∧ it.ownBlock ≠ some g) := by
  obtain ⟨h1, h2⟩ := h
  have hr := h1 _ (by rw [preT]; exact List.mem_cons_self)
  rw [bksT_node] at h2
  obtain ⟨n1, n2, n3⟩ := List.nodup_append.1 h2
  refine ⟨hr.1, hr.2, ⟨fun u hu => h1 u (by rw [preT]; exact List.mem_cons_of_mem _ hu), n2⟩, fun g hg => ⟨fun e => ?_, fun e => ?_⟩⟩
  · exact n3 g (by simp [e]) g hg rfl
  · exact n3 g (by simp [e]) g hg rfl
theorem mem_split_at {l : List HT} {i : Nat} {u : HT} (h : l[i]? = some u) : l = l.take i ++ u :: l.drop (i + 1) := by
  have hlt := (List.getElem?_eq_some_iff.1 h).1
  have e : l[i] = u := (List.getElem?_eq_some_iff.1 h).2
  have h2 : l.drop i = u :: l.drop (i + 1) := by rw [List.drop_eq_getElem_cons hlt, e]
  rw [← h2, List.take_append_drop]
/-- One among several: it is whole, and those ahead lie elsewhere. -/
theorem OwnFL.at {w : World} {l : List HT} {i : Nat} {u : HT} (h : OwnFL w l) (hu : l[i]? = some u) : OwnF w u ∧ (∀ g ∈ bksT u, g ∉ bksL (l.take i)) ∧ ∀ g ∈ bksT u, g ∈ bksL l := by
  have e := mem_split_at hu
  obtain ⟨h1, h2⟩ := h
  have e2 : bksL l = bksL (l.take i) ++ (bksT u ++ bksL (l.drop (i + 1))) := by
    conv => lhs; rw [e]
    rw [bksL_app, bksL_cons]
  have e3 : preL l = preL (l.take i) ++ (preT u ++ preL (l.drop (i + 1))) := by
    conv => lhs; rw [e]
    rw [preL_app, preL]
  rw [e2] at h2
  obtain ⟨n1, n2, n3⟩ := List.nodup_append.1 h2
  obtain ⟨m1, m2, m3⟩ := List.nodup_append.1 n2
  refine ⟨⟨fun v hv => h1 v (by rw [e3]; simp [hv]), m1⟩, fun g hg hg' => n3 g hg' g (by simp [hg]) rfl, fun g hg => by rw [e2]; simp [hg]⟩
theorem bksL_take_sub {l : List HT} {i : Nat} {g : Nat} (h : g ∈ bksL (l.take i)) : g ∈ bksL l := by
  have : bksL l = bksL (l.take i) ++ bksL (l.drop i) := by rw [← bksL_app, List.take_append_drop]
  rw [this]; simp [h]
theorem ht_lt {l : List HT} {i : Nat} {t : HT} (h : l[i]? = some t) : SizeOf.sizeOf t < SizeOf.sizeOf l := List.sizeOf_lt_of_mem (List.mem_of_getElem? h)
theorem flat_at : {l : List HT} → {i : Nat} → {u : HT} → l[i]? = some u → ∀ j, j < 5 → (flatH l)[i * 5 + j]? = u.head[j]?
  | [], _, _, h, _, _ => by simp at h
  | t :: ts, 0, u, h, j, hj => by
    have : t = u := by simpa using h
    subst this
    simp only [flatH, List.flatMap_cons]
    rw [List.getElem?_append_left (by rw [head_len]; omega)]
    congr 1
    omega
  | t :: ts, i + 1, u, h, j, hj => by
    have ih := flat_at (l := ts) (i := i) (u := u) (by simpa using h) j hj
    simp only [flatH, List.flatMap_cons] at ih ⊢
    rw [List.getElem?_append_right (by rw [head_len]; omega), head_len, ← ih]
    congr 1
    omega
mutual
theorem own_rep {w : World} : (h : HT) → OwnF w h → VRep w h.tr h.head
  | .node k x s nm it ns kids, hO => by
    obtain ⟨h1, h2, h3, -⟩ := hO.inner
    unfold HT.tr VRep
    obtain ⟨a, c, rfl⟩ := ownsRow_slice h2
    refine ⟨nm, a, c, by rw [trL_len]; rfl, reads_own h1, ?_⟩
    rw [trL_len]
    rcases id h2.2 with ⟨hv, h0⟩ | ⟨g, cap, cur, hv, hg, hh, hc, hm, -⟩
    · have e := List.eq_nil_of_length_eq_zero h0
      subst e
      injection hv with v1 v2 v3
      subst v3
      exact ⟨⟨Nat.zero_le _, by omega⟩, .inl (by unfold trL; rfl)⟩
    · injection hv with v1 v2 v3
      subst v1 v3
      exact ⟨⟨hc, by unfold maxLen at hm; omega⟩, .inr ⟨g, 0, rfl, (Array.getElem?_eq_some_iff.1 hh).1, own_repL kids 0 h3 (fun j u hj => by rw [Nat.zero_add]; exact row_cell h2 j u hj)⟩⟩
theorem own_repL {w : World} {b : Nat} : (l : List HT) → (o : Nat) → OwnFL w l → (∀ j u, (flatH l)[j]? = some u → w.cell? ⟨b, o + j, none⟩ = some u) → VRepL w b o (trL l)
  | [], _, _, _ => by unfold trL VRepL; trivial
  | t :: ts, o, hO, hc => by
    obtain ⟨ht, -, -⟩ := hO.at (i := 0) (u := t) rfl
    have hts : OwnFL w ts := by
      obtain ⟨h1, h2⟩ := hO
      rw [bksL_cons] at h2
      exact ⟨fun u hu => h1 u (by rw [preL]; simp [hu]), (List.nodup_append.1 h2).2.1⟩
    unfold trL VRepL
    have e : flatH (t :: ts) = t.head ++ flatH ts := by simp [flatH]
    rw [e] at hc
    refine ⟨t.head, fun j u hj => hc j u (by rw [List.getElem?_append_left (List.getElem?_eq_some_iff.1 hj).1]; exact hj), own_rep t ht, own_repL ts (o + 5) hts (fun j u hj => ?_)⟩
    have := hc (5 + j) u (by rw [List.getElem?_append_right (by rw [head_len]; omega), head_len, Nat.add_sub_cancel_left]; exact hj)
    rwa [show o + 5 + j = o + (5 + j) by omega]
end
/-- The value t, in lists of its own, from lo on. -/
def OwnAt (lo : Nat) (W : World) (t : Tr) (cs : List Value) : Prop := ∃ h : HT, h.head = cs ∧ h.tr = t ∧ OwnF W h ∧ ∀ g ∈ bksT h, lo ≤ g
end Go.Proofs.YtnccaidlcaeeaaaGreatDoor.Tree
