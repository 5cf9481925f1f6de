import Derived.Test.YthebilggokpciaaS1
/-! One turn up, of every value: what it leans on. -/
namespace Go.Proofs.Ythebilggokpciaa
open Go Go.RowKit

/-- What anew keeps. -/
def keepNs (k : Int) (ns : List ByteArray) (its : List Tr) : List ByteArray := if k = 6 then ns.take (min ns.length its.length) else []
def keepIts (k : Int) (ns : List ByteArray) (its : List Tr) : List Tr := if k = 6 then its.take (min ns.length its.length) else its
/-- A turn, with X as its item. -/
def withT (k : Int) (ns : List ByteArray) (its : List Tr) (sg : ByteArray) (m : Nat) (X : Tr) : Tr :=
  if m < (keepIts k ns its).length then .node k 0 ⟨#[]⟩ (keepNs k ns its) ((keepIts k ns its).set m X)
  else .node k 0 ⟨#[]⟩ (if k = 6 then keepNs k ns its ++ [sg] else []) (keepIts k ns its ++ [X])
theorem five_ones {k x : Int} {s : ByteArray} {an : Option Addr} {ln cn : Nat} {ai : Option Addr} {li ci : Nat} : ∀ v ∈ five k x s (.slice an ln cn) (.slice ai li ci), v.oneCell' = true := by simp [five, Value.oneCell']
theorem ItemsRep.length {W : World} : {ts : List Tr} → {xs : List Value} → ItemsRep W ts xs → xs.length = ts.length * 5
  | [], xs, h => by unfold ItemsRep at h; subst h; rfl
  | t :: ts, xs, h => by
    unfold ItemsRep at h
    obtain ⟨cs, r, rfl, h1, _, h3⟩ := h
    rw [List.length_append, h1, h3.length, List.length_cons]; omega
theorem ItemsRep.ones {W : World} : {ts : List Tr} → {xs : List Value} → ItemsRep W ts xs → ∀ v ∈ xs, v.oneCell' = true
  | [], xs, h => by unfold ItemsRep at h; subst h; simp
  | t :: ts, xs, h => by
    unfold ItemsRep at h
    obtain ⟨cs, r, rfl, h1, h2, h3⟩ := h
    intro v hv
    rcases List.mem_append.1 hv with hv | hv
    · obtain ⟨_, _, _, _, _, _, _, _, _, rfl⟩ := vrep_five h2
      exact five_ones v hv
    · exact h3.ones v hv
theorem ItemsRep.mono {W W' : World} (hk : ∀ p u, W.cell? p = some u → W'.cell? p = some u) (hs : W.heap.size ≤ W'.heap.size) : {ts : List Tr} → {xs : List Value} → ItemsRep W ts xs → ItemsRep W' ts xs
  | [], xs, h => by unfold ItemsRep at *; exact h
  | t :: ts, xs, h => by
    unfold ItemsRep at *
    obtain ⟨cs, r, rfl, h1, h2, h3⟩ := h
    exact ⟨cs, r, rfl, h1, VRep.mono hk hs t cs h2, h3.mono hk hs⟩
theorem ItemsRep.take {W : World} : {ts : List Tr} → {xs : List Value} → (n : Nat) → ItemsRep W ts xs → ItemsRep W (ts.take n) (xs.take (n * 5))
  | [], xs, n, h => by unfold ItemsRep at h; subst h; simp [ItemsRep]
  | t :: ts, xs, 0, h => by simp [ItemsRep]
  | t :: ts, xs, n + 1, h => by
    unfold ItemsRep at h
    obtain ⟨cs, r, rfl, h1, h2, h3⟩ := h
    rw [List.take_succ_cons]
    unfold ItemsRep
    refine ⟨cs, r.take (n * 5), ?_, h1, h2, h3.take n⟩
    rw [List.take_append, h1, List.take_of_length_le (by omega), show (n + 1) * 5 - 5 = n * 5 by omega]
theorem ItemsRep.set {W : World} {X : Tr} {k x : Int} {s : ByteArray} {nm it : Value} (hX : VRep W X (five k x s nm it)) : {ts : List Tr} → {xs : List Value} → (m : Nat) → m < ts.length → ItemsRep W ts xs → ItemsRep W (ts.set m X) (((((xs.set (m * 5) (.int .i64 k)).set (m * 5 + 1) (.int .i64 x)).set (m * 5 + 2) (.string s)).set (m * 5 + 3) nm).set (m * 5 + 4) it)
  | [], xs, m, hm, h => by simp at hm
  | t :: ts, xs, 0, hm, h => by
    unfold ItemsRep at h
    obtain ⟨cs, r, rfl, h1, h2, h3⟩ := h
    obtain ⟨_, _, _, _, _, _, _, _, _, rfl⟩ := vrep_five h2
    rw [List.set_cons_zero]
    unfold ItemsRep
    exact ⟨five k x s nm it, r, rfl, rfl, hX, h3⟩
  | t :: ts, xs, m + 1, hm, h => by
    unfold ItemsRep at h
    obtain ⟨cs, r, rfl, h1, h2, h3⟩ := h
    rw [List.set_cons_succ]
    unfold ItemsRep
    refine ⟨cs, _, ?_, h1, h2, h3.set hX m (by simpa using hm)⟩
    rw [List.set_append_right _ _ (by omega), List.set_append_right _ _ (by omega), List.set_append_right _ _ (by omega), List.set_append_right _ _ (by omega), List.set_append_right _ _ (by omega), h1,
      show (m + 1) * 5 - 5 = m * 5 by omega, show (m + 1) * 5 + 1 - 5 = m * 5 + 1 by omega, show (m + 1) * 5 + 2 - 5 = m * 5 + 2 by omega, show (m + 1) * 5 + 3 - 5 = m * 5 + 3 by omega, show (m + 1) * 5 + 4 - 5 = m * 5 + 4 by omega]
/-- The items of a value, as cells. -/
theorem VRepL.items {w : World} {b : Nat} : (its : List Tr) → (o : Nat) → VRepL w b o its → ∃ xs, ItemsRep w its xs ∧ CellsAt w b o xs
  | [], o, _ => ⟨[], by unfold ItemsRep; rfl, fun j u hj => by simp at hj⟩
  | t :: ts, o, h => by
    unfold VRepL at h
    obtain ⟨cs, h1, h2, h3⟩ := h
    obtain ⟨r, h4, h5⟩ := VRepL.items ts (o + 5) h3
    have hl : cs.length = 5 := by obtain ⟨_, _, _, _, _, _, _, _, _, rfl⟩ := vrep_five h2; rfl
    refine ⟨cs ++ r, by unfold ItemsRep; exact ⟨cs, r, rfl, hl, h2, h4⟩, fun j u hj => ?_⟩
    rcases Nat.lt_or_ge j cs.length with hj' | hj'
    · rw [List.getElem?_append_left hj'] at hj; exact h1 j u hj
    · rw [List.getElem?_append_right hj', hl] at hj
      have := h5 (j - 5) u hj
      rwa [show o + 5 + (j - 5) = o + j by omega] at this
theorem CellsAt.take {w : World} {b o : Nat} {xs : List Value} (h : CellsAt w b o xs) (n : Nat) : CellsAt w b o (xs.take n) := fun j u hj => h j u (by
  rw [List.getElem?_take] at hj
  split at hj
  · exact hj
  · cases hj)
theorem LiesAt.take {w : World} {a : Option Addr} {xs : List Value} (h : LiesAt w a xs) (n : Nat) : LiesAt w a (xs.take n) := by
  rcases h with rfl | ⟨b, o, e, h⟩
  · exact .inl (by simp)
  · exact .inr ⟨b, o, e, h.take n⟩
/-- A value taken apart. -/
theorem VRep.parts {w : World} {k x : Int} {s : ByteArray} {ns : List ByteArray} {its : List Tr} {cs : List Value} (h : VRep w (.node k x s ns its) cs) : ∃ an cn ai ci xs, cs = five k x s (.slice an ns.length cn) (.slice ai its.length ci) ∧ (ns.length ≤ cn ∧ cn ≤ 9223372036854775807) ∧ (its.length ≤ ci ∧ ci ≤ 9223372036854775807) ∧ LiesAt w an (strs ns) ∧ LiesAt w ai xs ∧ ItemsRep w its xs := by
  unfold VRep at h
  obtain ⟨nm, a, c, rfl, ⟨an, cn, rfl, hcn, hN⟩, hc, hI⟩ := h
  have hN' : LiesAt w an (strs ns) := by
    rcases hN with rfl | ⟨b, o, rfl, _, hN⟩
    · exact .inl rfl
    · refine .inr ⟨b, o, rfl, fun j u hj => ?_⟩
      unfold strs at hj
      rw [List.getElem?_map] at hj
      cases hy : ns[j]? with
      | none => rw [hy] at hj; cases hj
      | some y => rw [hy] at hj; cases hj; exact hN j y hy
  rcases hI with rfl | ⟨b, o, rfl, _, hI⟩
  · exact ⟨an, cn, a, c, [], rfl, hcn, hc, hN', .inl rfl, by unfold ItemsRep; rfl⟩
  · obtain ⟨xs, h1, h2⟩ := VRepL.items its o hI
    exact ⟨an, cn, _, c, xs, rfl, hcn, hc, hN', .inr ⟨b, o, rfl, h2⟩, h1⟩
/-- A value put together. -/
theorem vrep_make {W : World} {k : Int} {ns : List ByteArray} {its : List Tr} {nm : Value} {gi ci lo : Nat} {xs : List Value} (hN : Reads W nm ns) (hI : ItemsRep W its xs) (hc : CellsAt W gi 0 xs) (hl : its.length ≤ ci ∧ ci ≤ 9223372036854775807) (hg : gi < W.heap.size) (_ : lo ≤ gi) :
    VRep W (.node k 0 ⟨#[]⟩ ns its) (five k 0 ⟨#[]⟩ nm (.slice (some ⟨gi, 0, none⟩) its.length ci)) := by
  unfold VRep
  exact ⟨nm, _, ci, rfl, hN, hl, .inr ⟨gi, 0, rfl, hg, ItemsRep.list its xs 0 hI hc⟩⟩
theorem strs_take (ns : List ByteArray) (n : Nat) : (strs ns).take n = strs (ns.take n) := by unfold strs; rw [List.map_take]
/-- The row of an answer, as it is read. -/
theorem with_fin {w0 w W : World} {S : Nat → Prop} {k : Int} {ns : List ByteArray} {its : List Tr} {nm : Value} {gi ci : Nat} {xs : List Value} (h0 : Below w0.heap.size w0 w) (hS : ∀ k, k < w0.heap.size → S k) (hB : Below w.heap.size w W)
    (hrow : W.ownsRow w.heap.size 25 5 (.slice (some ⟨gi, 0, none⟩) its.length ci) its.length xs) (hN : SeenR W (fun k => w.heap.size ≤ k) nm ns)
    (hI : ∀ W', (∀ p u, w0.cell? p = some u → W'.cell? p = some u) → w0.heap.size ≤ W'.heap.size → Agree (fun k => S k ∨ w.heap.size ≤ k) W W' → ItemsRep W' its xs) :
    Seen W (fun k => S k ∨ w.heap.size ≤ k) (.node k 0 ⟨#[]⟩ ns its) (five k 0 ⟨#[]⟩ nm (.slice (some ⟨gi, 0, none⟩) its.length ci)) := fun W' ha => by
  obtain ⟨hc, hlt, hge, hle⟩ := owns_cells hrow
  refine vrep_make (lo := 0) (hN W' ⟨ha.1, fun p u hp hc => ha.2 p u (.inr hp) hc⟩) (hI W' (fun p u hc => ?_) (Nat.le_trans h0.size (Nat.le_trans hB.size ha.1)) ha) (fun j u hj => ha.2 _ _ (.inr hge) (hc j u hj)) (row_cap hrow) (Nat.lt_of_lt_of_le hlt ha.1) (Nat.zero_le _)
  have hl := cell_lt hc
  exact ha.2 p u (.inl (hS _ hl)) ((hB.cell (Nat.lt_of_lt_of_le hl h0.size)).trans ((h0.cell hl).trans hc))
end Go.Proofs.Ythebilggokpciaa
