import Derived.Test.YtbhjbicbgmeboaaA8
import Derived.Test.YtbhjbicbgmeboaaQA
import Derived.Maps.OwnSet
import Derived.DeepKeys4
/-! The tree in memory. -/
namespace Go.Proofs.Ytbhjbicbgmeboaa
open Go Go.RowKit

theorem tree_laid : laidOutB Try.prog = true := by kernel_rfl
theorem step_row : (92 : TypeId) < Try.prog.types.size := of_decide_eq_true (by kernel_rfl)
theorem step_wide : (match Try.prog.underlying 92 with | some (.array _ _) | some (.struct _) => true | _ => false) = true := by rw [Try.underlying92]
theorem step_law : Go.Maps.Keyed Try.prog 92 := Go.Maps.Keyed.of_law (deep_law_laid tree_laid (m := 2) (by omega) step_row (by kernel_rfl) step_wide)
def keyV (i : Nat) (s : ByteArray) : Value := .agg #[.int .i64 i, .string s]
def kl (i : Nat) (s : ByteArray) : Lit := .string (keyBytes [.int .i64 i, .string s.data.toList])
theorem step_cells : Try.prog.cellsOf 92 = 2 := by kernel_rfl
theorem int_cells : Try.prog.cellsOf 3 = 1 := by kernel_rfl
theorem str_cells : Try.prog.cellsOf 9 = 1 := by kernel_rfl
theorem types_two : ∃ d, Try.prog.types.size + 1 = d + 2 := ⟨Try.prog.types.size - 1, by have h : (92 : Nat) < Try.prog.types.size := step_row; omega⟩
theorem step_kt : Try.prog.keyType 92 = true := by kernel_rfl
theorem key_lits (d i : Nat) (s : ByteArray) (hi : i ≤ 1099511627776) (hs : s.size ≤ maxLen) : Try.prog.keyLits (d + 2) 92 [.int .i64 i, .string s] = some [.int .i64 i, .string s.data.toList] := by
  have hw : (Lit.int .i64 (i : Int)).wf = true := by
    have h1 : IntKind.i64.min = -9223372036854775808 := by decide
    have h2 : IntKind.i64.max = 9223372036854775807 := by decide
    simp [Lit.wf, h1, h2]; omega
  unfold Program.keyLits
  rw [Try.underlying92]
  simp [step_cells, int_cells, str_cells, Program.keyLits, Try.underlying3, Try.underlying9, hw, hs]
theorem key_of {i : Nat} {s : ByteArray} (hi : i ≤ 1099511627776) (hs : s.size ≤ maxLen) : keyOf Try.prog 92 (keyV i s) = some (kl i s) := by
  obtain ⟨d, hd⟩ := types_two
  unfold keyOf
  rw [Try.underlying92]
  have hf : (keyV i s).formed Try.prog 92 = true := by
    unfold keyV Value.formed
    simp [Try.underlying92, step_cells]
  simp only [step_kt, hf, Bool.and_self, if_true, hd]
  have hc : (keyV i s).cells.toList = [.int .i64 i, .string s] := by simp [keyV, Value.cells]
  rw [hc, key_lits d i s hi hs]
  rfl
theorem kl_inj {i j : Nat} {s u : ByteArray} (hi : i ≤ 1099511627776) (hs : s.size ≤ maxLen) (hj : j ≤ 1099511627776) (hu : u.size ≤ maxLen) (h : kl i s = kl j u) : i = j ∧ s = u := by
  have h1 := key_of hi hs
  have h2 := key_of hj hu
  rw [← h] at h2
  have := step_law.inj h1 h2
  simp [keyV] at this
  exact ⟨by omega, this.2⟩
theorem kl_key (i : Nat) (s : ByteArray) : WideAt.IsKeyLit (kl i s) := trivial
/-- What the map of steps tells. -/
structure MapIs (P : List Pth) (D : DataW Unit) : Prop where
  out : ∀ (i : Nat) (s : ByteArray), i ≤ 1099511627776 → s.size ≤ maxLen → P[i]? = none → Maps.has D (kl i s) = false
  hit : ∀ (i : Nat) (s : ByteArray) a (j : Nat), i ≤ 1099511627776 → s.size ≤ maxLen → P[i]? = some a → P[j]? = some (a ++ [s]) → Maps.has D (kl i s) = true ∧ D.atKey (kl i s) (.lit (.int .i64 0)) = .lit (.int .i64 j)
  miss : ∀ (i : Nat) (s : ByteArray) a, i ≤ 1099511627776 → s.size ≤ maxLen → P[i]? = some a → a ++ [s] ∉ P → Maps.has D (kl i s) = false
theorem mapis_init : MapIs [[]] (.map []) where
  out := fun _ _ _ _ _ => rfl
  hit := fun i s a j _ _ h h2 => by
    cases j with
    | zero => simp at h2
    | succ j => simp at h2
  miss := fun _ _ _ _ _ _ _ => rfl
theorem MapIs.put {P : List Pth} {D : DataW Unit} {cur : Pth} {s : ByteArray} {i : Nat} (h : MapIs P D) (hD : Maps.IsMap D) (hi : P[i]? = some cur) (hn : cur ++ [s] ∉ P) (hnd : (P ++ [cur ++ [s]]).Nodup) (hnp : P.Nodup) (hkid : ∀ u, cur ++ [s] ++ [u] ∉ P ++ [cur ++ [s]]) (hil : i ≤ 1099511627776) (hs : s.size ≤ maxLen) :
    MapIs (P ++ [cur ++ [s]]) (D.put (kl i s) (.lit (.int .i64 P.length))) := by
  have hip : i < P.length := (List.getElem?_eq_some_iff.1 hi).1
  have hnth : ∀ (j : Nat) a, (P ++ [cur ++ [s]])[j]? = some a → (j = P.length ∧ a = cur ++ [s]) ∨ P[j]? = some a := fun j a hj => by
    by_cases hjl : j < P.length
    · rw [List.getElem?_append_left hjl] at hj; exact .inr hj
    · have hlt := (List.getElem?_eq_some_iff.1 hj).1
      simp at hlt
      have : j = P.length := by omega
      subst this
      simp at hj
      exact .inl ⟨rfl, hj.symm⟩
  have hne : ∀ (i' : Nat) (s' : ByteArray), i' ≤ 1099511627776 → s'.size ≤ maxLen → ¬ (i' = i ∧ s' = s) → kl i' s' ≠ kl i s := fun i' s' h1 h2 h3 e => h3 (kl_inj h1 h2 hil hs e)
  refine ⟨fun i' s' h1 h2 h3 => ?_, fun i' s' a j h1 h2 h3 h4 => ?_, fun i' s' a h1 h2 h3 h4 => ?_⟩
  · have hP : P.length < i' := by
      rw [List.getElem?_eq_none_iff] at h3; simp at h3; omega
    rw [Maps.has_put_other (hne i' s' h1 h2 (by omega))]
    exact h.out i' s' h1 h2 (List.getElem?_eq_none (by omega))
  · by_cases hsm : i' = i ∧ s' = s
    · obtain ⟨rfl, rfl⟩ := hsm
      rw [List.getElem?_append_left hip, hi] at h3
      cases h3
      have hj : j = P.length := nodup_at hnd h4 (by simp)
      subst hj
      exact ⟨Maps.has_put_same hD (kl_key _ _) _, Maps.atKey_put_same hD (kl_key _ _) _ _⟩
    · rw [Maps.has_put_other (hne i' s' h1 h2 hsm), Maps.atKey_put_other (hne i' s' h1 h2 hsm)]
      rcases hnth i' a h3 with ⟨_, rfl⟩ | h3'
      · exact absurd (List.mem_of_getElem? h4) (hkid s')
      · rcases hnth j _ h4 with ⟨_, e⟩ | h4
        · obtain ⟨e1, e2⟩ := List.append_inj' e rfl
          rw [e1] at h3'
          exact absurd ⟨nodup_at hnp h3' hi, by simpa using e2⟩ hsm
        · exact h.hit i' s' a j h1 h2 h3' h4
  · have hsm : ¬ (i' = i ∧ s' = s) := by
      rintro ⟨rfl, rfl⟩
      rw [List.getElem?_append_left hip, hi] at h3
      cases h3
      exact h4 (by simp)
    rw [Maps.has_put_other (hne i' s' h1 h2 hsm)]
    rcases hnth i' a h3 with ⟨rfl, _⟩ | h3
    · exact h.out _ s' h1 h2 (List.getElem?_eq_none (Nat.le_refl _))
    · exact h.miss i' s' a h1 h2 h3 (fun hm => h4 (List.mem_append_left _ hm))
theorem Inv.kid {L : List Pth} {cur : Pth} {P : List Pth} {E : List (Bool × Bool)} (h : Inv L cur P E) {s : ByteArray} (hn : cur ++ [s] ∉ P) : ∀ u, cur ++ [s] ++ [u] ∉ P ++ [cur ++ [s]] := fun u hu => by
  rcases List.mem_append.1 hu with hu | hu
  · rcases h.src _ hu with h1 | ⟨q, hq, h1⟩ | h1
    · simp at h1
    · exact hn (h.closed q hq _ ((List.prefix_append _ _).trans h1))
    · have := h1.length_le; simp at this; omega
  · have := congrArg List.length (List.mem_singleton.1 hu)
    simp at this
/-- The cells of the nodes. -/
def flat (E : List (Bool × Bool)) : List Value := E.flatMap fun e => [.bool e.1, .bool e.2]
theorem flat_len (E : List (Bool × Bool)) : (flat E).length = E.length * 2 := by
  induction E with
  | nil => rfl
  | cons a E ih => simp [flat] at ih ⊢; omega
theorem flat_at : (E : List (Bool × Bool)) → (i : Nat) → (e : Bool × Bool) → E[i]? = some e → (flat E)[i * 2]? = some (.bool e.1) ∧ (flat E)[i * 2 + 1]? = some (.bool e.2)
  | [], _, _, h => by simp at h
  | a :: E, 0, e, h => by simp at h; subst h; simp [flat]
  | a :: E, i + 1, e, h => by
    have := flat_at E i e (by simpa using h)
    simp only [flat, List.flatMap_cons] at this ⊢
    rw [show (i + 1) * 2 = i * 2 + 2 by omega, show i * 2 + 2 + 1 = (i * 2 + 1) + 2 by omega]
    rw [List.getElem?_append_right (by simp), List.getElem?_append_right (by simp)]
    simpa using this
theorem flat_set1 : (E : List (Bool × Bool)) → (i : Nat) → (e : Bool × Bool) → (x : Bool) → E[i]? = some e → (flat E).set (i * 2) (.bool x) = flat (E.set i (x, e.2))
  | [], _, _, _, h => by simp at h
  | a :: E, 0, e, x, h => by simp at h; subst h; simp [flat]
  | a :: E, i + 1, e, x, h => by
    have := flat_set1 E i e x (by simpa using h)
    rw [show (i + 1) * 2 = i * 2 + 1 + 1 by omega]
    simpa [flat] using this
theorem flat_set2 : (E : List (Bool × Bool)) → (i : Nat) → (e : Bool × Bool) → (x : Bool) → E[i]? = some e → (flat E).set (i * 2 + 1) (.bool x) = flat (E.set i (e.1, x))
  | [], _, _, _, h => by simp at h
  | a :: E, 0, e, x, h => by simp at h; subst h; simp [flat]
  | a :: E, i + 1, e, x, h => by
    have := flat_set2 E i e x (by simpa using h)
    rw [show (i + 1) * 2 + 1 = (i * 2 + 1) + 1 + 1 by omega]
    simpa [flat] using this
theorem flat_snoc (E : List (Bool × Bool)) : flat (E ++ [(false, false)]) = flat E ++ [.bool false, .bool false] := by simp [flat]
/-- A cell of a row is written. -/
theorem ownsRow_set {w : World} {lo : Nat} {e : TypeId} {size n g cap : Nat} {xs : List Value} (h : w.ownsRow lo e size (.slice (some ⟨g, 0, none⟩) n cap) n xs) (k : Nat) (u : Value) : (w.setCell ⟨g, k, none⟩ u).ownsRow lo e size (.slice (some ⟨g, 0, none⟩) n cap) n (xs.set k u) := by
  obtain ⟨h1, h2⟩ := h
  refine ⟨by simpa using h1, ?_⟩
  rcases h2 with ⟨hv, _⟩ | ⟨g', cap', cur, hv, hg, hh, hc, hm, hs, hr⟩
  · cases hv
  · cases hv
    refine .inr ⟨g, cap, cur.setIfInBounds k u, rfl, hg, ?_, hc, hm, by simpa using hs, ?_⟩
    · simp [World.setCell, Array.getElem?_modify, hh]
    · rw [Array.toList_setIfInBounds, List.take_set, hr]
theorem ownsRow_cell {w : World} {lo : Nat} {e : TypeId} {size n g cap : Nat} {xs : List Value} (h : w.ownsRow lo e size (.slice (some ⟨g, 0, none⟩) n cap) n xs) {k : Nat} {u : Value} (hk : xs[k]? = some u) : w.cell? ⟨g, k, none⟩ = some u := by
  obtain ⟨h1, h2⟩ := h
  rcases h2 with ⟨hv, _⟩ | ⟨g', cap', cur, hv, hg, hh, hc, hm, hs, hr⟩
  · cases hv
  · cases hv
    have hlt : k < n * size := by have := (List.getElem?_eq_some_iff.1 hk).1; omega
    rw [← hr, List.getElem?_take_of_lt hlt, Array.getElem?_toList] at hk
    simp [World.cell?, hh, hk]
/-- The tree lies in the box tb; its map in mb, its nodes are nv. -/
structure TreeAt (w : World) (base tb mb nb cap : Nat) (D : DataW Unit) (P : List Pth) (E : List (Bool × Bool)) : Prop where
  box : w.heap[tb]? = some (.cells #[.map (some mb), .slice (some ⟨nb, 0, none⟩) E.length cap] 79 (0, 0))
  map : w.ownsMap Try.prog 92 (plainElem Try.prog 3) mb P.length D
  row : w.ownsRow base 81 2 (.slice (some ⟨nb, 0, none⟩) E.length cap) E.length (flat E)
  lo : base ≤ tb ∧ base ≤ mb
  look : MapIs P D
theorem TreeAt.apart {w : World} {base tb mb nb cap : Nat} {D : DataW Unit} {P : List Pth} {E : List (Bool × Bool)} (h : TreeAt w base tb mb nb cap D P E) : tb ≠ mb ∧ tb ≠ nb ∧ mb ≠ nb ∧ base ≤ nb ∧ nb < w.heap.size ∧ tb < w.heap.size ∧ mb < w.heap.size ∧ E.length ≤ cap ∧ cap ≤ maxLen := by
  have hb := h.box
  have hlm := h.map.lt
  obtain ⟨es, cl, hm, _⟩ := h.map
  obtain ⟨_, h2⟩ := h.row
  rcases h2 with ⟨hv, _⟩ | ⟨g', cap', cur, hv, hg, hh, hc, hmx, hs, hr⟩
  · cases hv
  · cases hv
    refine ⟨fun e => ?_, fun e => ?_, fun e => ?_, hg, (Array.getElem?_eq_some_iff.1 hh).1, (Array.getElem?_eq_some_iff.1 hb).1, hlm, hc, hmx⟩
    · subst e; rw [hb] at hm; cases hm
    · subst e; rw [hb] at hh; simp at hh
    · subst e; rw [hm] at hh; cases hh
/-- Below base nothing of the tree lies. -/
theorem TreeAt.kept {w w' : World} {base tb mb nb cap : Nat} {D : DataW Unit} {P : List Pth} {E : List (Bool × Bool)} (h : TreeAt w base tb mb nb cap D P E) (hk : Below w.heap.size w w') : TreeAt w' base tb mb nb cap D P E := by
  obtain ⟨_, _, _, _, h5, h6, h7, _⟩ := h.apart
  refine ⟨(hk.block _ h6).trans h.box, ?_, ownsRow_keep h.row (fun g hg => by cases hg; exact hk.block _ h5), h.lo, h.look⟩
  obtain ⟨es, cl, hm, r⟩ := h.map
  exact ⟨es, cl, (hk.block _ h7).trans hm, r⟩
end Go.Proofs.Ytbhjbicbgmeboaa
