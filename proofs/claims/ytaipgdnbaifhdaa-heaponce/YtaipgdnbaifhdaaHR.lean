import Derived.Test.YtaipgdnbaifhdaaHO
/-! HeapOnce: plain theory. -/
namespace Go.Proofs.Ytaipgdnbaifhdaa
open Go Go.RowKit
/-- A Ref that was told, its value, whether it is gone. -/
structure Tk where
  u : Int × Int
  v : Int
  g : Bool
/-- What HeapOnce asks of a heap's nodes, its stack and what was told. -/
structure OInv (ns : List Nd) (st : List Int) (tv : List Tk) : Prop where
  dead : ∀ x ∈ st, ∃ (k : Nat) (y : Nd), x = (k : Int) + 1 ∧ ns[k]? = some y ∧ y.live = false
  nod : st.Nodup
  tok : ∀ t ∈ tv, ∃ (k : Nat) (y : Nd), t.u.1 = (k : Int) + 1 ∧ ns[k]? = some y ∧ t.u.2 ≤ y.gen ∧ (y.live = false → t.u.2 < y.gen) ∧ (t.g = !(y.live && decide (y.gen = t.u.2))) ∧ (t.g = false → t.v = y.val)
theorem OInv.zero : OInv [] [] [] := ⟨(fun x hx => by cases hx), List.nodup_nil, (fun t ht => by cases ht)⟩
theorem set_at {ns : List Nd} {k : Nat} {x z : Nd} (hx : ns[k]? = some x) : (ns.set k z)[k]? = some z := by
  rw [List.getElem?_set_self (List.getElem?_eq_some_iff.1 hx).1]
theorem set_off {ns : List Nd} {k j : Nat} {z y : Nd} (hj : ns[j]? = some y) (h : k ≠ j) : (ns.set k z)[j]? = some y := by
  rw [List.getElem?_set_ne h]; exact hj
theorem OInv.fresh {ns : List Nd} {st : List Int} {tv : List Tk} {k : Nat} {x : Nd} (h : OInv ns (((k : Int) + 1) :: st) tv) (hx : ns[k]? = some x) : x.live = false ∧ ∀ t ∈ tv, ¬ (t.u.1 = (k : Int) + 1 ∧ t.u.2 = x.gen) := by
  obtain ⟨k', y, h1, h2, h3⟩ := h.dead _ (List.mem_cons_self ..)
  obtain rfl : k = k' := by omega
  rw [hx] at h2
  cases h2
  refine ⟨h3, fun t ht ⟨e1, e2⟩ => ?_⟩
  obtain ⟨j, z, g1, g2, g3, g4, -, -⟩ := h.tok t ht
  obtain rfl : k = j := by omega
  rw [hx] at g2
  cases g2
  have := g4 h3
  omega
theorem OInv.again {ns : List Nd} {st : List Int} {tv : List Tk} {k : Nat} {x : Nd} (h : OInv ns (((k : Int) + 1) :: st) tv) (hx : ns[k]? = some x) (v : Int) : OInv (ns.set k ⟨x.gen, true, v⟩) st (tv ++ [⟨((k : Int) + 1, x.gen), v, false⟩]) := by
  obtain ⟨hd, hf⟩ := h.fresh hx
  have hn := List.nodup_cons.1 h.nod
  refine ⟨fun z hz => ?_, hn.2, fun t ht => ?_⟩
  · obtain ⟨j, y, h1, h2, h3⟩ := h.dead z (List.mem_cons_of_mem _ hz)
    exact ⟨j, y, h1, set_off h2 (fun e => hn.1 (by subst e; rw [← h1]; exact hz)), h3⟩
  · rcases List.mem_append.1 ht with ht | ht
    · obtain ⟨j, z, g1, g2, g3, g4, g5, g6⟩ := h.tok t ht
      by_cases e : k = j
      · subst e
        rw [hx] at g2
        cases g2
        have hne : ¬ x.gen = t.u.2 := fun e => hf t ht ⟨g1, e.symm⟩
        rw [hd] at g5
        have g5' : t.g = true := by simpa using g5
        exact ⟨k, _, g1, set_at hx, g3, (fun e => by cases e), by simp [g5', hne], fun e => by rw [g5'] at e; cases e⟩
      · exact ⟨j, z, g1, set_off g2 e, g3, g4, g5, g6⟩
    · have ht := List.mem_singleton.1 ht
      subst ht
      exact ⟨k, _, rfl, set_at hx, Int.le_refl _, (fun e => by cases e), by simp, fun _ => rfl⟩
theorem OInv.freshM {ns : List Nd} {st : List Int} {tv : List Tk} (h : OInv ns st tv) : ∀ t ∈ tv, ¬ (t.u.1 = (ns.length : Int) + 1 ∧ t.u.2 = 1) := fun t ht ⟨e1, _⟩ => by
  obtain ⟨j, z, g1, g2, -⟩ := h.tok t ht
  have := (List.getElem?_eq_some_iff.1 g2).1
  omega
theorem OInv.make {ns : List Nd} {st : List Int} {tv : List Tk} (h : OInv ns st tv) (v : Int) : OInv (ns ++ [⟨1, true, v⟩]) st (tv ++ [⟨((ns.length : Int) + 1, 1), v, false⟩]) := by
  have keep : ∀ {j : Nat} {y : Nd}, ns[j]? = some y → (ns ++ [(⟨1, true, v⟩ : Nd)])[j]? = some y := fun {j y} e => by rw [List.getElem?_append_left (List.getElem?_eq_some_iff.1 e).1]; exact e
  refine ⟨fun z hz => ?_, h.nod, fun t ht => ?_⟩
  · obtain ⟨j, y, h1, h2, h3⟩ := h.dead z hz
    exact ⟨j, y, h1, keep h2, h3⟩
  · rcases List.mem_append.1 ht with ht | ht
    · obtain ⟨j, z, g1, g2, g3⟩ := h.tok t ht
      exact ⟨j, z, g1, keep g2, g3⟩
    · have ht := List.mem_singleton.1 ht
      subst ht
      exact ⟨ns.length, ⟨1, true, v⟩, rfl, by rw [List.getElem?_append_right (Nat.le_refl _)]; simp, Int.le_refl _, (fun e => by cases e), by simp, fun _ => rfl⟩
/-- A Ref goes. -/
def goneT (r : Int × Int) (t : Tk) : Tk := ⟨t.u, t.v, t.g || (decide (t.u.1 = r.1) && decide (t.u.2 = r.2))⟩
theorem OInv.free {ns : List Nd} {st : List Int} {tv : List Tk} {k : Nat} {g v : Int} (h : OInv ns st tv) (hx : ns[k]? = some ⟨g, true, v⟩) : OInv (ns.set k ⟨g + 1, false, 0⟩) (((k : Int) + 1) :: st) (tv.map (goneT ((k : Int) + 1, g))) := by
  have hni : ((k : Int) + 1) ∉ st := fun e => by
    obtain ⟨j, y, h1, h2, h3⟩ := h.dead _ e
    obtain rfl : k = j := by omega
    rw [hx] at h2
    cases h2
    cases h3
  refine ⟨fun z hz => ?_, List.nodup_cons.2 ⟨hni, h.nod⟩, fun t ht => ?_⟩
  · rcases List.mem_cons.1 hz with rfl | hz
    · exact ⟨k, _, rfl, set_at hx, rfl⟩
    · obtain ⟨j, y, h1, h2, h3⟩ := h.dead z hz
      exact ⟨j, y, h1, set_off h2 (fun e => hni (by subst e; rw [← h1]; exact hz)), h3⟩
  · obtain ⟨s, hs, rfl⟩ := List.mem_map.1 ht
    obtain ⟨j, z, g1, g2, g3, g4, g5, g6⟩ := h.tok s hs
    by_cases e : k = j
    · subst e
      rw [hx] at g2
      cases g2
      simp only at g3 g5
      have hg : (goneT ((k : Int) + 1, g) s).g = true := by
        unfold goneT
        simp only
        by_cases e2 : s.u.2 = g
        · simp [g1, e2]
        · have : ¬ g = s.u.2 := fun e => e2 e.symm
          simp [g5, this]
      exact ⟨k, _, g1, set_at hx, by simp only [goneT]; omega, (fun _ => by simp only [goneT]; omega), by rw [hg]; simp, fun e => by rw [hg] at e; cases e⟩
    · have hne : ¬ s.u.1 = (k : Int) + 1 := by omega
      have hg : goneT ((k : Int) + 1, g) s = s := by unfold goneT; simp [hne]
      rw [hg]
      exact ⟨j, z, g1, set_off g2 e, g3, g4, g5, g6⟩
theorem OInv.told {ns : List Nd} {st : List Int} {tv : List Tk} (h : OInv ns st tv) {t : Tk} (ht : t ∈ tv) : isLive ns t.u.1 t.u.2 = !t.g ∧ valOf ns t.u.1 t.u.2 = if t.g then 0 else t.v := by
  obtain ⟨j, z, g1, g2, g3, g4, g5, g6⟩ := h.tok t ht
  unfold isLive valOf
  rw [g1, nodeAt_nat g2]
  simp only
  rw [g5]
  refine ⟨by simp, ?_⟩
  cases hb : (z.live && decide (z.gen = t.u.2)) with
  | true => rw [hb] at g5; simp at g5; simp [g6 g5]
  | false => simp
theorem OInv.no {ns : List Nd} {st : List Int} {tv : List Tk} (h : OInv ns st tv) {r : Int × Int} (hr : isLive ns r.1 r.2 = false) : tv.map (goneT r) = tv := by
  refine (List.map_congr_left (g := id) fun t ht => ?_).trans (List.map_id _)
  show goneT r t = t
  unfold goneT
  by_cases e : t.u.1 = r.1 ∧ t.u.2 = r.2
  · have := (h.told ht).1
    rw [e.1, e.2, hr] at this
    have hg : t.g = true := by simpa using this.symm
    rw [hg, Bool.true_or, ← hg]
  · have : (decide (t.u.1 = r.1) && decide (t.u.2 = r.2)) = false := by
      simp only [Bool.and_eq_false_iff, decide_eq_false_iff_not]
      by_cases e1 : t.u.1 = r.1
      · exact .inr fun e2 => e ⟨e1, e2⟩
      · exact .inl e1
    rw [this, Bool.or_false]
/-- The list of what is gone, k Refs looked at. -/
def GoneK (r : Int × Int) (k : Nat) (tv : List Tk) (gl : List Bool) : Prop := gl.length = tv.length ∧ ∀ (j : Nat) t, tv[j]? = some t → gl[j]? = some (t.g || (decide (j < k) && (decide (t.u.1 = r.1) && decide (t.u.2 = r.2))))
theorem GoneK.zero (r : Int × Int) (tv : List Tk) : GoneK r 0 tv (tv.map (·.g)) := ⟨by simp, fun j t h => by rw [List.getElem?_map, h]; simp⟩
theorem GoneK.skip {r : Int × Int} {k : Nat} {tv : List Tk} {gl : List Bool} (h : GoneK r k tv gl) {t : Tk} (ht : tv[k]? = some t) (hn : (decide (t.u.1 = r.1) && decide (t.u.2 = r.2)) = false) : GoneK r (k + 1) tv gl := ⟨h.1, fun j s hs => by
  rw [h.2 j s hs]
  by_cases e : j = k
  · subst e
    rw [ht] at hs
    cases hs
    simp only [hn, Bool.and_false]
  · have : decide (j < k + 1) = decide (j < k) := decide_eq_decide.2 (by omega)
    rw [this]⟩
theorem GoneK.mark {r : Int × Int} {k : Nat} {tv : List Tk} {gl : List Bool} (h : GoneK r k tv gl) {t : Tk} (ht : tv[k]? = some t) (hn : (decide (t.u.1 = r.1) && decide (t.u.2 = r.2)) = true) : GoneK r (k + 1) tv (gl.set k true) := ⟨by rw [List.length_set]; exact h.1, fun j s hs => by
  by_cases e : j = k
  · subst e
    rw [ht] at hs
    cases hs
    rw [List.getElem?_set_self (by rw [h.1]; exact (List.getElem?_eq_some_iff.1 ht).1), hn]
    simp
  · have : decide (j < k + 1) = decide (j < k) := decide_eq_decide.2 (by omega)
    rw [List.getElem?_set_ne (fun e' => e e'.symm), h.2 j s hs, this]⟩
theorem GoneK.at {r : Int × Int} {k : Nat} {tv : List Tk} {gl : List Bool} (h : GoneK r k tv gl) {t : Tk} (ht : tv[k]? = some t) : gl[k]? = some t.g := by
  rw [h.2 k t ht]; simp
theorem GoneK.all {r : Int × Int} {tv : List Tk} {gl : List Bool} (h : GoneK r tv.length tv gl) : gl = (tv.map (goneT r)).map (·.g) := by
  refine List.ext_getElem? fun j => ?_
  rw [List.getElem?_map, List.getElem?_map]
  cases hj : tv[j]? with
  | none => rw [List.getElem?_eq_none (by rw [h.1]; exact List.getElem?_eq_none_iff.1 hj)]; rfl
  | some t =>
    have := (List.getElem?_eq_some_iff.1 hj).1
    rw [h.2 j t hj]
    simp [goneT, this]
end Go.Proofs.Ytaipgdnbaifhdaa
