import Derived.Test.YtmlbofbnklmedaaP3
/-! What a change of one place leaves as it was, plain. -/
namespace Go.Proofs.Ytmlbofbnklmedaa
open Go Go.RowKit

def hasT (t : Tr) (s : ByteArray) : Prop := placeB t.kind t.names t.items.length s = true
theorem get_has {t : Tr} {s : ByteArray} {r : List ByteArray} (h : hasT t s) : getT t (s :: r) = getT (itemOr t s) r := by
  obtain ⟨i, hi, hlt⟩ := placeB_true h
  have hu : t.items[i]? = some t.items[i] := List.getElem?_eq_getElem hlt
  rw [getT_some h hi hu]
  unfold itemOr
  rw [placeT_some h hi]
  simp [List.getD_eq_getElem?_getD, hlt]
theorem get_not {t : Tr} {s : ByteArray} {r : List ByteArray} (h : ¬ hasT t s) : getT t (s :: r) = none := getT_none (Bool.eq_false_iff.2 h)
theorem not_has_item {t : Tr} {s : ByteArray} (h : ¬ hasT t s) : itemOr t s = emptyO := by
  unfold itemOr
  rw [placeT_none (Bool.eq_false_iff.2 h)]
theorem empty_none {s : ByteArray} {r : List ByteArray} : getT emptyO (s :: r) = none := get_not (by unfold hasT; rw [show emptyO.kind = 6 from rfl, place_objN (by simp [emptyO, Tr.names])]; simp)
/-- An object's names are unlike, and as many as its items. -/
def TopT : Tr → Prop
  | .node k _ _ ns its => (k = 6 → ns.length = its.length) ∧ Uniq ns
theorem top_of {t : Tr} (h : KnownT t) : TopT t := by
  cases t
  unfold KnownT at h
  unfold TopT
  exact ⟨h.1, h.2.1⟩
/-- The four shapes of a change of one item, whatever its items are. -/
theorem top_cases {t : Tr} {s : ByteArray} (hk : TopT t) (hc : canT t s) :
    (t.kind = 6 ∧ ∃ i : Nat, t.names[i]? = some s ∧ i < t.items.length ∧ t.items[i]? = some (itemOr t s) ∧ ∀ u, putT t s u = .node 6 0 ⟨#[]⟩ t.names (t.items.set i u)) ∨
    (t.kind = 6 ∧ ¬ s ∈ t.names ∧ itemOr t s = emptyO ∧ ∀ u, putT t s u = .node 6 0 ⟨#[]⟩ (t.names ++ [s]) (t.items ++ [u])) ∨
    (t.kind = 5 ∧ ∃ i : Nat, idx s = some i ∧ i < t.items.length ∧ t.items[i]? = some (itemOr t s) ∧ ∀ u, putT t s u = .node 5 0 ⟨#[]⟩ [] (t.items.set i u)) ∨
    (t.kind = 5 ∧ idx s = some t.items.length ∧ itemOr t s = emptyO ∧ ∀ u, putT t s u = .node 5 0 ⟨#[]⟩ [] (t.items ++ [u])) := by
  obtain ⟨k, x, tx, ns, its⟩ := t
  unfold TopT at hk
  obtain ⟨h1, h2⟩ := hk
  simp only [Tr.kind, Tr.names, Tr.items]
  by_cases h6 : k = 6
  · subst h6
    have hl := h1 rfl
    have hkn : keepNs 6 ns its = ns := by unfold keepNs; rw [if_pos rfl, List.take_of_length_le (by omega)]
    have hki : keepIts 6 ns its = its := by unfold keepIts; rw [if_pos rfl, List.take_of_length_le (by omega)]
    by_cases hm : s ∈ ns
    · left
      obtain ⟨i, hi⟩ := mem_at hm
      have hlt := (List.getElem?_eq_some_iff.1 hi).1
      obtain ⟨p1, p2⟩ := place_obj h2 hl hi
      have hpt : placeT (.node 6 x tx ns its) s = some i := placeT_some p1 p2
      refine ⟨rfl, i, hi, by omega, ?_, fun u => ?_⟩
      · unfold itemOr; rw [hpt]; simp [Tr.items, List.getD_eq_getElem?_getD, show i < its.length by omega]
      · unfold putT withT
        rw [hpt]
        simp only [Tr.kind, Tr.names, Tr.items, hkn, hki, Option.getD_some]
        rw [if_pos (by omega)]
    · right; left
      have hpt : placeT (.node 6 x tx ns its) s = none := placeT_none (place_objN hm)
      refine ⟨rfl, hm, by unfold itemOr; rw [hpt], fun u => ?_⟩
      unfold putT withT
      rw [hpt]
      simp only [Tr.kind, Tr.names, Tr.items, hkn, hki, Option.getD_none]
      rw [if_neg (by omega)]
      simp
  · have hki : keepIts k ns its = its := by unfold keepIts; rw [if_neg h6]
    have hkn : keepNs k ns its = [] := by unfold keepNs; rw [if_neg h6]
    unfold canT at hc
    simp only [Tr.kind, Tr.names, Tr.items] at hc
    have h5 : k = 5 := by
      rcases hc with hc | hc | hc
      · unfold placeB at hc; rw [if_neg h6] at hc
        by_cases h5 : k = 5
        · exact h5
        · rw [if_neg h5] at hc; cases hc
      · exact absurd hc h6
      · exact hc.1
    subst h5
    right; right
    by_cases hp : placeB 5 ns its.length s = true
    · left
      obtain ⟨i, hi, hlt⟩ := place_list.1 hp
      have hpt : placeT (.node 5 x tx ns its) s = some i := placeT_some hp (placeI_list hi)
      refine ⟨rfl, i, hi, hlt, ?_, fun u => ?_⟩
      · unfold itemOr; rw [hpt]; simp [Tr.items, List.getD_eq_getElem?_getD, hlt]
      · unfold putT withT
        rw [hpt]
        simp only [Tr.kind, Tr.names, Tr.items, hkn, hki, Option.getD_some]
        rw [if_pos hlt]
    · right
      have hpt : placeT (.node 5 x tx ns its) s = none := placeT_none (Bool.eq_false_iff.2 hp)
      have hi : idx s = some its.length := by
        rcases hc with hc | hc | hc
        · exact absurd hc hp
        · exact absurd hc (by omega)
        · exact hc.2
      refine ⟨rfl, hi, by unfold itemOr; rw [hpt], fun u => ?_⟩
      unfold putT withT
      rw [hpt]
      simp only [Tr.kind, Tr.names, Tr.items, hkn, hki, Option.getD_none]
      rw [if_neg (by omega), if_neg (by omega)]
theorem has_top {x : Int} {tx : ByteArray} {ns : List ByteArray} {its : List Tr} {s : ByteArray} (hk : TopT (.node 6 x tx ns its)) : hasT (.node 6 x tx ns its) s ↔ s ∈ ns := by
  unfold TopT at hk
  constructor
  · intro h
    apply Classical.byContradiction
    intro hn
    unfold hasT at h
    simp only [Tr.kind, Tr.names, Tr.items] at h
    rw [place_objN hn] at h
    cases h
  · intro h
    obtain ⟨i, hi⟩ := mem_at h
    exact (place_obj hk.2 (hk.1 rfl) hi).1
theorem has_obj {x : Int} {tx : ByteArray} {ns : List ByteArray} {its : List Tr} {s : ByteArray} (hk : KnownT (.node 6 x tx ns its)) : hasT (.node 6 x tx ns its) s ↔ s ∈ ns := has_top (top_of hk)
theorem has_list {x : Int} {tx : ByteArray} {ns : List ByteArray} {its : List Tr} {s : ByteArray} : hasT (.node 5 x tx ns its) s ↔ ∃ i, idx s = some i ∧ i < its.length := place_list
theorem has_can {t : Tr} {s : ByteArray} (h : hasT t s) : canT t s := .inl h
theorem item_eq {x : Int} {tx : ByteArray} {ns : List ByteArray} {its : List Tr} {k : Int} {s : ByteArray} {i : Nat} {v : Tr} (h : placeB k ns its.length s = true) (hi : placeI k ns s = i) (hv : its[i]? = some v) : itemOr (.node k x tx ns its) s = v := by
  unfold itemOr
  rw [placeT_some (t := .node k x tx ns its) h hi]
  simp [Tr.items, List.getD_eq_getElem?_getD, hv]
theorem put_top {t u : Tr} {s : ByteArray} (hk : TopT t) (hc : canT t s) : TopT (putT t s u) := by
  have hk' := hk
  obtain ⟨k, x, tx, ns, its⟩ := t
  unfold TopT at hk'
  rcases top_cases hk hc with ⟨h6, i, hi, hlt, _, h2⟩ | ⟨h6, hn, _, h2⟩ | ⟨h5, i, hi, hlt, _, h2⟩ | ⟨h5, hi, _, h2⟩
  all_goals
    rw [h2 u]
    simp only [Tr.kind, Tr.names, Tr.items] at *
    unfold TopT
  · exact ⟨fun _ => by simpa using hk'.1 h6, hk'.2⟩
  · exact ⟨fun _ => by simpa using hk'.1 h6, uniq_snoc hk'.2 hn⟩
  · exact ⟨fun e => by omega, uniq_nil⟩
  · exact ⟨fun e => by omega, uniq_nil⟩
/-- The item that was changed. -/
theorem put_item {t u : Tr} {s : ByteArray} (hk : TopT t) (hc : canT t s) : hasT (putT t s u) s ∧ itemOr (putT t s u) s = u := by
  have hk1 := put_top (u := u) hk hc
  have hk' := hk
  obtain ⟨k, x, tx, ns, its⟩ := t
  unfold TopT at hk'
  rcases top_cases hk hc with ⟨h6, i, hi, hlt, _, h2⟩ | ⟨h6, hn, _, h2⟩ | ⟨h5, i, hi, hlt, _, h2⟩ | ⟨h5, hi, _, h2⟩
  all_goals
    rw [h2 u] at hk1 ⊢
    simp only [Tr.kind, Tr.names, Tr.items] at *
  · have hl := hk'.1 h6
    obtain ⟨p1, p2⟩ := place_obj (m := (its.set i u).length) hk'.2 (by simpa using hl) hi
    exact ⟨p1, item_eq p1 p2 (get_set hlt)⟩
  · have hl := hk'.1 h6
    obtain ⟨p1, p2⟩ := place_obj (m := (its ++ [u]).length) (i := ns.length) (s := s) (uniq_snoc hk'.2 hn) (by simpa using hl) (by simp)
    exact ⟨p1, item_eq p1 p2 (by rw [hl]; simp)⟩
  · have p1 : placeB 5 [] (its.set i u).length s = true := place_list.2 ⟨i, hi, by simpa using hlt⟩
    exact ⟨p1, item_eq p1 (placeI_list hi) (get_set hlt)⟩
  · have p1 : placeB 5 [] (its ++ [u]).length s = true := place_list.2 ⟨_, hi, by simp⟩
    exact ⟨p1, item_eq p1 (placeI_list hi) (by simp)⟩
/-- Another item of a value that was changed. -/
theorem put_other {t u : Tr} {s r : ByteArray} (hne : s ≠ r) (hk : TopT t) (hc : canT t s) : (hasT (putT t s u) r ↔ hasT t r) ∧ (hasT t r → itemOr (putT t s u) r = itemOr t r) := by
  have hk1 := put_top (u := u) hk hc
  have hk' := hk
  obtain ⟨k, x, tx, ns, its⟩ := t
  unfold TopT at hk'
  rcases top_cases hk hc with ⟨h6, i, hi, hlt, _, h2⟩ | ⟨h6, hn, _, h2⟩ | ⟨h5, i, hi, hlt, _, h2⟩ | ⟨h5, hi, _, h2⟩
  all_goals
    rw [h2 u] at hk1 ⊢
    simp only [Tr.kind, Tr.names, Tr.items] at *
  · subst h6
    have hl := hk'.1 rfl
    refine ⟨by rw [has_top hk1, has_top hk], fun hr => ?_⟩
    obtain ⟨j, hj⟩ := mem_at ((has_top hk).1 hr)
    have hjl := (List.getElem?_eq_some_iff.1 hj).1
    have hij : i ≠ j := fun e => by subst e; rw [hi] at hj; exact hne (Option.some.inj hj)
    have hv : its[j]? = some its[j] := List.getElem?_eq_getElem (by omega)
    obtain ⟨p1, p2⟩ := place_obj hk'.2 hl hj
    obtain ⟨p3, p4⟩ := place_obj (m := (its.set i u).length) hk'.2 (by simpa using hl) hj
    rw [item_eq p1 p2 hv, item_eq p3 p4 (by rw [List.getElem?_set_ne hij]; exact hv)]
  · subst h6
    have hl := hk'.1 rfl
    refine ⟨by rw [has_top hk1, has_top hk]; simp [Ne.symm hne], fun hr => ?_⟩
    obtain ⟨j, hj⟩ := mem_at ((has_top hk).1 hr)
    have hjl := (List.getElem?_eq_some_iff.1 hj).1
    have hv : its[j]? = some its[j] := List.getElem?_eq_getElem (by omega)
    obtain ⟨p1, p2⟩ := place_obj hk'.2 hl hj
    obtain ⟨p3, p4⟩ := place_obj (m := (its ++ [u]).length) (i := j) (s := r) (uniq_snoc hk'.2 hn) (by simpa using hl) (by rw [get_left hjl]; exact hj)
    rw [item_eq p1 p2 hv, item_eq p3 p4 (by rw [get_left (by omega)]; exact hv)]
  · subst h5
    refine ⟨by rw [has_list, has_list]; simp, fun hr => ?_⟩
    obtain ⟨j, hj, hjl⟩ := has_list.1 hr
    have hij : i ≠ j := fun e => hne (idx_inj hi (by rw [hj, e]))
    have hv : its[j]? = some its[j] := List.getElem?_eq_getElem hjl
    have p1 : placeB 5 ns its.length r = true := hr
    have p3 : placeB 5 [] (its.set i u).length r = true := place_list.2 ⟨j, hj, by simpa using hjl⟩
    rw [item_eq p1 (placeI_list hj) hv, item_eq p3 (placeI_list hj) (by rw [List.getElem?_set_ne hij]; exact hv)]
  · subst h5
    refine ⟨?_, fun hr => ?_⟩
    · rw [has_list, has_list]
      constructor
      · rintro ⟨j, hj, hl⟩
        refine ⟨j, hj, ?_⟩
        simp only [List.length_append, List.length_singleton] at hl
        have : j ≠ its.length := fun e => hne (idx_inj hi (by rw [hj, e]))
        omega
      · rintro ⟨j, hj, hl⟩
        exact ⟨j, hj, by simp; omega⟩
    · obtain ⟨j, hj, hjl⟩ := has_list.1 hr
      have hv : its[j]? = some its[j] := List.getElem?_eq_getElem hjl
      have p1 : placeB 5 ns its.length r = true := hr
      have p3 : placeB 5 [] (its ++ [u]).length r = true := place_list.2 ⟨j, hj, by simp; omega⟩
      rw [item_eq p1 (placeI_list hj) hv, item_eq p3 (placeI_list hj) (by rw [get_left hjl]; exact hv)]
/-- Behind a Set the path has x. -/
theorem get_same {X : Tr} : (l : List ByteArray) → (t a : Tr) → KnownT t → rsetT l t X = some a → getT a l = some X
  | [], t, a, _, h => by simp [rsetT] at h; subst h; rfl
  | s :: r, t, a, hk, h => by
    obtain ⟨hc, u, h1, rfl⟩ := rset_cons h
    obtain ⟨p1, p2⟩ := put_item (u := u) (top_of hk) hc
    rw [get_has p1, p2]
    exact get_same r _ u (item_known hk) h1
/-- Behind a Set a path that does not clash has what it had. -/
theorem get_apart {X : Tr} : (l o : List ByteArray) → clashT l o = false → (t a : Tr) → KnownT t → rsetT l t X = some a → getT a o = getT t o
  | [], _, h, _, _, _, _ => by simp [clashT] at h
  | _ :: _, [], h, _, _, _, _ => by simp [clashT] at h
  | s :: l, r :: o, h, t, a, hk, h0 => by
    obtain ⟨hc, u, h1, rfl⟩ := rset_cons h0
    by_cases e : s = r
    · subst e
      have hcl : clashT l o = false := by simpa [clashT] using h
      obtain ⟨p1, p2⟩ := put_item (u := u) (top_of hk) hc
      rw [get_has p1, p2, get_apart l o hcl _ u (item_known hk) h1]
      by_cases hh : hasT t s
      · rw [get_has hh]
      · rw [get_not hh, not_has_item hh]
        cases o with
        | nil => cases l <;> simp [clashT] at hcl
        | cons q o => exact empty_none
    · obtain ⟨p1, p2⟩ := put_other (u := u) e (top_of hk) hc
      by_cases hh : hasT t r
      · rw [get_has hh, get_has (p1.2 hh), p2 hh]
      · rw [get_not hh, get_not (fun h => hh (p1.1 h))]
theorem down_get : (l : List ByteArray) → (t x : Tr) → getT t l = some x → (downT t l).1 = 0
  | [], t, _, _ => by cases t; rfl
  | s :: r, t, x, h => by
    by_cases hh : hasT t s
    · obtain ⟨i, hi, hlt⟩ := placeB_true hh
      have hu : t.items[i]? = some t.items[i] := List.getElem?_eq_getElem hlt
      rw [getT_some hh hi hu] at h
      have h0 := down_get r _ x h
      rw [downT, if_pos (show placeB t.kind t.names t.items.length s = true from hh), hi, Int.toNat_natCast, hu]
      simp only
      rw [if_pos h0]
    · rw [get_not hh] at h; cases h
mutual
/-- Objects and lists are that and nothing else. -/
def PlainT : Tr → Prop
  | .node k x s ns its => (k = 6 → x = 0 ∧ s = ⟨#[]⟩) ∧ (k = 5 → x = 0 ∧ s = ⟨#[]⟩ ∧ ns = []) ∧ PlainL its
def PlainL : List Tr → Prop
  | [] => True
  | t :: ts => PlainT t ∧ PlainL ts
end
theorem plainL_iff : (its : List Tr) → (PlainL its ↔ ∀ u ∈ its, PlainT u)
  | [] => by simp [PlainL]
  | t :: ts => by unfold PlainL; rw [plainL_iff ts]; simp
/-- Setting what is there changes nothing. -/
theorem set_there : (l : List ByteArray) → (t x d : Tr) → KnownT t → PlainT t → getT t l = some x → rsetT l t x = some d → d = t
  | [], t, x, d, _, _, h, h' => by
    simp [rsetT] at h'
    simp [getT] at h
    rw [← h', h]
  | s :: r, t, x, d, hk, hp, h, h' => by
    obtain ⟨hc, u, h1, rfl⟩ := rset_cons h'
    by_cases hh : hasT t s
    · rw [get_has hh] at h
      have hu : u = itemOr t s := by
        refine set_there r (itemOr t s) x u (item_known hk) ?_ h h1
        obtain ⟨i, hi, hlt⟩ := placeB_true hh
        have he : itemOr t s = t.items[i] := by unfold itemOr; rw [placeT_some hh hi]; simp [List.getD_eq_getElem?_getD, hlt]
        rw [he]
        obtain ⟨k, x0, tx, ns, its⟩ := t
        unfold PlainT at hp
        exact (plainL_iff its).1 hp.2.2 _ (List.getElem_mem _)
      subst hu
      obtain ⟨k, x0, tx, ns, its⟩ := t
      unfold PlainT at hp
      rcases can_cases hk hc with ⟨h6, i, hi, hlt, h2, h3⟩ | ⟨h6, hn, _, _⟩ | ⟨h5, i, hi, hlt, h2, h3⟩ | ⟨h5, hi, _, _⟩
      all_goals simp only [Tr.kind, Tr.names, Tr.items] at *
      · subst h6
        obtain ⟨rfl, rfl⟩ := hp.1 rfl
        rw [h3]
        congr 1
        apply List.ext_getElem?
        intro j
        rw [List.getElem?_set]
        split
        · rename_i e; subst e; exact h2.symm
        · rfl
      · subst h6
        exact absurd ((has_obj hk).1 hh) hn
      · subst h5
        obtain ⟨rfl, rfl, rfl⟩ := hp.2.1 rfl
        rw [h3]
        congr 1
        apply List.ext_getElem?
        intro j
        rw [List.getElem?_set]
        split
        · rename_i e; subst e; exact h2.symm
        · rfl
      · subst h5
        obtain ⟨j, hj, hl⟩ := has_list.1 hh
        rw [hi] at hj
        have := Option.some.inj hj
        omega
    · rw [get_not hh] at h; cases h
def nilT' : Tr := .node 0 0 ⟨#[]⟩ [] []
/-- An object or list without an item. -/
def outT (k : Int) (ns : List ByteArray) (its : List Tr) (m : Nat) : Tr := if k = 5 then .node 5 0 ⟨#[]⟩ [] (its.set m nilT') else .node k 0 ⟨#[]⟩ ((keepNs k ns its).eraseIdx m) ((keepIts k ns its).eraseIdx m)
def delT (t : Tr) (s : ByteArray) : Tr := outT t.kind t.names t.items (placeI t.kind t.names s).toNat
def rdelT : List ByteArray → Tr → Tr
  | [], t => t
  | [s], t => delT t s
  | s :: r :: l, t => putT t s (rdelT (r :: l) (itemOr t s))
theorem uniq_erase {ns : List ByteArray} (h : Uniq ns) (i : Nat) : Uniq (ns.eraseIdx i) := by
  intro a b n h1 h2
  rw [List.getElem?_eraseIdx] at h1 h2
  split at h1 <;> split at h2
  · exact h a b n h1 h2
  · have := h a (b + 1) n h1 h2; omega
  · have := h (a + 1) b n h1 h2; omega
  · have := h (a + 1) (b + 1) n h1 h2; omega
theorem knownL_erase {its : List Tr} (h : KnownL its) (i : Nat) : KnownL (its.eraseIdx i) := by
  rw [knownL_iff] at *
  intro j u hj
  rw [List.getElem?_eraseIdx] at hj
  split at hj
  · exact h j u hj
  · exact h (j + 1) u hj
theorem known_nil : KnownT nilT' := by unfold nilT' KnownT KnownL Uniq; simp
/-- The two shapes of an item taken out. -/
theorem del_cases {t : Tr} {s : ByteArray} (hk : KnownT t) (h : hasT t s) :
    (t.kind = 6 ∧ ∃ i : Nat, t.names[i]? = some s ∧ i < t.items.length ∧ delT t s = .node 6 0 ⟨#[]⟩ (t.names.eraseIdx i) (t.items.eraseIdx i)) ∨
    (t.kind = 5 ∧ ∃ i : Nat, idx s = some i ∧ i < t.items.length ∧ delT t s = .node 5 0 ⟨#[]⟩ [] (t.items.set i nilT')) := by
  have hc := has_can h
  obtain ⟨k, x, tx, ns, its⟩ := t
  have hk' := hk
  unfold KnownT at hk'
  rcases can_cases hk hc with ⟨h6, i, hi, hlt, _, _⟩ | ⟨h6, hn, _, _⟩ | ⟨h5, i, hi, hlt, _, _⟩ | ⟨h5, hi, _, _⟩
  all_goals simp only [Tr.kind, Tr.names, Tr.items] at *
  · subst h6
    refine .inl ⟨rfl, i, hi, hlt, ?_⟩
    have hl := hk'.1 rfl
    show outT 6 ns its (placeI 6 ns s).toNat = _
    unfold outT
    rw [if_neg (by omega), (place_obj hk'.2.1 hl hi).2]
    unfold keepNs keepIts
    rw [if_pos rfl, if_pos rfl, List.take_of_length_le (by omega), List.take_of_length_le (by omega), Int.toNat_natCast]
  · subst h6; exact absurd ((has_obj hk).1 h) hn
  · subst h5
    refine .inr ⟨rfl, i, hi, hlt, ?_⟩
    show outT 5 ns its (placeI 5 ns s).toNat = _
    unfold outT
    rw [if_pos rfl, placeI_list hi, Int.toNat_natCast]
  · subst h5
    obtain ⟨j, hj, hl⟩ := has_list.1 h
    rw [hi] at hj
    have := Option.some.inj hj
    omega
theorem del_known {t : Tr} {s : ByteArray} (hk : KnownT t) (h : hasT t s) : KnownT (delT t s) := by
  have hk' := hk
  obtain ⟨k, x, tx, ns, its⟩ := t
  unfold KnownT at hk'
  rcases del_cases hk h with ⟨h6, i, hi, hlt, e⟩ | ⟨h5, i, hi, hlt, e⟩
  all_goals
    rw [e]
    simp only [Tr.kind, Tr.names, Tr.items] at *
    unfold KnownT
  · have hl := hk'.1 h6
    exact ⟨fun _ => by rw [List.length_eraseIdx, List.length_eraseIdx, hl], uniq_erase hk'.2.1 i, knownL_erase hk'.2.2 i⟩
  · exact ⟨fun e => by omega, uniq_nil, knownL_set hk'.2.2 known_nil i⟩
/-- Another item of a value from which one was taken. -/
theorem del_other {t : Tr} {s r : ByteArray} (hne : s ≠ r) (hk : KnownT t) (h : hasT t s) : (hasT (delT t s) r ↔ hasT t r) ∧ (hasT t r → itemOr (delT t s) r = itemOr t r) := by
  have hk1 := del_known hk h
  have hk' := hk
  obtain ⟨k, x, tx, ns, its⟩ := t
  unfold KnownT at hk'
  rcases del_cases hk h with ⟨h6, i, hi, hlt, e⟩ | ⟨h5, i, hi, hlt, e⟩
  all_goals
    rw [e] at hk1 ⊢
    simp only [Tr.kind, Tr.names, Tr.items] at *
  · subst h6
    have hl := hk'.1 rfl
    have hu1 : Uniq (ns.eraseIdx i) := uniq_erase hk'.2.1 i
    have hl1 : (ns.eraseIdx i).length = (its.eraseIdx i).length := by rw [List.length_eraseIdx, List.length_eraseIdx, hl]
    have hat : ∀ j : Nat, ns[j]? = some r → ∃ j' : Nat, (ns.eraseIdx i)[j']? = some r ∧ (its.eraseIdx i)[j']? = its[j]? := by
      intro j hj
      have hij : j ≠ i := fun e => by subst e; rw [hi] at hj; exact hne (Option.some.inj hj)
      by_cases hlt' : j < i
      · exact ⟨j, by rw [List.getElem?_eraseIdx, if_pos hlt']; exact hj, by rw [List.getElem?_eraseIdx, if_pos hlt']⟩
      · exact ⟨j - 1, by rw [List.getElem?_eraseIdx, if_neg (by omega), show j - 1 + 1 = j by omega]; exact hj, by rw [List.getElem?_eraseIdx, if_neg (by omega), show j - 1 + 1 = j by omega]⟩
    refine ⟨?_, ?_⟩
    · rw [has_obj hk1, has_obj hk]
      constructor
      · intro hm; exact List.mem_of_mem_eraseIdx hm
      · intro hm
        obtain ⟨j, hj⟩ := mem_at hm
        obtain ⟨j', h1, _⟩ := hat j hj
        exact List.mem_iff_getElem?.2 ⟨j', h1⟩
    · intro hr
      obtain ⟨j, hj⟩ := mem_at ((has_obj hk).1 hr)
      have hjl := (List.getElem?_eq_some_iff.1 hj).1
      obtain ⟨j', h1, h2⟩ := hat j hj
      have hv : its[j]? = some its[j] := List.getElem?_eq_getElem (by omega)
      obtain ⟨p1, p2⟩ := place_obj hk'.2.1 hl hj
      obtain ⟨p3, p4⟩ := place_obj hu1 hl1 h1
      rw [item_eq p1 p2 hv, item_eq p3 p4 (h2.trans hv)]
  · subst h5
    refine ⟨by rw [has_list, has_list]; simp, ?_⟩
    intro hr
    obtain ⟨j, hj, hjl⟩ := has_list.1 hr
    have hij : i ≠ j := fun e => hne (idx_inj hi (by rw [hj, e]))
    have hv : its[j]? = some its[j] := List.getElem?_eq_getElem hjl
    have p1 : placeB 5 ns its.length r = true := hr
    have p3 : placeB 5 [] (its.set i nilT').length r = true := place_list.2 ⟨j, hj, by simpa using hjl⟩
    rw [item_eq p1 (placeI_list hj) hv, item_eq p3 (placeI_list hj) (by rw [List.getElem?_set_ne hij]; exact hv)]
/-- Behind an Unset the path has nothing, or null in a list. -/
theorem del_gone {t : Tr} {s : ByteArray} (hk : KnownT t) (h : hasT t s) : getT (delT t s) [s] = none ∨ getT (delT t s) [s] = some nilT' := by
  have hk1 := del_known hk h
  have hk' := hk
  obtain ⟨k, x, tx, ns, its⟩ := t
  unfold KnownT at hk'
  rcases del_cases hk h with ⟨h6, i, hi, hlt, e⟩ | ⟨h5, i, hi, hlt, e⟩
  all_goals
    rw [e] at hk1 ⊢
    simp only [Tr.kind, Tr.names, Tr.items] at *
  · left
    refine get_not (fun hh => ?_)
    obtain ⟨j, hj⟩ := mem_at ((has_obj hk1).1 hh)
    rw [List.getElem?_eraseIdx] at hj
    split at hj
    · have := hk'.2.1 j i s hj hi; omega
    · have := hk'.2.1 (j + 1) i s hj hi; omega
  · right
    have p3 : placeB 5 [] (its.set i nilT').length s = true := place_list.2 ⟨i, hi, by simpa using hlt⟩
    rw [get_has (t := .node 5 0 ⟨#[]⟩ [] (its.set i nilT')) p3, item_eq (v := nilT') p3 (placeI_list hi) (by simp [hlt])]
    rfl
theorem rdel_known : (l : List ByteArray) → (t x : Tr) → KnownT t → getT t l = some x → KnownT (rdelT l t)
  | [], t, _, hk, _ => hk
  | [s], t, x, hk, h => by
    by_cases hh : hasT t s
    · exact del_known hk hh
    · rw [get_not hh] at h; cases h
  | s :: r :: l, t, x, hk, h => by
    by_cases hh : hasT t s
    · rw [get_has hh] at h
      exact put_known hk (rdel_known (r :: l) _ x (item_known hk) h) (has_can hh)
    · rw [get_not hh] at h; cases h
theorem rdel_gone : (l : List ByteArray) → (t x : Tr) → KnownT t → l ≠ [] → getT t l = some x → getT (rdelT l t) l = none ∨ getT (rdelT l t) l = some nilT'
  | [], t, _, _, h, _ => absurd rfl h
  | [s], t, x, hk, _, h => by
    by_cases hh : hasT t s
    · exact del_gone hk hh
    · rw [get_not hh] at h; cases h
  | s :: r :: l, t, x, hk, _, h => by
    by_cases hh : hasT t s
    · rw [get_has hh] at h
      have hu := rdel_known (r :: l) _ x (item_known hk) h
      obtain ⟨p1, p2⟩ := put_item (u := rdelT (r :: l) (itemOr t s)) (top_of hk) (has_can hh)
      rw [rdelT, get_has p1, p2]
      exact rdel_gone (r :: l) _ x (item_known hk) (by simp) h
    · rw [get_not hh] at h; cases h
theorem rdel_apart : (l o : List ByteArray) → clashT l o = false → (t x : Tr) → KnownT t → getT t l = some x → getT (rdelT l t) o = getT t o
  | [], _, h, _, _, _, _ => by simp [clashT] at h
  | _ :: _, [], h, _, _, _, _ => by simp [clashT] at h
  | [s], r :: o, h, t, x, hk, h0 => by
    have e : s ≠ r := by intro e; subst e; simp [clashT] at h
    by_cases hh : hasT t s
    · obtain ⟨p1, p2⟩ := del_other e hk hh
      rw [rdelT]
      by_cases hr : hasT t r
      · rw [get_has hr, get_has (p1.2 hr), p2 hr]
      · rw [get_not hr, get_not (fun h => hr (p1.1 h))]
    · rw [get_not hh] at h0; cases h0
  | s :: q :: l, r :: o, h, t, x, hk, h0 => by
    by_cases hh : hasT t s
    · rw [get_has hh] at h0
      have hu := rdel_known (q :: l) _ x (item_known hk) h0
      rw [rdelT]
      by_cases e : s = r
      · subst e
        obtain ⟨p1, p2⟩ := put_item (u := rdelT (q :: l) (itemOr t s)) (top_of hk) (has_can hh)
        rw [get_has p1, p2, get_has hh]
        exact rdel_apart (q :: l) o (by simpa [clashT] using h) _ x (item_known hk) h0
      · obtain ⟨p1, p2⟩ := put_other (u := rdelT (q :: l) (itemOr t s)) e (top_of hk) (has_can hh)
        by_cases hr : hasT t r
        · rw [get_has hr, get_has (p1.2 hr), p2 hr]
        · rw [get_not hr, get_not (fun h => hr (p1.1 h))]
    · rw [get_not hh] at h0; cases h0
end Go.Proofs.Ytmlbofbnklmedaa
