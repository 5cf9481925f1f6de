import Derived.Test.YtmlbofbnklmedaaS12
/-! Two changes of one value, plain: known values, values that are alike. -/
namespace Go.Proofs.Ytmlbofbnklmedaa
open Go Go.RowKit

def Uniq (ns : List ByteArray) : Prop := ∀ (i j : Nat) (n : ByteArray), ns[i]? = some n → ns[j]? = some n → i = j
mutual
/-- Objects of every depth have unlike names, as many as items. -/
def KnownT : Tr → Prop
  | .node k _ _ ns its => (k = 6 → ns.length = its.length) ∧ Uniq ns ∧ KnownL its
def KnownL : List Tr → Prop
  | [] => True
  | t :: ts => KnownT t ∧ KnownL ts
end
theorem knownL_iff : (its : List Tr) → (KnownL its ↔ ∀ (i : Nat) (u : Tr), its[i]? = some u → KnownT u)
  | [] => by simp [KnownL]
  | t :: ts => by
    unfold KnownL
    rw [knownL_iff ts]
    constructor
    · rintro ⟨h1, h2⟩ i u hi
      cases i with
      | zero => simp at hi; subst hi; exact h1
      | succ i => exact h2 i u (by simpa using hi)
    · intro h
      exact ⟨h 0 t rfl, fun i u hi => h (i + 1) u (by simpa using hi)⟩
def MatchAt (k : Int) (ns ns' : List ByteArray) (i j : Nat) : Prop := if k = 6 then ∃ n, ns[i]? = some n ∧ ns'[j]? = some n ∧ ∀ j', j' < j → ns'[j']? ≠ some n else j = i
/-- The same but for the order of members. -/
inductive Sim : Tr → Tr → Prop
  | mk (k x : Int) (s : ByteArray) (ns : List ByteArray) (its : List Tr) (ns' : List ByteArray) (its' : List Tr) (f : Nat → Nat) (h1 : ns.length = ns'.length) (h2 : its.length = its'.length) (hf : ∀ i, i < its.length → f i < its'.length ∧ MatchAt k ns ns' i (f i)) (hs : ∀ i u v, its[i]? = some u → its'[f i]? = some v → Sim u v) : Sim (.node k x s ns its) (.node k x s ns' its')
theorem match_uniq {ns ns' : List ByteArray} {i j : Nat} {n : ByteArray} (hu : Uniq ns') (h : ns[i]? = some n) (h' : ns'[j]? = some n) : MatchAt 6 ns ns' i j := by
  unfold MatchAt
  rw [if_pos rfl]
  exact ⟨n, h, h', fun j' hj e => by have := hu j' j n e h'; omega⟩
theorem sim_refl (t : Tr) : KnownT t → Sim t t := by
  refine Tr.rec (motive_1 := fun t => KnownT t → Sim t t) (motive_2 := fun l => KnownL l → ∀ (i : Nat) (u : Tr), l[i]? = some u → Sim u u) ?_ ?_ ?_ t
  · intro k x s ns its ih h
    unfold KnownT at h
    refine .mk k x s ns its ns its id rfl rfl (fun i hi => ⟨hi, ?_⟩) (fun i u v h1 h2 => ?_)
    · by_cases h6 : k = 6
      · subst h6
        have hl := h.1 rfl
        exact match_uniq h.2.1 (List.getElem?_eq_getElem (show i < ns.length by omega)) (List.getElem?_eq_getElem (show i < ns.length by omega))
      · unfold MatchAt; rw [if_neg h6]; rfl
    · have : u = v := by simp only [id] at h2; rw [h1] at h2; simpa using h2
      subst this
      exact ih h.2.2 i u h1
  · intro _ i u h; simp at h
  · intro t ts h1 h2 h i u hi
    unfold KnownL at h
    cases i with
    | zero => simp at hi; subst hi; exact h1 h.1
    | succ i => exact h2 h.2 i u (by simpa using hi)
def emptyO : Tr := .node 6 0 ⟨#[]⟩ [] []
theorem known_empty : KnownT emptyO := by
  unfold emptyO KnownT KnownL Uniq
  simp
/-- An object's place. -/
theorem idxOfS_some {ns : List ByteArray} {s : ByteArray} {i : Nat} (hu : Uniq ns) (h : ns[i]? = some s) : Lib.idxOfS ns s = i := by
  have hq := (List.getElem?_eq_some_iff.1 h).1
  have := Lib.idxFromS_hit s ns i 0 hq (by rw [List.getD_eq_getElem?_getD, h]; rfl) (fun j hj e => by
    rw [List.getD_eq_getElem?_getD, List.getElem?_eq_getElem (by omega)] at e
    have := hu j i s (by rw [List.getElem?_eq_getElem (by omega)]; simpa using e) h
    omega)
  unfold Lib.idxOfS; rw [this]; simp
theorem mem_at {ns : List ByteArray} {s : ByteArray} (h : s ∈ ns) : ∃ i : Nat, ns[i]? = some s := List.mem_iff_getElem?.1 h
theorem place_obj {ns : List ByteArray} {m : Nat} {s : ByteArray} {i : Nat} (hu : Uniq ns) (hm : ns.length = m) (h : ns[i]? = some s) : placeB 6 ns m s = true ∧ placeI 6 ns s = i := by
  have hq := (List.getElem?_eq_some_iff.1 h).1
  unfold placeB placeI
  rw [if_pos rfl, if_pos rfl, idxOfS_some hu h]
  simp; omega
theorem place_objN {ns : List ByteArray} {m : Nat} {s : ByteArray} (h : ¬ s ∈ ns) : placeB 6 ns m s = false := by
  unfold placeB
  rw [if_pos rfl]
  have : ¬ 0 ≤ Lib.idxOfS ns s := fun e => h ((Lib.idxOfS_nonneg_iff ns s).1 e)
  simp [this]
theorem place_list {ns : List ByteArray} {m : Nat} {s : ByteArray} : placeB 5 ns m s = true ↔ ∃ i, idx s = some i ∧ i < m := by
  unfold placeB
  rw [if_neg (by omega), if_pos rfl]
  cases idx s with
  | none => simp
  | some z => simp
theorem placeI_list {ns : List ByteArray} {s : ByteArray} {i : Nat} (h : idx s = some i) : placeI 5 ns s = i := by
  unfold placeI
  rw [if_neg (by omega), if_pos rfl, h]
  rfl
theorem placeT_some {t : Tr} {s : ByteArray} {i : Nat} (h : placeB t.kind t.names t.items.length s = true) (hi : placeI t.kind t.names s = i) : placeT t s = some i := by
  unfold placeT; rw [if_pos h, hi]; rfl
theorem placeT_none {t : Tr} {s : ByteArray} (h : placeB t.kind t.names t.items.length s = false) : placeT t s = none := by
  unfold placeT; rw [if_neg (by rw [h]; simp)]
def itemOr (t : Tr) (s : ByteArray) : Tr := match placeT t s with | some i => t.items.getD i emptyO | none => emptyO
def putT (t : Tr) (s : ByteArray) (u : Tr) : Tr := withT t.kind t.names t.items s ((placeT t s).getD (keepIts t.kind t.names t.items).length) u
def canT (t : Tr) (s : ByteArray) : Prop := placeB t.kind t.names t.items.length s = true ∨ t.kind = 6 ∨ (t.kind = 5 ∧ idx s = some t.items.length)
instance (t : Tr) (s : ByteArray) : Decidable (canT t s) := by unfold canT; infer_instance
def rsetT : List ByteArray → Tr → Tr → Option Tr
  | [], _, X => some X
  | s :: r, t, X => if canT t s then (rsetT r (itemOr t s) X).map (putT t s) else none
theorem nest_rset (X : Tr) : (r : List ByteArray) → rsetT r emptyO X = some (nestS r X)
  | [] => rfl
  | s :: r => by
    have hp : placeT emptyO s = none := placeT_none (place_objN (by simp [emptyO, Tr.names]))
    have hi : itemOr emptyO s = emptyO := by unfold itemOr; rw [hp]
    rw [rsetT, if_pos (.inr (.inl rfl)), hi, nest_rset X r, Option.map_some]
    unfold putT
    rw [hp]
    rfl
theorem rset_down (X : Tr) : (l : List ByteArray) → (t : Tr) → (downT t l).1 = 0 → rsetT l t X = some (setT t l X)
  | [], t, _ => by cases t; rfl
  | s :: r, t, h => by
    by_cases hp : placeB t.kind t.names t.items.length s = true
    · obtain ⟨i, hi, hlt⟩ := placeB_true hp
      have hu : t.items[i]? = some t.items[i] := List.getElem?_eq_getElem hlt
      have hpt : placeT t s = some i := by unfold placeT; rw [if_pos hp, hi]; rfl
      have hd : downT t (s :: r) = if (downT t.items[i] r).1 = 0 then (0, (t, s, i) :: (downT t.items[i] r).2) else downT t.items[i] r := by
        rw [downT, if_pos hp, hi, Int.toNat_natCast, hu]
      have h0 : (downT t.items[i] r).1 = 0 := by
        rw [hd] at h
        by_cases h0 : (downT t.items[i] r).1 = 0
        · exact h0
        · rw [if_neg h0] at h; exact h
      have hio : itemOr t s = t.items[i] := by unfold itemOr; rw [hpt]; simp [List.getD_eq_getElem?_getD, hlt]
      rw [rsetT, if_pos (.inl hp), hio, rset_down X r _ h0, Option.map_some]
      unfold putT setT
      rw [hpt, hd, if_pos h0]
      rfl
    · have hpt : placeT t s = none := by unfold placeT; rw [if_neg hp]
      have hio : itemOr t s = emptyO := by unfold itemOr; rw [hpt]
      by_cases hc : t.kind = 6 ∨ (t.kind = 5 ∧ idx s = some t.items.length)
      · have hd : downT t (s :: r) = (0, [(t, s, (keepIts t.kind t.names t.items).length)]) := by rw [downT, if_neg hp, if_pos hc]
        rw [rsetT, if_pos (.inr hc), hio, nest_rset, Option.map_some]
        unfold putT setT
        rw [hpt, hd]
        rfl
      · rw [downT, if_neg hp, if_neg hc] at h
        split at h <;> simp at h
/-- The four shapes of a change of one item. -/
theorem can_cases {t : Tr} {s : ByteArray} (hk : KnownT t) (hc : canT t s) :
    (t.kind = 6 ∧ ∃ i : Nat, t.names[i]? = some s ∧ i < t.items.length ∧ t.items[i]? = some (itemOr t s) ∧ ∀ u, putT t s u = .node 6 0 ⟨#[]⟩ t.names (t.items.set i u)) ∨
    (t.kind = 6 ∧ ¬ s ∈ t.names ∧ itemOr t s = emptyO ∧ ∀ u, putT t s u = .node 6 0 ⟨#[]⟩ (t.names ++ [s]) (t.items ++ [u])) ∨
    (t.kind = 5 ∧ ∃ i : Nat, idx s = some i ∧ i < t.items.length ∧ t.items[i]? = some (itemOr t s) ∧ ∀ u, putT t s u = .node 5 0 ⟨#[]⟩ [] (t.items.set i u)) ∨
    (t.kind = 5 ∧ idx s = some t.items.length ∧ itemOr t s = emptyO ∧ ∀ u, putT t s u = .node 5 0 ⟨#[]⟩ [] (t.items ++ [u])) := by
  obtain ⟨k, x, tx, ns, its⟩ := t
  unfold KnownT at hk
  obtain ⟨h1, h2, h3⟩ := hk
  simp only [Tr.kind, Tr.names, Tr.items]
  by_cases h6 : k = 6
  · subst h6
    have hl := h1 rfl
    have hkn : keepNs 6 ns its = ns := by unfold keepNs; rw [if_pos rfl, List.take_of_length_le (by omega)]
    have hki : keepIts 6 ns its = its := by unfold keepIts; rw [if_pos rfl, List.take_of_length_le (by omega)]
    by_cases hm : s ∈ ns
    · left
      obtain ⟨i, hi⟩ := mem_at hm
      have hlt := (List.getElem?_eq_some_iff.1 hi).1
      obtain ⟨p1, p2⟩ := place_obj h2 hl hi
      have hpt : placeT (.node 6 x tx ns its) s = some i := placeT_some p1 p2
      refine ⟨rfl, i, hi, by omega, ?_, fun u => ?_⟩
      · unfold itemOr; rw [hpt]; simp [Tr.items, List.getD_eq_getElem?_getD, show i < its.length by omega]
      · unfold putT withT
        rw [hpt]
        simp only [Tr.kind, Tr.names, Tr.items, hkn, hki, Option.getD_some]
        rw [if_pos (by omega)]
    · right; left
      have hpt : placeT (.node 6 x tx ns its) s = none := placeT_none (place_objN hm)
      refine ⟨rfl, hm, by unfold itemOr; rw [hpt], fun u => ?_⟩
      unfold putT withT
      rw [hpt]
      simp only [Tr.kind, Tr.names, Tr.items, hkn, hki, Option.getD_none]
      rw [if_neg (by omega)]
      simp
  · have hki : keepIts k ns its = its := by unfold keepIts; rw [if_neg h6]
    have hkn : keepNs k ns its = [] := by unfold keepNs; rw [if_neg h6]
    unfold canT at hc
    simp only [Tr.kind, Tr.names, Tr.items] at hc
    have h5 : k = 5 := by
      rcases hc with hc | hc | hc
      · unfold placeB at hc; rw [if_neg h6] at hc
        by_cases h5 : k = 5
        · exact h5
        · rw [if_neg h5] at hc; cases hc
      · exact absurd hc h6
      · exact hc.1
    subst h5
    right; right
    by_cases hp : placeB 5 ns its.length s = true
    · left
      obtain ⟨i, hi, hlt⟩ := place_list.1 hp
      have hpt : placeT (.node 5 x tx ns its) s = some i := placeT_some hp (placeI_list hi)
      refine ⟨rfl, i, hi, hlt, ?_, fun u => ?_⟩
      · unfold itemOr; rw [hpt]; simp [Tr.items, List.getD_eq_getElem?_getD, hlt]
      · unfold putT withT
        rw [hpt]
        simp only [Tr.kind, Tr.names, Tr.items, hkn, hki, Option.getD_some]
        rw [if_pos hlt]
    · right
      have hpt : placeT (.node 5 x tx ns its) s = none := placeT_none (Bool.eq_false_iff.2 hp)
      have hi : idx s = some its.length := by
        rcases hc with hc | hc | hc
        · exact absurd hc hp
        · exact absurd hc (by omega)
        · exact hc.2
      refine ⟨rfl, hi, by unfold itemOr; rw [hpt], fun u => ?_⟩
      unfold putT withT
      rw [hpt]
      simp only [Tr.kind, Tr.names, Tr.items, hkn, hki, Option.getD_none]
      rw [if_neg (by omega), if_neg (by omega)]
end Go.Proofs.Ytmlbofbnklmedaa
/-! Two changes of one value, in one order and the other. -/
namespace Go.Proofs.Ytmlbofbnklmedaa
open Go Go.RowKit

theorem dig_of {s : ByteArray} {q j : Nat} (h : digTo s q = true) (hj : j < q) : 48 ≤ (byteAt s j).toNat ∧ (byteAt s j).toNat ≤ 57 := by
  unfold digTo at h
  rw [List.all_eq_true] at h
  have := h j (List.mem_range.2 hj)
  unfold isDig at this
  simp [UInt8.le_iff_toNat_le] at this
  exact this
theorem digTo_less {s : ByteArray} {q : Nat} (h : digTo s (q + 1) = true) : digTo s q = true := by
  rw [digTo_succ] at h
  simp at h
  exact h.1
theorem numTo_less (s : ByteArray) : (q : Nat) → digTo s q = true → numTo s q < 10 ^ q
  | 0, _ => by simp [numTo]
  | q + 1, h => by
    have := numTo_less s q (digTo_less h)
    have hd := dig_of h (Nat.lt_succ_self q)
    rw [numTo, Nat.pow_succ]
    omega
theorem numTo_ge (s : ByteArray) (h0 : byteAt s 0 ≠ 48) : (q : Nat) → digTo s (q + 1) = true → 10 ^ q ≤ numTo s (q + 1)
  | 0, h => by
    have hd := dig_of h (Nat.lt_succ_self 0)
    have : (byteAt s 0).toNat ≠ 48 := fun e => h0 (UInt8.toNat_inj.1 (by rw [e]; rfl))
    simp [numTo]
    omega
  | q + 1, h => by
    have := numTo_ge s h0 q (digTo_less h)
    rw [numTo, Nat.pow_succ]
    omega
theorem bytes_same (s t : ByteArray) : (q : Nat) → digTo s q = true → digTo t q = true → numTo s q = numTo t q → ∀ j, j < q → byteAt s j = byteAt t j
  | 0, _, _, _ => fun j hj => by omega
  | q + 1, h1, h2, h => fun j hj => by
    have d1 := dig_of h1 (Nat.lt_succ_self q)
    have d2 := dig_of h2 (Nat.lt_succ_self q)
    rw [numTo, numTo] at h
    by_cases e : j = q
    · subst e
      exact UInt8.toNat_inj.1 (by omega)
    · exact bytes_same s t q (digTo_less h1) (digTo_less h2) (by omega) j (by omega)
theorem idx_parts {s : ByteArray} {n : Nat} (h : idx s = some n) : 1 ≤ s.size ∧ (1 < s.size → byteAt s 0 ≠ 48) ∧ digTo s s.size = true ∧ numTo s s.size = n := by
  unfold idx at h
  split at h
  · cases h
  · rename_i hc
    split at h
    · rename_i hd
      exact ⟨by omega, fun h1 e => hc (.inr (.inr ⟨h1, e⟩)), hd, by simpa using h⟩
    · cases h
theorem idx_size {s t : ByteArray} {n : Nat} (h : idx s = some n) (h' : idx t = some n) : ¬ s.size < t.size := by
  intro hlt
  obtain ⟨a1, a2, a3, a4⟩ := idx_parts h
  obtain ⟨b1, b2, b3, b4⟩ := idx_parts h'
  have hge := numTo_ge t (b2 (by omega)) (t.size - 1) (by rw [show t.size - 1 + 1 = t.size by omega]; exact b3)
  rw [show t.size - 1 + 1 = t.size by omega, b4] at hge
  have hl := numTo_less s s.size a3
  rw [a4] at hl
  have := Nat.pow_le_pow_right (show 0 < 10 by omega) (show s.size ≤ t.size - 1 by omega)
  omega
theorem idx_inj {s t : ByteArray} {n : Nat} (h : idx s = some n) (h' : idx t = some n) : s = t := by
  have e : s.size = t.size := by have := idx_size h h'; have := idx_size h' h; omega
  obtain ⟨a1, a2, a3, a4⟩ := idx_parts h
  obtain ⟨b1, b2, b3, b4⟩ := idx_parts h'
  rw [← e] at b3 b4
  have hb := bytes_same s t s.size a3 b3 (by omega)
  apply ByteArray.ext
  apply Array.ext
  · exact e
  · intro i h1 h2
    have := hb i h1
    unfold byteAt Array.getD at this
    rw [dif_pos h1, dif_pos h2] at this
    exact this
theorem puto_at {x : Int} {tx : ByteArray} {ns : List ByteArray} {its : List Tr} {s : ByteArray} {i : Nat} (hk : KnownT (.node 6 x tx ns its)) (h : ns[i]? = some s) : its[i]? = some (itemOr (.node 6 x tx ns its) s) ∧ (∀ u, putT (.node 6 x tx ns its) s u = .node 6 0 ⟨#[]⟩ ns (its.set i u)) := by
  have hu : Uniq ns := by unfold KnownT at hk; exact hk.2.1
  rcases can_cases hk (s := s) (.inr (.inl rfl)) with ⟨_, j, hj, _, h1, h2⟩ | ⟨_, hn, _⟩ | ⟨h5, _⟩ | ⟨h5, _⟩
  · have : j = i := hu j i s hj h
    subst this
    exact ⟨h1, h2⟩
  · exact absurd (List.mem_iff_getElem?.2 ⟨i, h⟩) hn
  · simp [Tr.kind] at h5
  · simp [Tr.kind] at h5
theorem puto_new {x : Int} {tx : ByteArray} {ns : List ByteArray} {its : List Tr} {s : ByteArray} (hk : KnownT (.node 6 x tx ns its)) (h : ¬ s ∈ ns) : itemOr (.node 6 x tx ns its) s = emptyO ∧ (∀ u, putT (.node 6 x tx ns its) s u = .node 6 0 ⟨#[]⟩ (ns ++ [s]) (its ++ [u])) := by
  rcases can_cases hk (s := s) (.inr (.inl rfl)) with ⟨_, j, hj, _⟩ | ⟨_, _, h1, h2⟩ | ⟨h5, _⟩ | ⟨h5, _⟩
  · exact absurd (List.mem_iff_getElem?.2 ⟨j, hj⟩) h
  · exact ⟨h1, h2⟩
  · simp [Tr.kind] at h5
  · simp [Tr.kind] at h5
theorem putl_at {x : Int} {tx : ByteArray} {ns : List ByteArray} {its : List Tr} {s : ByteArray} {i : Nat} (hk : KnownT (.node 5 x tx ns its)) (h : idx s = some i) (hi : i < its.length) : its[i]? = some (itemOr (.node 5 x tx ns its) s) ∧ (∀ u, putT (.node 5 x tx ns its) s u = .node 5 0 ⟨#[]⟩ [] (its.set i u)) := by
  rcases can_cases hk (s := s) (.inl (place_list.2 ⟨i, h, hi⟩)) with ⟨h6, _⟩ | ⟨h6, _⟩ | ⟨_, j, hj, _, h1, h2⟩ | ⟨_, hj, _⟩
  · simp [Tr.kind] at h6
  · simp [Tr.kind] at h6
  · have : j = i := by rw [h] at hj; simpa using hj.symm
    subst this
    exact ⟨h1, h2⟩
  · have : i = its.length := by rw [h] at hj; simpa [Tr.items] using hj
    omega
theorem putl_new {x : Int} {tx : ByteArray} {ns : List ByteArray} {its : List Tr} {s : ByteArray} (hk : KnownT (.node 5 x tx ns its)) (h : idx s = some its.length) : itemOr (.node 5 x tx ns its) s = emptyO ∧ (∀ u, putT (.node 5 x tx ns its) s u = .node 5 0 ⟨#[]⟩ [] (its ++ [u])) := by
  rcases can_cases hk (s := s) (.inr (.inr ⟨rfl, h⟩)) with ⟨h6, _⟩ | ⟨h6, _⟩ | ⟨_, j, hj, hlt, _⟩ | ⟨_, _, h1, h2⟩
  · simp [Tr.kind] at h6
  · simp [Tr.kind] at h6
  · have : j = its.length := by rw [h] at hj; simpa using hj.symm
    simp only [Tr.items] at hlt
    omega
  · exact ⟨h1, h2⟩
theorem knownL_set {its : List Tr} {u : Tr} (h : KnownL its) (hu : KnownT u) (i : Nat) : KnownL (its.set i u) := by
  rw [knownL_iff] at *
  intro j v hj
  rw [List.getElem?_set] at hj
  split at hj
  · split at hj
    · cases hj; exact hu
    · cases hj
  · exact h j v hj
theorem knownL_snoc {its : List Tr} {u : Tr} (h : KnownL its) (hu : KnownT u) : KnownL (its ++ [u]) := by
  rw [knownL_iff] at *
  intro j v hj
  rw [List.getElem?_append] at hj
  split at hj
  · exact h j v hj
  · rw [List.getElem?_singleton] at hj
    split at hj
    · cases hj; exact hu
    · cases hj
theorem uniq_snoc {ns : List ByteArray} {s : ByteArray} (h : Uniq ns) (hs : ¬ s ∈ ns) : Uniq (ns ++ [s]) := by
  intro i j n h1 h2
  rw [List.getElem?_append] at h1 h2
  split at h1
  · split at h2
    · exact h i j n h1 h2
    · rw [List.getElem?_singleton] at h2
      split at h2
      · cases h2; exact absurd (List.mem_iff_getElem?.2 ⟨i, h1⟩) hs
      · cases h2
  · rw [List.getElem?_singleton] at h1
    split at h1
    · cases h1
      split at h2
      · exact absurd (List.mem_iff_getElem?.2 ⟨j, h2⟩) hs
      · rw [List.getElem?_singleton] at h2
        split at h2
        · omega
        · cases h2
    · cases h1
theorem uniq_nil : Uniq [] := by intro i j n h; simp at h
theorem item_known {t : Tr} {s : ByteArray} (hk : KnownT t) : KnownT (itemOr t s) := by
  unfold itemOr
  split
  · rename_i i hi
    obtain ⟨k, x, tx, ns, its⟩ := t
    unfold KnownT at hk
    rw [List.getD_eq_getElem?_getD]
    cases h : (Tr.node k x tx ns its).items[i]? with
    | none => exact known_empty
    | some u => exact (knownL_iff its).1 hk.2.2 i u h
  · exact known_empty
theorem put_known {t u : Tr} {s : ByteArray} (hk : KnownT t) (hu : KnownT u) (hc : canT t s) : KnownT (putT t s u) := by
  have hk' := hk
  obtain ⟨k, x, tx, ns, its⟩ := t
  unfold KnownT at hk'
  rcases can_cases hk hc with ⟨h6, i, hi, hlt, _, h2⟩ | ⟨h6, hn, _, h2⟩ | ⟨h5, i, hi, hlt, _, h2⟩ | ⟨h5, hi, _, h2⟩
  all_goals
    rw [h2 u]
    simp only [Tr.kind, Tr.names, Tr.items] at *
    unfold KnownT
  · exact ⟨fun _ => by simpa using hk'.1 h6, hk'.2.1, knownL_set hk'.2.2 hu i⟩
  · exact ⟨fun _ => by simpa using hk'.1 h6, uniq_snoc hk'.2.1 hn, knownL_snoc hk'.2.2 hu⟩
  · exact ⟨fun e => by omega, uniq_nil, knownL_set hk'.2.2 hu i⟩
  · exact ⟨fun e => by omega, uniq_nil, knownL_snoc hk'.2.2 hu⟩
theorem rset_known (X : Tr) (hX : KnownT X) : (l : List ByteArray) → (t a : Tr) → KnownT t → rsetT l t X = some a → KnownT a
  | [], t, a, _, h => by simp [rsetT] at h; subst h; exact hX
  | s :: r, t, a, hk, h => by
    rw [rsetT] at h
    split at h
    · rename_i hc
      obtain ⟨u, h1, rfl⟩ := Option.map_eq_some_iff.1 h
      exact put_known hk (rset_known X hX r _ u (item_known hk) h1) hc
    · cases h
theorem get_set {its : List Tr} {i : Nat} {u : Tr} (h : i < its.length) : (its.set i u)[i]? = some u := by simp [h]
/-- The same item again. -/
theorem put_again {t u : Tr} {s : ByteArray} (hk : KnownT t) (hu : KnownT u) (hc : canT t s) : itemOr (putT t s u) s = u ∧ ∀ v, putT (putT t s u) s v = putT t s v := by
  have hk1 := put_known hk hu hc
  have hk' := hk
  obtain ⟨k, x, tx, ns, its⟩ := t
  unfold KnownT at hk'
  rcases can_cases hk hc with ⟨h6, i, hi, hlt, _, h2⟩ | ⟨h6, hn, _, h2⟩ | ⟨h5, i, hi, hlt, _, h2⟩ | ⟨h5, hi, _, h2⟩
  all_goals simp only [Tr.kind, Tr.names, Tr.items] at *
  · rw [h2 u] at hk1 ⊢
    obtain ⟨h3, h4⟩ := puto_at hk1 hi
    rw [get_set hlt] at h3
    exact ⟨(Option.some.inj h3).symm, fun v => by rw [h4, h2]; simp⟩
  · have hl := hk'.1 h6
    rw [h2 u] at hk1 ⊢
    obtain ⟨h3, h4⟩ := puto_at (i := ns.length) (s := s) hk1 (by simp)
    rw [hl] at h3
    simp at h3
    exact ⟨h3.symm, fun v => by rw [h4, h2, hl]; simp⟩
  · rw [h2 u] at hk1 ⊢
    obtain ⟨h3, h4⟩ := putl_at hk1 hi (by simpa using hlt)
    rw [get_set hlt] at h3
    exact ⟨(Option.some.inj h3).symm, fun v => by rw [h4, h2]; simp⟩
  · rw [h2 u] at hk1 ⊢
    obtain ⟨h3, h4⟩ := putl_at hk1 hi (by simp)
    simp at h3
    exact ⟨h3.symm, fun v => by rw [h4, h2]; simp⟩
theorem sim_lists {k : Int} {ns : List ByteArray} {its its' : List Tr} (hl : its.length = its'.length) (h6 : k = 6 → ns.length = its.length) (hu : Uniq ns) (h : ∀ (i : Nat) (u v : Tr), its[i]? = some u → its'[i]? = some v → Sim u v) : Sim (.node k 0 ⟨#[]⟩ ns its) (.node k 0 ⟨#[]⟩ ns its') := by
  refine .mk k 0 _ ns its ns its' id rfl hl (fun i hi => ⟨by simp only [id]; omega, ?_⟩) (fun i u v h1 h2 => h i u v h1 h2)
  by_cases e : k = 6
  · subst e
    have := h6 rfl
    exact match_uniq hu (List.getElem?_eq_getElem (show i < ns.length by omega)) (List.getElem?_eq_getElem (show i < ns.length by omega))
  · unfold MatchAt; rw [if_neg e]; rfl
theorem sim_at {its : List Tr} {x y : Tr} (hk : KnownL its) (h : Sim x y) {i j : Nat} {u v : Tr} (h1 : (its.set i x)[j]? = some u) (h2 : (its.set i y)[j]? = some v) : Sim u v := by
  rw [List.getElem?_set] at h1 h2
  split at h1
  · rename_i e
    subst e
    split at h1
    · rename_i hl
      cases h1
      simp [hl] at h2
      subst h2
      exact h
    · cases h1
  · rename_i e
    rw [if_neg e] at h2
    rw [h1] at h2
    cases h2
    exact sim_refl _ ((knownL_iff its).1 hk j u h1)
theorem sim_end {its : List Tr} {x y : Tr} (hk : KnownL its) (h : Sim x y) {j : Nat} {u v : Tr} (h1 : (its ++ [x])[j]? = some u) (h2 : (its ++ [y])[j]? = some v) : Sim u v := by
  rw [List.getElem?_append] at h1 h2
  split at h1
  · rename_i hj
    rw [if_pos hj, h1] at h2
    cases h2
    exact sim_refl _ ((knownL_iff its).1 hk j u h1)
  · rename_i hj
    rw [if_neg hj, List.getElem?_singleton] at h2
    rw [List.getElem?_singleton] at h1
    split at h1
    · rename_i h0
      rw [if_pos h0] at h2
      cases h1; cases h2
      exact h
    · cases h1
theorem sim_put {t x y : Tr} {s : ByteArray} (hk : KnownT t) (hc : canT t s) (h : Sim x y) : Sim (putT t s x) (putT t s y) := by
  have hk' := hk
  obtain ⟨k, x0, tx, ns, its⟩ := t
  unfold KnownT at hk'
  rcases can_cases hk hc with ⟨h6, i, hi, hlt, _, h2⟩ | ⟨h6, hn, _, h2⟩ | ⟨h5, i, hi, hlt, _, h2⟩ | ⟨h5, hi, _, h2⟩
  all_goals
    rw [h2 x, h2 y]
    simp only [Tr.kind, Tr.names, Tr.items] at *
  · exact sim_lists (by simp) (fun _ => by simpa using hk'.1 h6) hk'.2.1 (fun i u v h1 h2 => sim_at hk'.2.2 h h1 h2)
  · exact sim_lists (by simp) (fun _ => by simpa using hk'.1 h6) (uniq_snoc hk'.2.1 hn) (fun i u v h1 h2 => sim_end hk'.2.2 h h1 h2)
  · exact sim_lists (by simp) (fun e => by omega) uniq_nil (fun i u v h1 h2 => sim_at hk'.2.2 h h1 h2)
  · exact sim_lists (by simp) (fun e => by omega) uniq_nil (fun i u v h1 h2 => sim_end hk'.2.2 h h1 h2)
end Go.Proofs.Ytmlbofbnklmedaa
/-! Two changes of one value that do not clash: the order has no part. -/
namespace Go.Proofs.Ytmlbofbnklmedaa
open Go Go.RowKit

theorem sim_eq {a b : Tr} (h : KnownT a) (e : a = b) : Sim a b := by subst e; exact sim_refl a h
theorem not_mem_snoc {ns : List ByteArray} {s t : ByteArray} (h : ¬ t ∈ ns) (hne : s ≠ t) : ¬ t ∈ ns ++ [s] := by
  intro hm
  rcases List.mem_append.1 hm with hm | hm
  · exact h hm
  · exact hne (List.mem_singleton.1 hm).symm
theorem get_left {α : Type} {l r : List α} {i : Nat} (h : i < l.length) : (l ++ r)[i]? = l[i]? := List.getElem?_append_left h
theorem put_two {V u v : Tr} {s t : ByteArray} (hne : s ≠ t) (hk : KnownT V) (hu : KnownT u) (hv : KnownT v) (hs : canT V s) (ht : canT V t) :
    itemOr (putT V s u) t = itemOr V t ∧ Sim (putT (putT V s u) t v) (putT (putT V t v) s u) := by
  have hk1 := put_known hk hu hs
  have hk2 := put_known hk hv ht
  have hk' := hk
  obtain ⟨k, x, tx, ns, its⟩ := V
  unfold KnownT at hk'
  obtain ⟨h6l, huq, hkl⟩ := hk'
  rcases can_cases hk hs with ⟨h6, i, hi, hlt, a1, a2⟩ | ⟨h6, hn, a1, a2⟩ | ⟨h5, i, hi, hlt, a1, a2⟩ | ⟨h5, hi, a1, a2⟩
  all_goals rcases can_cases hk ht with ⟨g6, j, hj, hlt', b1, b2⟩ | ⟨g6, gn, b1, b2⟩ | ⟨g5, j, hj, hlt', b1, b2⟩ | ⟨g5, hj, b1, b2⟩
  all_goals simp only [Tr.kind, Tr.names, Tr.items] at *
  all_goals first | (exfalso; omega) | skip
  · have hij : i ≠ j := fun e => by subst e; rw [hi] at hj; exact hne (Option.some.inj hj)
    rw [a2 u] at hk1 ⊢
    rw [b2 v] at hk2 ⊢
    obtain ⟨c1, c2⟩ := puto_at hk1 hj
    obtain ⟨_, d2⟩ := puto_at hk2 hi
    rw [List.getElem?_set_ne hij, b1] at c1
    have hk3 := put_known (s := t) hk1 hv (.inr (.inl rfl))
    rw [c2 v] at hk3
    rw [c2, d2]
    exact ⟨(Option.some.inj c1).symm, sim_eq hk3 (by rw [List.set_comm _ _ hij])⟩
  · rw [a2 u] at hk1 ⊢
    rw [b2 v] at hk2 ⊢
    obtain ⟨c1, c2⟩ := puto_new hk1 gn
    obtain ⟨_, d2⟩ := puto_at (i := i) (s := s) hk2 (by rw [get_left (List.getElem?_eq_some_iff.1 hi).1]; exact hi)
    have hk3 := put_known (s := t) hk1 hv (.inr (.inl rfl))
    rw [c2 v] at hk3
    rw [c2, d2, c1, b1]
    exact ⟨rfl, sim_eq hk3 (by rw [List.set_append_left _ _ hlt])⟩
  · rw [a2 u] at hk1 ⊢
    rw [b2 v] at hk2 ⊢
    obtain ⟨c1, c2⟩ := puto_at (i := j) (s := t) hk1 (by rw [get_left (List.getElem?_eq_some_iff.1 hj).1]; exact hj)
    obtain ⟨_, d2⟩ := puto_new hk2 hn
    rw [get_left hlt', b1] at c1
    have hk3 := put_known (s := t) hk1 hv (.inr (.inl rfl))
    rw [c2 v] at hk3
    rw [c2, d2]
    exact ⟨(Option.some.inj c1).symm, sim_eq hk3 (by rw [List.set_append_left _ _ hlt'])⟩
  · have hl := h6l h6
    rw [a2 u] at hk1 ⊢
    rw [b2 v] at hk2 ⊢
    obtain ⟨c1, c2⟩ := puto_new hk1 (not_mem_snoc gn hne)
    obtain ⟨_, d2⟩ := puto_new hk2 (not_mem_snoc hn hne.symm)
    have hk4 := put_known (s := s) hk2 hu (.inr (.inl rfl))
    rw [d2 u] at hk4
    have hu4 : Uniq (ns ++ [t] ++ [s]) := by unfold KnownT at hk4; exact hk4.2.1
    rw [c2, d2, c1, b1]
    refine ⟨rfl, .mk 6 0 _ _ _ _ _ (fun q => if q < its.length then q else if q = its.length then its.length + 1 else its.length) (by simp) (by simp) (fun q hq => ?_) (fun q y z h1 h2 => ?_)⟩
    · simp only [List.length_append, List.length_singleton] at hq ⊢
      by_cases h1 : q < its.length
      · rw [if_pos h1]
        refine ⟨by omega, match_uniq (n := ns[q]'(by omega)) hu4 ?_ ?_⟩
        · rw [get_left (by simp; omega), get_left (by omega)]; exact List.getElem?_eq_getElem _
        · rw [get_left (by simp; omega), get_left (by omega)]; exact List.getElem?_eq_getElem _
      · rw [if_neg h1]
        by_cases h2 : q = its.length
        · rw [if_pos h2]
          refine ⟨by omega, match_uniq (n := s) hu4 ?_ ?_⟩
          · rw [h2, ← hl, get_left (by simp)]; simp
          · rw [← hl]; simp
        · rw [if_neg h2]
          refine ⟨by omega, match_uniq (n := t) hu4 ?_ ?_⟩
          · rw [show q = ns.length + 1 by omega]; simp
          · rw [← hl, get_left (by simp)]; simp
    · by_cases h1' : q < its.length
      · rw [if_pos h1'] at h2
        rw [get_left (by simp; omega), get_left h1'] at h1 h2
        rw [h1] at h2
        cases h2
        exact sim_refl _ ((knownL_iff its).1 hkl q y h1)
      · rw [if_neg h1'] at h2
        by_cases h2' : q = its.length
        · rw [if_pos h2'] at h2
          rw [h2', get_left (by simp)] at h1
          simp at h1 h2
          subst h1; subst h2
          exact sim_refl _ hu
        · rw [if_neg h2', get_left (by simp)] at h2
          have hql := (List.getElem?_eq_some_iff.1 h1).1
          simp only [List.length_append, List.length_singleton] at hql
          rw [show q = its.length + 1 by omega] at h1
          simp at h1 h2
          subst h1; subst h2
          exact sim_refl _ hv
  · have hij : i ≠ j := fun e => by subst e; exact hne (idx_inj hi hj)
    have hcv : canT (putT (.node k x tx ns its) s u) t := by rw [a2 u]; exact .inl (place_list.2 ⟨j, hj, by simpa [Tr.items] using hlt'⟩)
    have hk3 := put_known hk1 hv hcv
    rw [a2 u] at hk1 hk3 ⊢
    rw [b2 v] at hk2 ⊢
    obtain ⟨c1, c2⟩ := putl_at hk1 hj (by simpa using hlt')
    obtain ⟨_, d2⟩ := putl_at hk2 hi (by simpa using hlt)
    rw [List.getElem?_set_ne hij, b1] at c1
    rw [c2 v] at hk3
    rw [c2, d2]
    exact ⟨(Option.some.inj c1).symm, sim_eq hk3 (by rw [List.set_comm _ _ hij])⟩
  · have hcv : canT (putT (.node k x tx ns its) s u) t := by rw [a2 u]; exact .inr (.inr ⟨rfl, by simpa [Tr.items] using hj⟩)
    have hk3 := put_known hk1 hv hcv
    rw [a2 u] at hk1 hk3 ⊢
    rw [b2 v] at hk2 ⊢
    obtain ⟨c1, c2⟩ := putl_new hk1 (by simpa using hj)
    obtain ⟨_, d2⟩ := putl_at hk2 hi (by simp; omega)
    rw [c2 v] at hk3
    rw [c2, d2, c1, b1]
    exact ⟨rfl, sim_eq hk3 (by rw [List.set_append_left _ _ hlt])⟩
  · have hcv : canT (putT (.node k x tx ns its) s u) t := by rw [a2 u]; exact .inl (place_list.2 ⟨j, hj, by simp [Tr.items]; omega⟩)
    have hk3 := put_known hk1 hv hcv
    rw [a2 u] at hk1 hk3 ⊢
    rw [b2 v] at hk2 ⊢
    obtain ⟨c1, c2⟩ := putl_at hk1 hj (by simp; omega)
    obtain ⟨_, d2⟩ := putl_new hk2 (by simpa using hi)
    rw [get_left hlt', b1] at c1
    rw [c2 v] at hk3
    rw [c2, d2]
    exact ⟨(Option.some.inj c1).symm, sim_eq hk3 (by rw [List.set_append_left _ _ hlt'])⟩
  · exact absurd (idx_inj hi hj) hne
/-- One path leads to the other, or on from it. -/
def clashT : List ByteArray → List ByteArray → Bool
  | a :: A, b :: B => decide (a = b) && clashT A B
  | _, _ => true
theorem rset_cons {s : ByteArray} {r : List ByteArray} {t X a : Tr} (h : rsetT (s :: r) t X = some a) : canT t s ∧ ∃ u, rsetT r (itemOr t s) X = some u ∧ a = putT t s u := by
  rw [rsetT] at h
  split at h
  · rename_i hc
    obtain ⟨u, h1, h2⟩ := Option.map_eq_some_iff.1 h
    exact ⟨hc, u, h1, h2.symm⟩
  · cases h
theorem order_pure {X Y : Tr} (hX : KnownT X) (hY : KnownT Y) : (A B : List ByteArray) → clashT A B = false → (V a b c d : Tr) → KnownT V → rsetT A V X = some a → rsetT B a Y = some b → rsetT B V Y = some c → rsetT A c X = some d → Sim b d
  | [], _, h, _, _, _, _, _, _, _, _, _, _ => by simp [clashT] at h
  | _ :: _, [], h, _, _, _, _, _, _, _, _, _, _ => by simp [clashT] at h
  | s :: A, t :: B, h, V, a, b, c, d, hV, h1, h2, h3, h4 => by
    obtain ⟨c1, u1, e1, rfl⟩ := rset_cons h1
    obtain ⟨c2, u2, e2, rfl⟩ := rset_cons h2
    obtain ⟨c3, u3, e3, rfl⟩ := rset_cons h3
    obtain ⟨c4, u4, e4, rfl⟩ := rset_cons h4
    have k1 := rset_known X hX A _ u1 (item_known hV) e1
    have k3 := rset_known Y hY B _ u3 (item_known hV) e3
    by_cases hst : s = t
    · subst hst
      obtain ⟨p1, p2⟩ := put_again hV k1 c1
      obtain ⟨q1, q2⟩ := put_again hV k3 c1
      rw [p1] at e2
      rw [q1] at e4
      rw [p2, q2]
      exact sim_put hV c1 (order_pure hX hY A B (by simpa [clashT] using h) (itemOr V s) u1 u2 u3 u4 (item_known hV) e1 e2 e3 e4)
    · obtain ⟨p1, p2⟩ := put_two hst hV k1 k3 c1 c3
      obtain ⟨q1, q2⟩ := put_two (Ne.symm hst) hV k3 k1 c3 c1
      rw [p1, e3] at e2
      rw [q1, e1] at e4
      cases e2
      cases e4
      exact p2
/-- What two lookings tell of values that are alike. -/
def GotSim : Option Tr → Option Tr → Prop
  | some x, some y => Sim x y
  | none, none => True
  | _, _ => False
theorem get_sim : (l : List ByteArray) → (b d : Tr) → KnownT b → KnownT d → Sim b d → Sim d b → GotSim (getT b l) (getT d l)
  | [], b, d, _, _, h, _ => by simpa [getT, GotSim] using h
  | s :: r, b, d, hb, hd, h, h' => by
    cases h with
    | mk k x tx ns its ns' its' f e1 e2 hf hs =>
    cases h' with
    | mk _ _ _ _ _ _ _ g g1 g2 hg hgs =>
    have hb' := hb
    have hd' := hd
    unfold KnownT at hb' hd'
    have step : ∀ (i j : Nat) (u v : Tr), its[i]? = some u → its'[j]? = some v → placeB k ns its.length s = true → placeI k ns s = i → placeB k ns' its'.length s = true → placeI k ns' s = j → f i = j → g j = i → GotSim (getT (.node k x tx ns its) (s :: r)) (getT (.node k x tx ns' its') (s :: r)) := by
      intro i j u v hu hv p1 p2 p3 p4 hfi hgj
      rw [getT_some (t := .node k x tx ns its) p1 p2 hu, getT_some (t := .node k x tx ns' its') p3 p4 hv]
      exact get_sim r u v ((knownL_iff its).1 hb'.2.2 i u hu) ((knownL_iff its').1 hd'.2.2 j v hv) (hs i u v hu (by rw [hfi]; exact hv)) (hgs j v u hv (by rw [hgj]; exact hu))
    have none2 : placeB k ns its.length s = false → placeB k ns' its'.length s = false → GotSim (getT (.node k x tx ns its) (s :: r)) (getT (.node k x tx ns' its') (s :: r)) := by
      intro p1 p2
      rw [getT_none (t := .node k x tx ns its) p1, getT_none (t := .node k x tx ns' its') p2]
      trivial
    by_cases h6 : k = 6
    · subst h6
      have l1 := hb'.1 rfl
      have l2 := hd'.1 rfl
      by_cases hm : s ∈ ns
      · obtain ⟨i, hi⟩ := mem_at hm
        have hil := (List.getElem?_eq_some_iff.1 hi).1
        obtain ⟨hfl, hfm⟩ := hf i (by omega)
        unfold MatchAt at hfm
        rw [if_pos rfl] at hfm
        obtain ⟨n, hn1, hn2, _⟩ := hfm
        have : n = s := by rw [hi] at hn1; exact (Option.some.inj hn1).symm
        subst this
        obtain ⟨hgl, hgm⟩ := hg (f i) hfl
        unfold MatchAt at hgm
        rw [if_pos rfl] at hgm
        obtain ⟨n', hn1', hn2', _⟩ := hgm
        have : n' = n := by rw [hn2] at hn1'; exact (Option.some.inj hn1').symm
        subst this
        obtain ⟨p1, p2⟩ := place_obj hb'.2.1 l1 hi
        obtain ⟨p3, p4⟩ := place_obj hd'.2.1 l2 hn2
        exact step i (f i) _ _ (List.getElem?_eq_getElem (by omega)) (List.getElem?_eq_getElem hfl) p1 p2 p3 p4 rfl (hb'.2.1 _ _ _ hn2' hi)
      · refine none2 (place_objN hm) (place_objN (fun hm' => hm ?_))
        obtain ⟨j, hj⟩ := mem_at hm'
        have hjl := (List.getElem?_eq_some_iff.1 hj).1
        obtain ⟨hgl, hgm⟩ := hg j (by omega)
        unfold MatchAt at hgm
        rw [if_pos rfl] at hgm
        obtain ⟨n, hn1, hn2, _⟩ := hgm
        have : n = s := by rw [hj] at hn1; exact (Option.some.inj hn1).symm
        subst this
        exact List.mem_iff_getElem?.2 ⟨_, hn2⟩
    · have same : placeB k ns' its'.length s = placeB k ns its.length s := by unfold placeB; rw [if_neg h6, if_neg h6, e2]
      by_cases hp : placeB k ns its.length s = true
      · obtain ⟨i, hi, hlt⟩ := placeB_true hp
        have hi' : placeI k ns' s = i := by unfold placeI at *; rw [if_neg h6] at *; exact hi
        have hfi : f i = i := by have := (hf i hlt).2; unfold MatchAt at this; rw [if_neg h6] at this; exact this
        have hgi : g i = i := by have := (hg i (by omega)).2; unfold MatchAt at this; rw [if_neg h6] at this; exact this
        exact step i i _ _ (List.getElem?_eq_getElem hlt) (List.getElem?_eq_getElem (by omega)) hp hi (same.trans hp) hi' hfi hgi
      · have hp' : placeB k ns its.length s = false := by simpa using hp
        exact none2 hp' (same.trans hp')
end Go.Proofs.Ytmlbofbnklmedaa
