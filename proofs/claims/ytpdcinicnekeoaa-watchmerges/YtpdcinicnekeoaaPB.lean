import Derived.Test.YtpdcinicnekeoaaPA
/-! watch, plain: what After tells. No program. -/
namespace Go.Watch
/-- How many have that stamp or one below it. -/
def upT : List Chg → Int → Nat
  | [], _ => 0
  | c :: l, s => if c.st ≤ s then upT l s + 1 else 0
theorem upT_le : (l : List Chg) → (s : Int) → upT l s ≤ l.length
  | [], _ => Nat.le_refl _
  | c :: l, s => by
    have := upT_le l s
    unfold upT
    split
    · simp; omega
    · simp
theorem upT_eq : (l : List Chg) → (s : Int) → (n : Nat) → n ≤ l.length → (∀ (i : Nat) c, i < n → l[i]? = some c → c.st ≤ s) → (∀ c, l[n]? = some c → s < c.st) → upT l s = n
  | [], _, n, hn, _, _ => by simp at hn; simp [upT, hn]
  | c :: l, s, 0, _, _, h2 => by
    have := h2 c rfl
    unfold upT
    rw [if_neg (by omega)]
  | c :: l, s, n + 1, hn, h1, h2 => by
    have h0 := h1 0 c (by omega) rfl
    unfold upT
    rw [if_pos h0, upT_eq l s n (by simpa using hn) (fun i d hi hd => h1 (i + 1) d (by omega) (by simpa using hd)) (fun d hd => h2 d (by simpa using hd))]
theorem drop_upT : (l : List Chg) → (s : Int) → Rise l → l.drop (upT l s) = l.filter (fun c => decide (s < c.st))
  | [], _, _ => rfl
  | c :: l, s, h => by
    unfold upT
    by_cases hc : c.st ≤ s
    · rw [if_pos hc, List.drop_succ_cons, drop_upT l s h.tail, List.filter_cons, if_neg (by simp; omega)]
    · rw [if_neg hc, List.drop_zero]
      symm
      rw [List.filter_eq_self]
      intro d hd
      rcases List.mem_cons.1 hd with rfl | hd
      · simp; omega
      · have := h.head d hd
        simp; omega
def pickB (inn : ByteArray) (c : Chg) : Bool := decide (inn = ByteArray.empty) || decide (c.nm = inn)
/-- What is asked for. -/
def asked (l : List Chg) (af : Int) (inn : ByteArray) : List Chg := (l.filter fun c => decide (af < c.st)).filter (pickB inn)
theorem asked_rise {l : List Chg} (h : Rise l) (af : Int) (inn : ByteArray) : Rise (asked l af inn) := (h.filter).filter
theorem asked_len (l : List Chg) (af : Int) (inn : ByteArray) : (asked l af inn).length ≤ l.length := Nat.le_trans (List.length_filter_le _ _) (List.length_filter_le _ _)
theorem asked_mem {l : List Chg} {af : Int} {inn : ByteArray} {c : Chg} (h : c ∈ asked l af inn) : c ∈ l ∧ af < c.st := by
  have h1 := (List.mem_filter.1 h).1
  have h2 := List.mem_filter.1 h1
  exact ⟨h2.1, by simpa using h2.2⟩
/-- How many of them are told. -/
def fit (l : List Chg) (lim : Int) : Nat :=
  if lim ≤ 0 ∨ (l.length : Int) ≤ lim then l.length else
    match l[lim.toNat]? with
    | some c => if 0 < upT l (c.st - 1) then upT l (c.st - 1) else upT l c.st
    | none => l.length
theorem fit_le (l : List Chg) (lim : Int) : fit l lim ≤ l.length := by
  unfold fit
  split
  · exact Nat.le_refl _
  · split
    · split
      · exact upT_le _ _
      · exact upT_le _ _
    · exact Nat.le_refl _
theorem fit_all {l : List Chg} {lim : Int} (h : lim ≤ 0 ∨ (l.length : Int) ≤ lim) : fit l lim = l.length := if_pos h
theorem fit_some {l : List Chg} {lim : Int} {c : Chg} (h0 : 0 < lim) (h : l[lim.toNat]? = some c) : fit l lim = if 0 < upT l (c.st - 1) then upT l (c.st - 1) else upT l c.st := by
  have hl := (List.getElem?_eq_some_iff.1 h).1
  unfold fit
  rw [if_neg (by omega), h]
theorem upT_pos {l : List Chg} {s : Int} {c : Chg} (h : l[0]? = some c) (hs : c.st ≤ s) : 0 < upT l s := by
  cases l with
  | nil => simp at h
  | cons d l =>
    simp at h
    subst h
    unfold upT
    rw [if_pos hs]
    omega
theorem fit_pos {l : List Chg} (hr : Rise l) (lim : Int) (h : l ≠ []) : 0 < fit l lim := by
  have hl : 0 < l.length := List.length_pos_iff.2 h
  by_cases hc : lim ≤ 0 ∨ (l.length : Int) ≤ lim
  · rw [fit_all hc]; exact hl
  · have he := List.getElem?_eq_getElem (l := l) (i := lim.toNat) (by omega)
    rw [fit_some (by omega) he]
    split
    · assumption
    · exact upT_pos (List.getElem?_eq_getElem hl) (hr 0 _ _ _ (List.getElem?_eq_getElem hl) he (by omega))
/-- What lies ahead of n is below what lies behind. -/
def CutAt (l : List Chg) (n : Nat) : Prop := ∀ (i j : Nat) (c d : Chg), i < n → n ≤ j → l[i]? = some c → l[j]? = some d → c.st < d.st
theorem upT_cut {l : List Chg} (hr : Rise l) (s : Int) : CutAt l (upT l s) := fun i j c d hi hj hc hd => by
  have h1 : ∀ (l : List Chg) (i : Nat) c, i < upT l s → l[i]? = some c → c.st ≤ s := by
    intro l
    induction l with
    | nil => intro i c _ h; simp at h
    | cons x l ih =>
      intro i c hi h
      unfold upT at hi
      split at hi
      · rcases i with _ | i
        · simp at h; subst h; assumption
        · exact ih i c (by omega) (by simpa using h)
      · omega
  have h2 : s < d.st := by
    have hm : d ∈ l.drop (upT l s) := by
      refine List.mem_of_getElem? (i := j - upT l s) ?_
      rw [List.getElem?_drop, show upT l s + (j - upT l s) = j from by omega]
      exact hd
    rw [drop_upT l s hr] at hm
    simpa using (List.mem_filter.1 hm).2
  have := h1 l i c hi hc
  omega
theorem fit_cut {l : List Chg} (hr : Rise l) (lim : Int) : CutAt l (fit l lim) := by
  by_cases hc : lim ≤ 0 ∨ (l.length : Int) ≤ lim
  · rw [fit_all hc]
    intro i j c d _ hj _ hd
    have := (List.getElem?_eq_some_iff.1 hd).1
    omega
  · rw [fit_some (by omega) (List.getElem?_eq_getElem (l := l) (i := lim.toNat) (by omega))]
    split
    · exact upT_cut hr _
    · exact upT_cut hr _
/-- What After tells. -/
def toldT (g : Lg) (af lim : Int) (inn : ByteArray) : List Chg := if af < g.hor then [] else (asked g.cs af inn).take (fit (asked g.cs af inn) lim)
def uptoT (g : Lg) (af lim : Int) (inn : ByteArray) : Int := if af < g.hor then 0 else if fit (asked g.cs af inn) lim < (asked g.cs af inn).length then lastSt ((asked g.cs af inn).take (fit (asked g.cs af inn) lim)) else max af (lastSt g.cs)
def errT (g : Lg) (af : Int) : Int := if af < g.hor then 180 else 0
/-- The document's walk, group by group. -/
structure RefI (l : List Chg) (lim : Int) (n : Nat) : Prop where
  le : n ≤ l.length
  cut : CutAt l n
  few : n = 0 ∨ (n : Int) ≤ lim ∨ ∀ (i : Nat) (c d : Chg), i < n → l[i]? = some c → l[0]? = some d → c.st = d.st
theorem RefI.zero (l : List Chg) (lim : Int) : RefI l lim 0 := ⟨Nat.zero_le _, fun i j c d hi => by omega, .inl rfl⟩
theorem ref_end {l : List Chg} {lim : Int} (h0 : 0 < lim) (h : RefI l lim l.length) : fit l lim = l.length := by
  by_cases hc : (l.length : Int) ≤ lim
  · exact fit_all (.inr hc)
  · rcases h.few with h1 | h1 | h1
    · omega
    · omega
    · have he := List.getElem?_eq_getElem (l := l) (i := lim.toNat) (by omega)
      have hz := List.getElem?_eq_getElem (l := l) (i := 0) (by omega)
      have e1 := h1 _ _ _ (by omega) he hz
      rw [fit_some h0 he, upT_eq l _ 0 (by omega) (fun i c hi => by omega) (fun c hc => by rw [hz] at hc; cases hc; omega), if_neg (by omega)]
      exact upT_eq l _ l.length (Nat.le_refl _) (fun i c hi hc => by have := h1 i c _ hi hc hz; omega) (fun c hc => by rw [List.getElem?_eq_none (Nat.le_refl _)] at hc; cases hc)
theorem ref_stop {l : List Chg} {lim : Int} {n k : Nat} (h0 : 0 < lim) (h : RefI l lim n) (hn : 0 < n) (hnl : n < l.length) (hk : k ≤ l.length) (hlk : lim < (k : Int)) (hg : ∀ (i : Nat) (c d : Chg), n ≤ i → i < k → l[i]? = some c → l[n]? = some d → c.st = d.st) : fit l lim = n := by
  have he := List.getElem?_eq_getElem (l := l) (i := lim.toNat) (by omega)
  have hz := List.getElem?_eq_getElem (l := l) (i := 0) (by omega)
  have hq := List.getElem?_eq_getElem (l := l) (i := n) hnl
  by_cases hc : (n : Int) ≤ lim
  · have e1 := hg _ _ _ (by omega) (by omega) he hq
    have e2 : upT l ((l[lim.toNat]'(by omega)).st - 1) = n := upT_eq l _ n h.le (fun i c hi hc => by have := h.cut i n c _ hi (Nat.le_refl _) hc hq; omega) (fun c hc => by rw [hq] at hc; cases hc; omega)
    rw [fit_some h0 he, e2, if_pos hn]
  · rcases h.few with h1 | h1 | h1
    · omega
    · omega
    · have e1 := h1 _ _ _ (by omega) he hz
      have e2 : upT l ((l[lim.toNat]'(by omega)).st - 1) = 0 := upT_eq l _ 0 (by omega) (fun i c hi => by omega) (fun c hc => by rw [hz] at hc; cases hc; omega)
      rw [fit_some h0 he, e2, if_neg (by omega)]
      refine upT_eq l _ n h.le (fun i c hi hc => by have := h1 i c _ hi hc hz; omega) (fun c hc => ?_)
      have := h.cut 0 n _ c hn (Nat.le_refl _) hz hc
      omega
theorem ref_step {l : List Chg} {lim : Int} {n k : Nat} (hr : Rise l) (hnl : n < l.length) (hnk : n < k) (hk : k ≤ l.length) (hg : ∀ (i : Nat) (c d : Chg), n ≤ i → i < k → l[i]? = some c → l[n]? = some d → c.st = d.st) (he : ∀ (c d : Chg), l[k]? = some c → l[n]? = some d → c.st ≠ d.st) (hs : n = 0 ∨ (k : Int) ≤ lim) : RefI l lim k := by
  have hq := List.getElem?_eq_getElem (l := l) (i := n) hnl
  refine ⟨hk, fun i j c d hi hj hc hd => ?_, ?_⟩
  · have hkl : k < l.length := by have := (List.getElem?_eq_some_iff.1 hd).1; omega
    have hkk := List.getElem?_eq_getElem (l := l) (i := k) hkl
    have h1 := he _ _ hkk hq
    have h2 := hr n k _ _ hq hkk (by omega)
    have h3 := hr k j _ _ hkk hd hj
    rcases Nat.lt_or_ge i n with h4 | h4
    · have := hr i n _ _ hc hq (by omega)
      omega
    · have := hg i c _ h4 hi hc hq
      omega
  · rcases hs with hs | hs
    · subst hs
      exact .inr (.inr (fun i c d hi hc hd => hg i c d (by omega) hi hc hd))
    · exact .inr (.inl hs)
end Go.Watch
