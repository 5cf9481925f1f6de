import Derived.Test.YtpdcinicnekeoaaPB
/-! watch, plain: whoever asks again and again. No program. -/
namespace Go.Watch
def newer (af : Int) (c : Chg) : Bool := decide (af < c.st)
/-- What is owed to whoever was told up to af. -/
structure FI (k : Nat) (g : Lg) (af : Int) (owed : List Chg) : Prop where
  ok : g.Ok k
  af0 : 0 ≤ af
  top : af ≤ lastSt g.cs
  has : g.hor ≤ af → owed = g.cs.filter (newer af)
  lost : af < g.hor → k < owed.length
theorem newer_all {l : List Chg} {af : Int} (h : ∀ c ∈ l, af < c.st) : l.filter (newer af) = l := by
  rw [List.filter_eq_self]
  intro c hc
  exact decide_eq_true (h c hc)
theorem newer_none {l : List Chg} {af : Int} (h : ∀ c ∈ l, c.st ≤ af) : l.filter (newer af) = [] := by
  rw [List.filter_eq_nil_iff]
  intro c hc
  have := h c hc
  simp [newer]
  omega
theorem FI.start (k : Nat) : FI k ⟨0, []⟩ 0 [] := ⟨⟨Rise.nil, fun c h => by simp at h, fun c h => by simp at h, Int.le_refl _, Int.le_refl _, Nat.zero_le _⟩, Int.le_refl _, Int.le_refl _, fun _ => rfl, fun h => by simp at h⟩
theorem FI.same {k : Nat} {g : Lg} {af s : Int} {owed new : List Chg} (h : FI k g af owed) (hs : s ≤ lastSt g.cs ∨ new = []) : FI k (withG k g s new) af owed := by
  have e : withG k g s new = g := by unfold withG; rw [if_pos hs]
  rw [e]
  exact h
theorem FI.more {k : Nat} {g : Lg} {af s : Int} {owed new : List Chg} (h : FI k g af owed) (hk : 1 ≤ k) (hs : lastSt g.cs < s) (hn : new ≠ []) : FI k (withG k g s new) af (owed ++ new.map (Chg.at s)) := by
  obtain ⟨hr, hall⟩ := all_ok (new := new) h.ok hs
  have hlast := withG_last h.ok hk hs hn
  have hnew : (new.map (Chg.at s)).filter (newer af) = new.map (Chg.at s) := newer_all (fun c hc => by rw [mem_at hc]; have := h.top; omega)
  have hto : g.hor ≤ af → owed ++ new.map (Chg.at s) = (g.cs ++ new.map (Chg.at s)).filter (newer af) := fun hh => by
    rw [List.filter_append, hnew, h.has hh]
  refine ⟨withG_ok h.ok hk, h.af0, by rw [hlast.1]; have := h.top; omega, fun hh => ?_, fun hh => ?_⟩
  · rw [withG_eq h.ok hs hn] at hh ⊢
    simp only at hh ⊢
    by_cases hle : g.cs.length + new.length ≤ k
    · rw [if_pos hle] at hh
      rw [show g.cs.length + new.length - k = 0 from by omega, List.drop_zero]
      exact hto hh
    · rw [if_neg hle] at hh
      obtain ⟨m, hm⟩ : ∃ m, g.cs.length + new.length - k = m := ⟨_, rfl⟩
      rw [hm] at hh ⊢
      have hml : m ≤ (g.cs ++ new.map (Chg.at s)).length := by simp; omega
      have hne : (g.cs ++ new.map (Chg.at s)).take m ≠ [] := fun e => by have := congrArg List.length e; rw [List.length_take, List.length_nil] at this; omega
      have hhor : g.hor ≤ lastSt ((g.cs ++ new.map (Chg.at s)).take m) := by
        obtain ⟨c, hc⟩ := List.exists_mem_of_ne_nil _ hne
        have h1 := (hall c (List.mem_of_mem_take hc)).1
        have h2 := (hr.take m).last c hc
        omega
      rw [hto (by omega)]
      conv => lhs; rw [← List.take_append_drop m (g.cs ++ new.map (Chg.at s))]
      rw [List.filter_append, newer_none (fun c hc => by have := (hr.take m).last c hc; omega), List.nil_append]
  · rw [withG_eq h.ok hs hn] at hh
    simp only at hh
    by_cases hlost : af < g.hor
    · have := h.lost hlost
      rw [List.length_append]
      omega
    · by_cases hle : g.cs.length + new.length ≤ k
      · rw [if_pos hle] at hh
        omega
      · rw [if_neg hle] at hh
        obtain ⟨m, hm⟩ : ∃ m, g.cs.length + new.length - k = m + 1 := ⟨g.cs.length + new.length - k - 1, by omega⟩
        rw [hm] at hh
        have hml : m < (g.cs ++ new.map (Chg.at s)).length := by simp; omega
        have he := List.getElem?_eq_getElem hml
        have e2 := lastSt_get ((g.cs ++ new.map (Chg.at s)).take (m + 1)) m _ (by rw [List.getElem?_take_of_lt (by omega)]; exact he) (by rw [List.length_take]; omega)
        rw [hto (by omega)]
        conv => rhs; rw [← List.take_append_drop m (g.cs ++ new.map (Chg.at s))]
        rw [List.filter_append, List.length_append, newer_all (l := (g.cs ++ new.map (Chg.at s)).drop m) (fun c hc => ?_), List.length_drop]
        · simp
          omega
        · obtain ⟨i, hi⟩ := List.getElem?_of_mem hc
          rw [List.getElem?_drop] at hi
          have := hr _ _ _ _ he hi (by omega)
          omega
theorem asked_newer (l : List Chg) (af : Int) : asked l af ByteArray.empty = l.filter (newer af) := by
  unfold asked
  exact List.filter_eq_self.2 (fun c _ => by simp [pickB])
theorem FI.ask {k : Nat} {g : Lg} {af : Int} {owed : List Chg} (h : FI k g af owed) (lim : Int) (hh : ¬ af < g.hor) :
    toldT g af lim ByteArray.empty = owed.take (fit owed lim) ∧ fit owed lim ≤ owed.length ∧ (owed ≠ [] → 0 < fit owed lim) ∧ af ≤ uptoT g af lim ByteArray.empty ∧ errT g af = 0 ∧ FI k g (uptoT g af lim ByteArray.empty) (owed.drop (fit owed lim)) := by
  have hhas := h.has (by omega)
  have hq : asked g.cs af ByteArray.empty = owed := by rw [asked_newer]; exact hhas.symm
  have hr : Rise owed := by rw [hhas]; exact h.ok.rise.filter
  have hmem : ∀ c ∈ owed, c ∈ g.cs ∧ af < c.st := fun c hc => by
    rw [hhas] at hc
    have := List.mem_filter.1 hc
    exact ⟨this.1, of_decide_eq_true this.2⟩
  have e1 : toldT g af lim ByteArray.empty = owed.take (fit owed lim) := by unfold toldT; rw [if_neg hh, hq]
  have e2 : uptoT g af lim ByteArray.empty = if fit owed lim < owed.length then lastSt (owed.take (fit owed lim)) else max af (lastSt g.cs) := by unfold uptoT; rw [if_neg hh, hq]
  have e3 : errT g af = 0 := if_neg hh
  have hfl := fit_le owed lim
  have hpos : owed ≠ [] → 0 < fit owed lim := fun hne => fit_pos hr lim hne
  have hcut := fit_cut hr lim
  obtain ⟨f, hf⟩ : ∃ f, fit owed lim = f := ⟨_, rfl⟩
  rw [hf] at e1 e2 hfl hpos hcut
  rw [hf, e1, e2, e3]
  by_cases hlt : f < owed.length
  · rw [if_pos hlt]
    have hf0 : 0 < f := hpos (fun e => by rw [e] at hlt; simp at hlt)
    obtain ⟨m, rfl⟩ : ∃ m, f = m + 1 := ⟨f - 1, by omega⟩
    have he := List.getElem?_eq_getElem (l := owed) (i := m) (by omega)
    have hst := lastSt_get (owed.take (m + 1)) m _ (by rw [List.getElem?_take_of_lt (by omega)]; exact he) (by rw [List.length_take]; omega)
    have hm := hmem _ (List.mem_of_getElem? he)
    have hle := h.ok.rise.last _ hm.1
    refine ⟨rfl, hfl, fun _ => hf0, by rw [hst]; omega, rfl, h.ok, by rw [hst]; have := h.af0; omega, by rw [hst]; exact hle, fun _ => ?_, fun h' => by rw [hst] at h'; omega⟩
    have hff : g.cs.filter (newer (lastSt (owed.take (m + 1)))) = owed.filter (newer (lastSt (owed.take (m + 1)))) := by
      rw [hhas, List.filter_filter]
      congr 1
      funext c
      rw [← hhas, hst]
      simp only [newer]
      by_cases hc : (owed[m]'(by omega)).st < c.st
      · have : af < c.st := by omega
        simp [hc, this]
      · simp [hc]
    rw [hff]
    conv => rhs; arg 2; rw [← List.take_append_drop (m + 1) owed]
    rw [List.filter_append, newer_none (fun c hc => (hr.take (m + 1)).last c hc), List.nil_append, newer_all (fun c hc => ?_)]
    obtain ⟨i, hi⟩ := List.getElem?_of_mem hc
    rw [List.getElem?_drop] at hi
    rw [hst]
    exact hcut m _ _ _ (by omega) (by omega) he hi
  · rw [if_neg hlt]
    have htop := h.top
    have hmx : max af (lastSt g.cs) = lastSt g.cs := by omega
    rw [hmx]
    refine ⟨rfl, hfl, hpos, htop, rfl, h.ok, by have := h.af0; omega, Int.le_refl _, fun _ => ?_, fun h' => by have := h.ok.top; omega⟩
    rw [List.drop_eq_nil_of_le (by omega), newer_none (fun c hc => h.ok.rise.last c hc)]
end Go.Watch
