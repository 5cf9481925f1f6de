import Derived.Test.YtdgdfpgekccibabKA
/-! clocks: the counts of a clock; the first event with which one races. -/
namespace Go.Proofs.Ytdgdfpgekccibab
open Go Go.RowKit
/-- How many of the first k events are of a client: so far its own clock has come. -/
theorem own_count (evs : List Ev) (c : Nat) : (k : Nat) → k ≤ evs.length → (runS (evs.take k)).cl c c = (evs.take k).countP (fun e => decide (e.c.toNat = c))
  | 0, _ => rfl
  | k + 1, h => by
    have hk : evs[k]? = some evs[k] := List.getElem?_eq_getElem (by omega)
    rw [runS_take hk, stepS_diag (runS_self evs k (by omega)), own_count evs c k (by omega), List.take_succ_eq_append_getElem (by omega), List.countP_append, List.countP_singleton]
    by_cases e : c = evs[k].c.toNat
    · rw [if_pos e, decide_eq_true e.symm]; rfl
    · rw [if_neg e, decide_eq_false (fun h => e h.symm)]; rfl
/-- A row of the document's counts behind its first m events: those that are known, and the event itself. -/
def cntR (evs : List Ev) (j : Nat) (f : Ev) : Nat → Nat → Nat
  | 0, c => if f.c.toNat = c then 1 else 0
  | m + 1, c => match evs[m]? with
    | some e => if knowB evs j m && decide (e.c.toNat = c) then cntR evs j f m c + 1 else cntR evs j f m c
    | none => cntR evs j f m c
theorem cntR_le (evs : List Ev) (j : Nat) (f : Ev) (c : Nat) : (m : Nat) → cntR evs j f m c ≤ m + 1
  | 0 => by unfold cntR; split <;> omega
  | m + 1 => by
    have := cntR_le evs j f c m
    unfold cntR
    split
    · split <;> omega
    · omega
/-- Of a client's first events, so many as are known. -/
theorem cntR_own {evs : List Ev} {j : Nat} {f : Ev} (hj : evs[j]? = some f) (c : Nat) : (m : Nat) → m ≤ j → cntR evs j f m c = (if f.c.toNat = c then 1 else 0) + min ((runS (evs.take m)).cl c c) (clkAt evs j c)
  | 0, _ => by
    have : (runS (evs.take 0)).cl c c = 0 := rfl
    rw [this]
    unfold cntR
    simp
  | m + 1, h => by
    have hjl := (List.getElem?_eq_some_iff.1 hj).1
    have hm : evs[m]? = some evs[m] := List.getElem?_eq_getElem (by omega)
    have ih := cntR_own hj c m (by omega)
    rw [runS_take hm, stepS_diag (runS_self evs m (by omega))]
    simp only [cntR, hm]
    have hown := clkAt_own hm
    rw [knowB_eq hm, decide_eq_true (by omega : m < j), Bool.true_and]
    generalize evs[m] = z at hown ⊢
    by_cases ec : z.c.toNat = c
    · subst ec
      simp only [decide_true, Bool.and_true, decide_eq_true_eq, if_true]
      rw [ih]
      split <;> omega
    · rw [decide_eq_false ec, Bool.and_false, ih, if_neg (fun h : c = z.c.toNat => ec h.symm)]
      rfl
/-- The document's counts are the clock. -/
theorem cntR_clk {evs : List Ev} {j : Nat} {f : Ev} (hj : evs[j]? = some f) (c : Nat) : cntR evs j f j c = clkAt evs j c := by
  have hjl := (List.getElem?_eq_some_iff.1 hj).1
  rw [cntR_own hj c j (Nat.le_refl _)]
  by_cases ec : f.c.toNat = c
  · subst ec
    rw [if_pos rfl, clkAt_own hj]
    omega
  · rw [if_neg ec]
    have h1 := (runS_self evs (j + 1) (by omega)).1 f.c.toNat c
    rw [clkAt_cl hj, runS_take hj, stepS_diag (runS_self evs j (by omega)), if_neg (fun h => ec h.symm)] at h1
    omega
/-- Do two events race (i below j)? -/
def raceD (evs : List Ev) (i j : Nat) : Bool := match evs[i]?, evs[j]? with
  | some a, some b => isUse a && isUse b && (decide (a.k = 9) || decide (b.k = 9)) && oneT a b && !decide (a.c = b.c) && !knowB evs j i
  | _, _ => false
theorem raceD_eq {evs : List Ev} {i j : Nat} {a b : Ev} (ha : evs[i]? = some a) (hb : evs[j]? = some b) : raceD evs i j = (isUse a && isUse b && (decide (a.k = 9) || decide (b.k = 9)) && oneT a b && !decide (a.c = b.c) && !knowB evs j i) := by unfold raceD; rw [ha, hb]
/-- The first of d events from i on with which event j races. -/
def scanR (evs : List Ev) (j i : Nat) : Nat → Option Nat
  | 0 => none
  | d + 1 => if raceD evs i j then some i else scanR evs j (i + 1) d
theorem scanR_some {evs : List Ev} {j : Nat} : {d i q : Nat} → scanR evs j i d = some q → i ≤ q ∧ q < i + d ∧ raceD evs q j = true ∧ ∀ p, i ≤ p → p < q → raceD evs p j = false
  | 0, i, q, h => by cases h
  | d + 1, i, q, h => by
    unfold scanR at h
    split at h
    · next hr => cases h; exact ⟨Nat.le_refl _, by omega, hr, fun p h1 h2 => by omega⟩
    · next hr =>
      obtain ⟨h1, h2, h3, h4⟩ := scanR_some h
      refine ⟨by omega, by omega, h3, fun p p1 p2 => ?_⟩
      by_cases e : p = i
      · subst e; simpa using hr
      · exact h4 p (by omega) p2
theorem scanR_none {evs : List Ev} {j : Nat} : {d i : Nat} → scanR evs j i d = none → ∀ p, i ≤ p → p < i + d → raceD evs p j = false
  | 0, i, _ => fun p h1 h2 => by omega
  | d + 1, i, h => fun p h1 h2 => by
    unfold scanR at h
    split at h
    · cases h
    · next hr =>
      by_cases e : p = i
      · subst e; simpa using hr
      · exact scanR_none h p (by omega) (by omega)
/-- The least of those that are told. -/
theorem fold_min (now : Clk) (wb : Bool) : (us : List Usr) → (acc : Option Nat) → (q : Nat) → us.foldl (apartStep now wb) acc = some q → (acc = some q ∨ ∃ u ∈ us, firstU (if wb then u.all else u.wr) (now u.c) = some q) ∧ (∀ p, acc = some p → q ≤ p) ∧ ∀ u ∈ us, ∀ p, firstU (if wb then u.all else u.wr) (now u.c) = some p → q ≤ p
  | [], acc, q, h => ⟨.inl h, fun p hp => by have h' : acc = some q := h; rw [h'] at hp; cases hp; exact Nat.le_refl _, fun u hu => by cases hu⟩
  | u :: us, acc, q, h => by
    obtain ⟨h1, h2, h3⟩ := fold_min now wb us _ q h
    have key : (apartStep now wb acc u = some q → acc = some q ∨ firstU (if wb then u.all else u.wr) (now u.c) = some q) ∧ (∀ p, acc = some p → ∃ r, apartStep now wb acc u = some r ∧ r ≤ p) ∧ ∀ p, firstU (if wb then u.all else u.wr) (now u.c) = some p → ∃ r, apartStep now wb acc u = some r ∧ r ≤ p := by
      unfold apartStep
      cases hf : firstU (if wb then u.all else u.wr) (now u.c) with
      | none => exact ⟨fun h => .inl h, fun p hp => ⟨p, hp, Nat.le_refl _⟩, (fun p hp => by cases hp)⟩
      | some i =>
        cases acc with
        | none => exact ⟨fun h => .inr h, (fun p hp => by cases hp), (fun p hp => by cases hp; exact ⟨i, rfl, Nat.le_refl _⟩)⟩
        | some f =>
          simp only [mergeO, lessO]
          by_cases hlt : i < f
          · rw [if_pos hlt]
            exact ⟨fun h => .inr h, (fun p hp => by cases hp; exact ⟨i, rfl, by omega⟩), (fun p hp => by cases hp; exact ⟨i, rfl, Nat.le_refl _⟩)⟩
          · rw [if_neg hlt]
            exact ⟨fun h => .inl h, (fun p hp => by cases hp; exact ⟨f, rfl, Nat.le_refl _⟩), (fun p hp => by cases hp; exact ⟨f, rfl, by omega⟩)⟩
    refine ⟨?_, fun p hp => ?_, fun v hv p hp => ?_⟩
    · rcases h1 with h1 | ⟨v, hv, h1⟩
      · rcases key.1 h1 with h | h
        · exact .inl h
        · exact .inr ⟨u, by simp, h⟩
      · exact .inr ⟨v, by simp [hv], h1⟩
    · obtain ⟨r, hr, hle⟩ := key.2.1 p hp
      exact Nat.le_trans (h2 r hr) hle
    · rcases List.mem_cons.1 hv with rfl | hv
      · obtain ⟨r, hr, hle⟩ := key.2.2 p hp
        exact Nat.le_trans (h2 r hr) hle
      · exact h3 v hv p hp
theorem firstU_some {l : Uses} {known q : Nat} (h : firstU l known = some q) : ∃ x ∈ l, x.1 = q ∧ known < x.2 := by
  unfold firstU at h
  rw [Option.map_eq_some_iff] at h
  obtain ⟨x, hx, rfl⟩ := h
  exact ⟨x, List.mem_of_getElem? hx, rfl, posU_at hx⟩
/-- The events of a client's uses rise with their counts. -/
theorem firstU_least {evs : List Ev} {k : Nat} {o n : Int} {c : Nat} {l : Uses} (hr : Rise l) (hf : ∀ x ∈ l, FromEv evs k o n c x) {known : Nat} {x : Nat × Nat} (hx : x ∈ l) (hk : known < x.2) : ∃ q, firstU l known = some q ∧ q ≤ x.1 := by
  obtain ⟨i, hi, rfl⟩ := List.getElem_of_mem hx
  have hp : posU l known ≤ i := by
    by_cases h : posU l known ≤ i
    · exact h
    · have := posU_below (List.getElem?_eq_getElem hi) (by omega : i < posU l known)
      omega
  have hpl : posU l known < l.length := by omega
  refine ⟨(l[posU l known]).1, by unfold firstU; rw [List.getElem?_eq_getElem hpl]; rfl, ?_⟩
  by_cases e : posU l known = i
  · simp only [e]; exact Nat.le_refl _
  · have hlt := hr _ _ _ _ (List.getElem?_eq_getElem hpl) (List.getElem?_eq_getElem hi) (by omega)
    obtain ⟨-, e1, g1, -, -, -, c1, x1⟩ := hf _ (List.getElem_mem hpl)
    obtain ⟨-, e2, g2, -, -, -, c2, x2⟩ := hf _ (List.getElem_mem hi)
    rw [x1, x2, c1, c2] at hlt
    by_cases hle : (l[posU l known]).1 ≤ (l[i]).1
    · exact hle
    · have := own_later g1 (by omega : (l[i]).1 < (l[posU l known]).1)
      rw [c1] at this
      omega
/-- The race that is told at event j is the document's. -/
theorem raceAt_scan {evs : List Ev} (hok : ∀ e ∈ evs, okEv 16 e = true) {j : Nat} (hj : j < evs.length) : raceAt evs j = scanR evs j 0 j := by
  have hb : evs[j]? = some evs[j] := List.getElem?_eq_getElem hj
  generalize evs[j] = b at hb
  have hpos : ∀ e ∈ evs, 0 ≤ e.c := fun e he => (ok_c (hok e he) (by decide)).1
  unfold raceAt
  rw [hb]
  simp only
  by_cases hub : isUse b = true
  · rw [if_pos hub]
    have hgood := usK_good evs hok j (by omega) b.o b.n
    have hfrom := usK_from evs j (by omega) b.o b.n
    -- the uses that matter of a user
    have hsel : ∀ u ∈ usK evs j b.o b.n, ∀ x ∈ (if decide (b.k = 9) = true then u.all else u.wr), FromEv evs j b.o b.n u.c x ∧ (b.k = 9 ∨ WrEv evs x) := fun u hu x hx => by
      by_cases h9 : b.k = 9
      · rw [decide_eq_true h9, if_pos rfl] at hx
        exact ⟨(hfrom u hu).1 x hx, .inl h9⟩
      · rw [decide_eq_false h9, if_neg (by decide)] at hx
        exact ⟨((hfrom u hu).2 x hx).1, .inr ((hfrom u hu).2 x hx).2⟩
    have hrise : ∀ u ∈ usK evs j b.o b.n, Rise (if decide (b.k = 9) = true then u.all else u.wr) := fun u hu => by
      split
      · exact hgood.ra u hu
      · exact hgood.rw u hu
    -- an unknown use races
    have hrace : ∀ u ∈ usK evs j b.o b.n, ∀ x ∈ (if decide (b.k = 9) = true then u.all else u.wr), clkAt evs j u.c < x.2 → x.1 < j ∧ raceD evs x.1 j = true := fun u hu x hx hlt => by
      obtain ⟨⟨h1, a, ha, hua, ho, hn, hc, hx2⟩, h9⟩ := hsel u hu x hx
      refine ⟨h1, ?_⟩
      rw [hx2, ← hc] at hlt
      rw [raceD_eq ha hb, hua, hub]
      have hkn : knowB evs j x.1 = false := by rw [knowB_eq ha, decide_eq_false (by omega : ¬ clkAt evs x.1 a.c.toNat ≤ clkAt evs j a.c.toNat), Bool.and_false]
      have hne : a.c ≠ b.c := fun e => by
        have := own_later hb h1
        rw [e] at hlt
        omega
      rw [hkn, decide_eq_false hne]
      have hw : (decide (a.k = 9) || decide (b.k = 9)) = true := by
        rcases h9 with h9 | ⟨a', ha', h9⟩
        · rw [decide_eq_true h9, Bool.or_true]
        · rw [ha] at ha'
          cases ha'
          rw [decide_eq_true h9, Bool.true_or]
      rw [hw]
      unfold oneT
      simp [ho, hn]
    -- a race is with an unknown use
    have hback : ∀ i, i < j → raceD evs i j = true → ∃ u ∈ usK evs j b.o b.n, ∃ x ∈ (if decide (b.k = 9) = true then u.all else u.wr), x.1 = i ∧ clkAt evs j u.c < x.2 := fun i hi hr => by
      obtain ⟨a, ha⟩ : ∃ a, evs[i]? = some a := ⟨_, List.getElem?_eq_getElem (by omega)⟩
      rw [raceD_eq ha hb] at hr
      simp only [Bool.and_eq_true, Bool.or_eq_true, decide_eq_true_eq, Bool.not_eq_true', decide_eq_false_iff_not, oneT] at hr
      obtain ⟨⟨⟨⟨⟨hua, -⟩, hw⟩, ho, hn⟩, hne⟩, hk⟩ := hr
      obtain ⟨u, hu, q1, q2, q3⟩ := usK_mem evs j (by omega) i a hi ha hua
      rw [ho, hn] at hu
      refine ⟨u, hu, (i, clkAt evs i a.c.toNat), ?_, rfl, ?_⟩
      · by_cases h9 : b.k = 9
        · rw [decide_eq_true h9, if_pos rfl]; exact q2
        · rw [decide_eq_false h9, if_neg (by decide)]; exact q3 (hw.resolve_right h9)
      · rw [q1]
        rw [knowB_eq ha, decide_eq_true hi, Bool.true_and, decide_eq_false_iff_not] at hk
        show clkAt evs j a.c.toNat < clkAt evs i a.c.toNat
        omega
    cases hA : apartU (usK evs j b.o b.n) (clkAt evs j) (decide (b.k = 9)) with
    | none =>
      obtain ⟨-, h2⟩ := fold_none _ _ _ _ hA
      cases hS : scanR evs j 0 j with
      | none => rfl
      | some q =>
        obtain ⟨-, s2, s3, -⟩ := scanR_some hS
        obtain ⟨u, hu, x, hx, -, hlt⟩ := hback q (by omega) s3
        have := firstU_none (h2 u hu) x hx
        omega
    | some q =>
      obtain ⟨h1, -, h3⟩ := fold_min _ _ _ _ _ hA
      rcases h1 with h1 | ⟨u, hu, h1⟩
      · cases h1
      · obtain ⟨x, hx, rfl, hlt⟩ := firstU_some h1
        obtain ⟨hxj, hxr⟩ := hrace u hu x hx hlt
        cases hS : scanR evs j 0 j with
        | none =>
          have := scanR_none hS x.1 (by omega) (by omega)
          rw [hxr] at this
          cases this
        | some p =>
          obtain ⟨-, s2, s3, s4⟩ := scanR_some hS
          have hpx : p ≤ x.1 := by
            by_cases h : p ≤ x.1
            · exact h
            · have := s4 x.1 (by omega) (by omega)
              rw [hxr] at this
              cases this
          obtain ⟨v, hv, y, hy, rfl, hlt2⟩ := hback p (by omega) s3
          obtain ⟨r, hr1, hr2⟩ := firstU_least (hrise v hv) (fun z hz => (hsel v hv z hz).1) hy hlt2
          have := h3 v hv r hr1
          have e : x.1 = y.1 := by omega
          rw [e]
  · rw [if_neg hub]
    have : ∀ d i, scanR evs j i d = none := fun d => by
      induction d with
      | zero => exact fun i => rfl
      | succ d ih =>
        intro i
        unfold scanR
        have hr : raceD evs i j = false := by
          unfold raceD
          rw [hb]
          cases evs[i]? with
          | none => rfl
          | some a => simp [hub]
        rw [hr]
        exact ih (i + 1)
    rw [this]
end Go.Proofs.Ytdgdfpgekccibab
