import Derived.Test.YtdgdfpgekccibabKN
/-! clocks: ahead is read off the clocks, and goes on; where nothing races. -/
namespace Go.Proofs.Ytdgdfpgekccibab
open Go Go.RowKit
theorem withinC_of {a b : Clk} (h : ∀ x, a x ≤ b x) : withinC a b = true := by
  unfold withinC
  rw [List.all_eq_true]
  exact fun x _ => decide_eq_true (h x)
theorem withinC_le {a b : Clk} (h : withinC a b = true) {x : Nat} (hx : x < 16) : a x ≤ b x := by
  unfold withinC at h
  rw [List.all_eq_true] at h
  exact of_decide_eq_true (h x (by simpa using hx))
/-- What an event knows lies in its client's clock behind it. -/
theorem clkAt_cl {evs : List Ev} {j : Nat} {f : Ev} (hf : evs[j]? = some f) : (runS (evs.take (j + 1))).cl f.c.toNat = clkAt evs j := by rw [runS_take hf, clkAt_eq hf]; simp [stepS, upd_same]
/-- Nobody knows an event ahead of it. -/
theorem own_later {evs : List Ev} {i j : Nat} {e : Ev} (he : evs[i]? = some e) (hji : j < i) : clkAt evs j e.c.toNat < clkAt evs i e.c.toNat := by
  have hi := (List.getElem?_eq_some_iff.1 he).1
  obtain ⟨f, hf⟩ : ∃ f, evs[j]? = some f := ⟨_, List.getElem?_eq_getElem (by omega)⟩
  have h1 := (runS_self evs (j + 1) (by omega)).1 f.c.toNat e.c.toNat
  rw [clkAt_cl hf] at h1
  have h2 := own_mono evs e.c.toNat (i := j + 1) (i - (j + 1)) (by omega)
  rw [show j + 1 + (i - (j + 1)) = i from by omega] at h2
  rw [clkAt_own he]
  omega
theorem ok_c {clients : Int} {e : Ev} (h : okEv clients e = true) (hc : clients ≤ 16) : 0 ≤ e.c ∧ e.c < clients ∧ e.c.toNat < 16 := by
  unfold okEv at h
  simp at h
  omega
/-- Whether an event is ahead of a later one is read off the clocks. -/
theorem before_later {evs : List Ev} {clients : Int} (h0 : chk evs clients = 0) {i j : Nat} {e : Ev} (he : evs[i]? = some e) (hj : j < evs.length) (hij : i < j) : beforeB evs clients i j = decide (clkAt evs i e.c.toNat ≤ clkAt evs j e.c.toNat) := by
  obtain ⟨c1, c2, c3, c4⟩ := chk_ok h0
  have hc := ok_c (c4 e (List.mem_of_getElem? he)) c2
  unfold beforeB
  rw [Int.toNat_natCast, Int.toNat_natCast, decide_eq_true (by omega : (0 : Int) ≤ i), decide_eq_true (by omega : (i : Int) < j), decide_eq_true (by omega : (j : Int) < evs.length), decide_eq_true h0]
  simp only [Bool.true_and]
  by_cases h : clkAt evs i e.c.toNat ≤ clkAt evs j e.c.toNat
  · rw [decide_eq_true h]
    exact withinC_of (clk_knows he hij hj h)
  · rw [decide_eq_false h]
    cases hw : withinC (clkAt evs i) (clkAt evs j) with
    | false => rfl
    | true => exact absurd (withinC_le hw hc.2.2) h
theorem before_not {evs : List Ev} {clients : Int} {i j : Nat} (hij : ¬ i < j) : beforeB evs clients i j = false := by
  unfold beforeB
  rw [decide_eq_false (by omega : ¬ (i : Int) < j)]
  simp
theorem before_read {evs : List Ev} {clients : Int} (h0 : chk evs clients = 0) {i j : Nat} {e : Ev} (he : evs[i]? = some e) (hj : j < evs.length) : beforeB evs clients i j = (!decide (i = j) && decide (clkAt evs i e.c.toNat ≤ clkAt evs j e.c.toNat)) := by
  by_cases hij : i < j
  · rw [before_later h0 he hj hij, decide_eq_false (by omega : ¬ i = j)]
    simp
  · rw [before_not hij]
    by_cases e1 : i = j
    · rw [decide_eq_true e1]; rfl
    · have := own_later he (by omega : j < i)
      rw [decide_eq_false (by omega : ¬ clkAt evs i e.c.toNat ≤ clkAt evs j e.c.toNat), Bool.and_false]
theorem before_lt {evs : List Ev} {clients : Int} {i j : Nat} (h : beforeB evs clients i j = true) : i < j := by
  by_cases hij : i < j
  · exact hij
  · rw [before_not hij] at h; cases h
theorem before_le {evs : List Ev} {clients : Int} {i j : Nat} (h : beforeB evs clients i j = true) : withinC (clkAt evs i) (clkAt evs j) = true := by
  unfold beforeB at h
  simp only [Bool.and_eq_true, Int.toNat_natCast] at h
  exact h.2
/-- It goes on. -/
theorem before_trans {evs : List Ev} {clients : Int} (h0 : chk evs clients = 0) {i j k : Nat} (hk : k < evs.length) (h1 : beforeB evs clients i j = true) (h2 : beforeB evs clients j k = true) : beforeB evs clients i k = true := by
  obtain ⟨c1, c2, c3, c4⟩ := chk_ok h0
  have l1 := before_lt h1
  have l2 := before_lt h2
  obtain ⟨e, he⟩ : ∃ e, evs[i]? = some e := ⟨_, List.getElem?_eq_getElem (by omega)⟩
  have hc := ok_c (c4 e (List.mem_of_getElem? he)) c2
  have q1 := withinC_le (before_le h1) hc.2.2
  have q2 := withinC_le (before_le h2) hc.2.2
  rw [before_later h0 he hk (by omega)]
  exact decide_eq_true (by omega)
/-- A use is kept. -/
theorem useU_keeps {us : List Usr} {c : Nat} {x : Nat × Nat} {wb : Bool} {u : Usr} (hu : u ∈ us) : ∃ v ∈ useU us c x wb, v.c = u.c ∧ (∀ y ∈ u.all, y ∈ v.all) ∧ ∀ y ∈ u.wr, y ∈ v.wr := by
  induction us with
  | nil => cases hu
  | cons y us ih =>
    unfold useU
    split
    · rcases List.mem_cons.1 hu with rfl | hu
      · refine ⟨bumpU u x wb, by simp, rfl, fun z hz => by simp [bumpU, hz], fun z hz => ?_⟩
        unfold bumpU
        split
        · simp [hz]
        · exact hz
      · exact ⟨u, by simp [hu], rfl, fun z hz => hz, fun z hz => hz⟩
    · rcases List.mem_cons.1 hu with rfl | hu
      · exact ⟨u, by simp, rfl, fun z hz => hz, fun z hz => hz⟩
      · obtain ⟨v, hv, h⟩ := ih hu
        exact ⟨v, by simp [hv], h⟩
theorem useU_new (us : List Usr) (c : Nat) (x : Nat × Nat) (wb : Bool) : ∃ v ∈ useU us c x wb, v.c = c ∧ x ∈ v.all ∧ (wb = true → x ∈ v.wr) := by
  induction us with
  | nil => exact ⟨bumpU ⟨c, [], []⟩ x wb, by simp [useU], rfl, by simp [bumpU], fun h => by simp [bumpU, h]⟩
  | cons y us ih =>
    unfold useU
    split
    · next h => exact ⟨bumpU y x wb, by simp, h, by simp [bumpU], fun h => by simp [bumpU, h]⟩
    · obtain ⟨v, hv, h⟩ := ih
      exact ⟨v, by simp [hv], h⟩
/-- Every use of the first k events is noted. -/
theorem usK_mem (evs : List Ev) : (k : Nat) → k ≤ evs.length → ∀ i e, i < k → evs[i]? = some e → isUse e = true → ∃ u ∈ usK evs k e.o e.n, u.c = e.c.toNat ∧ (i, clkAt evs i e.c.toNat) ∈ u.all ∧ (e.k = 9 → (i, clkAt evs i e.c.toNat) ∈ u.wr)
  | 0, _ => fun i e hi => by omega
  | k + 1, h => fun i e hi he hu => by
    obtain ⟨f, hf⟩ : ∃ f, evs[k]? = some f := ⟨_, List.getElem?_eq_getElem (by omega)⟩
    rw [usK_succ hf]
    unfold stepU
    by_cases hik : i = k
    · subst hik
      rw [hf] at he
      cases he
      rw [if_pos hu, updA_same]
      obtain ⟨v, hv, h1, h2, h3⟩ := useU_new (usK evs i e.o e.n) e.c.toNat (i, clkAt evs i e.c.toNat) (decide (e.k = 9))
      exact ⟨v, hv, h1, h2, fun h => h3 (by simp [h])⟩
    · obtain ⟨u, hm, h1, h2, h3⟩ := usK_mem evs k (by omega) i e (by omega) he hu
      split
      · by_cases e1 : e.o = f.o ∧ e.n = f.n
        · have : updA (usK evs k) f.o f.n (useU (usK evs k f.o f.n) f.c.toNat (k, clkAt evs k f.c.toNat) (decide (f.k = 9))) e.o e.n = useU (usK evs k e.o e.n) f.c.toNat (k, clkAt evs k f.c.toNat) (decide (f.k = 9)) := by
            rw [← e1.1, ← e1.2, updA_same]
          rw [this]
          obtain ⟨v, hv, g1, g2, g3⟩ := useU_keeps (c := f.c.toNat) (x := (k, clkAt evs k f.c.toNat)) (wb := decide (f.k = 9)) hm
          exact ⟨v, hv, g1.trans h1, g2 _ h2, fun h => g3 _ (h3 h)⟩
        · rw [updA_other _ _ e1]
          exact ⟨u, hm, h1, h2, h3⟩
      · exact ⟨u, hm, h1, h2, h3⟩
/-- Nothing apart: every use is known. -/
theorem firstU_none {l : Uses} {known : Nat} (h : firstU l known = none) : ∀ x ∈ l, x.2 ≤ known := fun x hx => by
  unfold firstU at h
  rw [Option.map_eq_none_iff, List.getElem?_eq_none_iff] at h
  obtain ⟨i, hi, rfl⟩ := List.getElem_of_mem hx
  exact posU_below (List.getElem?_eq_getElem hi) (by omega)
theorem firstU_known {l : Uses} {known : Nat} (h : ∀ x ∈ l, x.2 ≤ known) : firstU l known = none := by
  unfold firstU
  rw [Option.map_eq_none_iff]
  cases hx : l[posU l known]? with
  | none => rfl
  | some x =>
    have h1 := posU_at hx
    have h2 := h x (List.mem_of_getElem? hx)
    omega
theorem mergeO_none {a b : Option Nat} (h : mergeO a b = none) : a = none ∧ b = none := by
  cases b with
  | none => exact ⟨h, rfl⟩
  | some i =>
    cases a with
    | none => simp [mergeO, lessO] at h
    | some f => simp only [mergeO, lessO] at h; split at h <;> cases h
theorem apartU_snoc (us : List Usr) (u : Usr) (now : Clk) (wb : Bool) : apartU (us ++ [u]) now wb = apartStep now wb (apartU us now wb) u := by
  unfold apartU
  rw [List.foldl_append]
  rfl
theorem fold_none (now : Clk) (wb : Bool) : (us : List Usr) → (acc : Option Nat) → us.foldl (apartStep now wb) acc = none → acc = none ∧ ∀ u ∈ us, firstU (if wb then u.all else u.wr) (now u.c) = none
  | [], acc, h => ⟨h, fun u hu => by cases hu⟩
  | u :: us, acc, h => by
    obtain ⟨h1, h2⟩ := fold_none now wb us _ h
    obtain ⟨h3, h4⟩ := mergeO_none h1
    refine ⟨h3, fun v hv => ?_⟩
    rcases List.mem_cons.1 hv with rfl | hv
    · exact h4
    · exact h2 v hv
theorem fold_known (now : Clk) (wb : Bool) : (us : List Usr) → (∀ u ∈ us, firstU (if wb then u.all else u.wr) (now u.c) = none) → us.foldl (apartStep now wb) none = none
  | [], _ => rfl
  | u :: us, h => by
    have h1 : apartStep now wb none u = none := by
      unfold apartStep
      rw [h u (by simp)]
      rfl
    rw [List.foldl_cons, h1]
    exact fold_known now wb us (fun v hv => h v (by simp [hv]))
/-- No race among the first k: none at any of them. -/
theorem raceK_nil (evs : List Ev) : (k : Nat) → raceK evs k = [] → ∀ j, j < k → raceAt evs j = none
  | 0, _ => fun j hj => by omega
  | k + 1, h => fun j hj => by
    unfold raceK at h
    cases hr : raceAt evs k with
    | some i => rw [hr] at h; simp at h
    | none =>
      rw [hr] at h
      by_cases e : j = k
      · subst e; exact hr
      · exact raceK_nil evs k h j (by omega)
theorem raceK_none (evs : List Ev) : (k : Nat) → (∀ j, j < k → raceAt evs j = none) → raceK evs k = []
  | 0, _ => rfl
  | k + 1, h => by
    unfold raceK
    rw [h k (by omega)]
    exact raceK_none evs k (fun j hj => h j (by omega))
/-- Where nothing races, of two uses of one cell of which one writes the first is ahead. -/
theorem free_before {evs : List Ev} {clients : Int} (h0 : chk evs clients = 0) (hr : raceK evs evs.length = []) {i j : Nat} {e f : Ev} (hij : i < j) (he : evs[i]? = some e) (hf : evs[j]? = some f) (ho : e.o = f.o) (hn : e.n = f.n) (hk : (e.k = 9 ∧ f.k = 8) ∨ (e.k = 8 ∧ f.k = 9)) : beforeB evs clients i j = true := by
  have hj := (List.getElem?_eq_some_iff.1 hf).1
  have h1 := raceK_nil evs _ hr j hj
  unfold raceAt at h1
  rw [hf] at h1
  have huf : isUse f = true := by unfold isUse; rcases hk with ⟨_, h⟩ | ⟨_, h⟩ <;> simp [h]
  have hue : isUse e = true := by unfold isUse; rcases hk with ⟨h, _⟩ | ⟨h, _⟩ <;> simp [h]
  simp only [huf, if_true] at h1
  obtain ⟨-, h2⟩ := fold_none _ _ _ _ h1
  obtain ⟨u, hm, q1, q2, q3⟩ := usK_mem evs j (by omega) i e hij he hue
  rw [ho, hn] at hm
  have h3 := firstU_none (h2 u hm)
  rw [before_later h0 he hj hij]
  refine decide_eq_true ?_
  rw [q1] at h3
  rcases hk with ⟨k1, k2⟩ | ⟨k1, k2⟩
  · exact h3 _ (by simp [k2]; exact q3 k1)
  · exact h3 _ (by simp [k2]; exact q2)
end Go.Proofs.Ytdgdfpgekccibab
