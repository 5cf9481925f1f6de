import Derived.Test.YtnccaidlcaeeaaaGreatDoorX5
/-! What a text's beginning shows, and what it does not: of the plain reader alone. -/
namespace Go.Proofs.YtnccaidlcaeeaaaGreatDoor
open Go

/-- U is T up to p. -/
structure Cut (T U : ByteArray) (p : Nat) : Prop where
  size : U.size = p
  lt : p < T.size
  byte : ∀ n, n < p → byteAt U n = byteAt T n
  ext : ∀ n m, m ≤ p → U.extract n m = T.extract n m

/-- A reader's answer lies where it must; it began at n. -/
def Fine {α : Type} (T : ByteArray) (n : Nat) : Res α → Prop
  | .ok _ m => n < m ∧ m ≤ T.size
  | .bad e q => n ≤ q ∧ e ≠ 0 ∧ (e = 3 ∧ q = T.size ∨ e ≠ 3 ∧ q < T.size)
/-- x: of the whole text; y: of what lies ahead of p. -/
def Rel {α : Type} (Z : Prop) (p : Nat) : Res α → Res α → Prop
  | .ok v m, .ok v' m' => (v = v' ∧ m = m' ∧ m ≤ p) ∨ (p < m ∧ m' = p ∧ Z)
  | .ok _ m, .bad _ _ => p < m
  | .bad _ _, .ok _ m' => m' = p ∧ Z
  | .bad _ q, .bad e' q' => q = p → e' = 3 ∧ q' = p
def Off {α : Type} (p : Nat) : Res α → Prop
  | .ok _ m => p < m
  | .bad _ q => q ≠ p
theorem Fine.off {α : Type} {T : ByteArray} {n p : Nat} {x : Res α} (h : Fine T n x) (hp : p < n) : Off p x := by
  cases x <;> simp only [Fine, Off] at * <;> omega
theorem Rel.of_off {α : Type} {Z : Prop} {p : Nat} {x : Res α} (h : Off p x) (e q : Nat) : Rel Z p x (.bad e q) := by
  cases x <;> simp only [Rel, Off] at * <;> omega
theorem Rel.short {α : Type} {Z : Prop} {T : ByteArray} {p n : Nat} {x : Res α} (h : Fine T n x) (hp : p ≤ n) : Rel Z p x (.bad 3 p) := by
  cases x with
  | ok v m => simp only [Rel, Fine] at *; omega
  | bad e q => exact fun _ => ⟨rfl, rfl⟩
theorem fine_end {α : Type} {T : ByteArray} {n : Nat} (h : n ≤ T.size) : Fine T n (.bad 3 T.size : Res α) := ⟨h, by decide, Or.inl ⟨rfl, rfl⟩⟩
theorem fine_bad {α : Type} {T : ByteArray} {n e q : Nat} (h : n ≤ q) (hq : q < T.size) (h0 : e ≠ 0) (h3 : e ≠ 3) : Fine T n (.bad e q : Res α) := ⟨h, h0, Or.inr ⟨h3, hq⟩⟩
theorem Rel.mono {α : Type} {Z Z' : Prop} {p : Nat} {x y : Res α} (h : Rel Z p x y) (hz : Z → Z') : Rel Z' p x y := by
  cases x <;> cases y <;> simp only [Rel] at *
  · rcases h with h | ⟨h1, h2, h3⟩
    · exact Or.inl h
    · exact Or.inr ⟨h1, h2, hz h3⟩
  · exact h
  · exact ⟨h.1, hz h.2⟩
  · exact h
theorem Rel.map {α β : Type} {Z : Prop} {p : Nat} {x y : Res α} (h : Rel Z p x y) (f : α → β) : Rel Z p (x.map f) (y.map f) := by
  cases x <;> cases y <;> simp only [Rel, Res.map] at *
  · rcases h with ⟨rfl, h⟩ | h
    · exact Or.inl ⟨rfl, h⟩
    · exact Or.inr h
  · exact h
  · exact h
  · exact h
theorem Fine.map {α β : Type} {T : ByteArray} {n : Nat} {x : Res α} (h : Fine T n x) (f : α → β) : Fine T n (x.map f) := by
  cases x <;> exact h
theorem Fine.up {α : Type} {T : ByteArray} {n m : Nat} {x : Res α} (h : Fine T m x) (hn : n ≤ m) : Fine T n x := by
  cases x <;> simp only [Fine] at * <;> omega

def Res.bind {α β : Type} (x : Res α) (k : α → Nat → Res β) : Res β :=
  match x with
  | .ok v m => k v m
  | .bad e q => .bad e q
theorem Rel.bind {α β : Type} {Z Z' : Prop} {p : Nat} {x y : Res α} {k l : α → Nat → Res β} (h : Rel Z p x y)
    (h1 : ∀ v m, x = .ok v m → m ≤ p → Rel Z' p (k v m) (l v m)) (h2 : ∀ v m, x = .ok v m → p < m → Off p (k v m)) (h3 : Z → ∀ v, l v p = .bad 3 p) : Rel Z' p (x.bind k) (y.bind l) := by
  cases x with
  | ok v m =>
    cases y with
    | ok v' m' =>
      rcases h with ⟨rfl, rfl, h⟩ | ⟨h, rfl, hz⟩
      · exact h1 _ _ rfl h
      · show Rel Z' _ (k v m) (l v' m')
        rw [h3 hz]
        exact Rel.of_off (h2 _ _ rfl h) _ _
    | bad e' q' => exact Rel.of_off (h2 _ _ rfl h) _ _
  | bad e q =>
    cases y with
    | ok v' m' =>
      obtain ⟨rfl, hz⟩ := h
      show Rel Z' _ (.bad e q) (l v' m')
      rw [h3 hz]
      exact fun _ => ⟨rfl, rfl⟩
    | bad e' q' => exact h

theorem skipTo_bd (T : ByteArray) : ∀ f n, n ≤ skipTo T f n ∧ (n ≤ T.size → skipTo T f n ≤ T.size)
  | 0, n => by simp [skipTo]
  | f + 1, n => by
    unfold skipTo
    split
    · have := skipTo_bd T f (n + 1); omega
    · omega
theorem skip_bd (T : ByteArray) (n : Nat) (h : n ≤ T.size) : n ≤ skip T n ∧ skip T n ≤ T.size :=
  ⟨(skipTo_bd T _ n).1, (skipTo_bd T _ n).2 h⟩
theorem skipTo_cut {T U : ByteArray} {p : Nat} (hc : Cut T U p) : ∀ g f n, T.size - n ≤ f → p - n ≤ g → n ≤ p → skipTo U g n = min (skipTo T f n) p
  | g, 0, n, hf, hg, hn => by
    have := hc.lt
    have e : n = p := by omega
    subst e
    cases g with
    | zero => simp [skipTo]
    | succ g => simp only [skipTo]; rw [if_neg (by rw [hc.size]; omega)]; simp
  | 0, f + 1, n, hf, hg, hn => by
    have e : n = p := by omega
    subst e
    have := (skipTo_bd T (f + 1) n).1
    rw [skipTo]; omega
  | g + 1, f + 1, n, hf, hg, hn => by
    by_cases e : n = p
    · subst e
      have := (skipTo_bd T (f + 1) n).1
      unfold skipTo
      rw [if_neg (by rw [hc.size]; omega)]
      unfold skipTo at this
      omega
    · unfold skipTo
      have h1 := hc.byte n (by omega)
      have h2 := hc.size
      have h3 := hc.lt
      rw [h1]
      by_cases hb : blank (byteAt T n) = true
      · rw [if_pos ⟨by omega, hb⟩, if_pos ⟨by omega, hb⟩]
        exact skipTo_cut hc g f (n + 1) (by omega) (by omega) (by omega)
      · rw [if_neg (fun h => hb h.2), if_neg (fun h => hb h.2)]
        omega
theorem skip_cut {T U : ByteArray} {p : Nat} (hc : Cut T U p) (n : Nat) (h : n ≤ p) : skip U n = min (skip T n) p := by
  unfold skip
  exact skipTo_cut hc _ _ n (by omega) (by rw [hc.size]; omega) h
theorem dgTo_bd (T : ByteArray) : ∀ f n, n ≤ dgTo T f n ∧ (n ≤ T.size → dgTo T f n ≤ T.size)
  | 0, n => by simp [dgTo]
  | f + 1, n => by
    unfold dgTo
    split
    · have := dgTo_bd T f (n + 1); omega
    · omega
theorem dg_bd (T : ByteArray) (n : Nat) (h : n ≤ T.size) : n ≤ dg T n ∧ dg T n ≤ T.size :=
  ⟨(dgTo_bd T _ n).1, (dgTo_bd T _ n).2 h⟩
/-- Where a digit run goes on behind p, p has a digit. -/
theorem dgTo_in (T : ByteArray) : ∀ f n p, n ≤ p → p < dgTo T f n → digit (byteAt T p) = true
  | 0, n, p, h1, h2 => by rw [dgTo] at h2; omega
  | f + 1, n, p, h1, h2 => by
    unfold dgTo at h2
    split at h2
    · next h =>
      by_cases e : n = p
      · subst e; exact h.2
      · exact dgTo_in T f (n + 1) p (by omega) h2
    · omega
theorem dgTo_cut {T U : ByteArray} {p : Nat} (hc : Cut T U p) : ∀ g f n, T.size - n ≤ f → p - n ≤ g → n ≤ p → dgTo U g n = min (dgTo T f n) p
  | g, 0, n, hf, hg, hn => by
    have := hc.lt
    have e : n = p := by omega
    subst e
    cases g with
    | zero => simp [dgTo]
    | succ g => simp only [dgTo]; rw [if_neg (by rw [hc.size]; omega)]; simp
  | 0, f + 1, n, hf, hg, hn => by
    have e : n = p := by omega
    subst e
    have := (dgTo_bd T (f + 1) n).1
    rw [dgTo]; omega
  | g + 1, f + 1, n, hf, hg, hn => by
    by_cases e : n = p
    · subst e
      have := (dgTo_bd T (f + 1) n).1
      unfold dgTo
      rw [if_neg (by rw [hc.size]; omega)]
      unfold dgTo at this
      omega
    · unfold dgTo
      have h1 := hc.byte n (by omega)
      have h2 := hc.size
      have h3 := hc.lt
      rw [h1]
      by_cases hb : digit (byteAt T n) = true
      · rw [if_pos ⟨by omega, hb⟩, if_pos ⟨by omega, hb⟩]
        exact dgTo_cut hc g f (n + 1) (by omega) (by omega) (by omega)
      · rw [if_neg (fun h => hb h.2), if_neg (fun h => hb h.2)]
        omega
theorem dg_cut {T U : ByteArray} {p : Nat} (hc : Cut T U p) (n : Nat) (h : n ≤ p) : dg U n = min (dg T n) p := by
  unfold dg
  exact dgTo_cut hc _ _ n (by omega) (by rw [hc.size]; omega) h

theorem lit_fine (T : ByteArray) : ∀ cs n, cs ≠ [] → n ≤ T.size → Fine T n (litR T cs n)
  | [], n, h, _ => absurd rfl h
  | c :: cs, n, _, hn => by
    unfold litR
    split
    · split
      · cases cs with
        | nil => simp only [litR, Fine]; omega
        | cons d ds => exact (lit_fine T (d :: ds) (n + 1) (by simp) (by omega)).up (by omega)
      · exact fine_bad (Nat.le_refl _) (by omega) (by decide) (by decide)
    · exact fine_end hn
theorem lit_rel {T U : ByteArray} {p : Nat} (hc : Cut T U p) (Z : Prop) : ∀ cs n, n ≤ p → Rel Z p (litR T cs n) (litR U cs n)
  | [], n, h => Or.inl ⟨rfl, rfl, h⟩
  | c :: cs, n, h => by
    by_cases e : n = p
    · have h2 : litR U (c :: cs) n = .bad 3 p := by unfold litR; rw [if_neg (by rw [hc.size]; omega), hc.size]
      rw [h2]
      exact Rel.short (lit_fine T _ n (by simp) (by have := hc.lt; omega)) (by omega)
    · unfold litR
      have h1 := hc.byte n (by omega)
      have h3 := hc.lt
      rw [if_pos (show n < T.size by omega), if_pos (show n < U.size by rw [hc.size]; omega), h1]
      split
      · exact lit_rel hc Z cs (n + 1) (by omega)
      · intro e'; omega
theorem nz_of {c : UInt8} (h : frac c = true ∨ digit c = true) : c ≠ 0 := by
  rintro rfl
  revert h; decide

theorem num_fine (T : ByteArray) (n k : Nat) (hk : n ≤ k) (hn : k ≤ T.size) : Fine T n (numAt T n k) := by
  unfold numAt
  split
  · split
    · have hb : k < numEnd T k ∧ numEnd T k ≤ T.size := by
        unfold numEnd
        split
        · omega
        · have := dg_bd T (k + 1) (by omega); omega
      cases hp : Lib.parseIntB 64 (T.extract n (numEnd T k)).data.toList with
      | ok v =>
        simp only [numFin]
        split
        · exact fine_bad (by omega) (by omega) (by decide) (by decide)
        · simp only [Fine]; omega
      | «syntax» => exact fine_bad (Nat.le_refl _) (by omega) (by decide) (by decide)
      | range => exact fine_bad (Nat.le_refl _) (by omega) (by decide) (by decide)
    · exact fine_bad (by omega) (by omega) (by decide) (by decide)
  · exact fine_end (by omega)
theorem num_rel {T U : ByteArray} {p : Nat} (hc : Cut T U p) (n k : Nat) (hn : n < p) (hk : k ≤ p) : Rel (byteAt T p ≠ 0) p (numAt T n k) (numAt U n k) := by
  have h2 := hc.size
  have h3 := hc.lt
  by_cases e : k = p
  · have : numAt U n k = .bad 3 p := by unfold numAt; rw [if_neg (by omega), h2]
    rw [this]
    unfold numAt
    split
    · split
      · have hb : k < numEnd T k := by
          unfold numEnd
          split
          · omega
          · have := dg_bd T (k + 1) (by omega); omega
        cases hp : Lib.parseIntB 64 (T.extract n (numEnd T k)).data.toList with
        | ok v =>
          simp only [numFin]
          split
          · simp [Rel]
          · simp only [Rel]; omega
        | «syntax» => simp [numFin, Rel]
        | range => simp [numFin, Rel]
      · simp [Rel]
    · simp [Rel]
  · have h1 := hc.byte k (by omega)
    unfold numAt
    rw [if_pos (show k < T.size by omega), if_pos (show k < U.size by omega), h1]
    split
    · next hd =>
      have hb : k < numEnd T k ∧ numEnd T k ≤ T.size ∧ numEnd U k = min (numEnd T k) p ∧ (p < numEnd T k → digit (byteAt T p) = true) := by
        unfold numEnd
        rw [h1]
        split
        · omega
        · have := dg_bd T (k + 1) (by omega)
          have h4 := dg_cut hc (k + 1) (by omega)
          refine ⟨by omega, by omega, h4, fun h => dgTo_in T _ (k + 1) p (by omega) h⟩
      obtain ⟨b1, b2, b3, b4⟩ := hb
      by_cases hm : numEnd T k ≤ p
      · rw [show numEnd U k = numEnd T k by omega, hc.ext n _ hm]
        cases hp : Lib.parseIntB 64 (T.extract n (numEnd T k)).data.toList with
        | ok v =>
          simp only [numFin]
          by_cases hq : numEnd T k = p
          · rw [if_neg (c := numEnd T k < U.size ∧ _) (by omega)]
            split
            · next hf => exact ⟨hq, nz_of (Or.inl (by rw [← hq]; exact hf.2))⟩
            · exact Or.inl ⟨rfl, rfl, hm⟩
          · rw [hc.byte _ (show numEnd T k < p by omega)]
            by_cases hf : frac (byteAt T (numEnd T k)) = true
            · rw [if_pos ⟨by omega, hf⟩, if_pos ⟨by omega, hf⟩]
              exact fun h => absurd h hq
            · rw [if_neg (fun h => hf h.2), if_neg (fun h => hf h.2)]
              exact Or.inl ⟨rfl, rfl, hm⟩
        | «syntax» => simp only [numFin, Rel]; omega
        | range => simp only [numFin, Rel]; omega
      · have hz := nz_of (Or.inr (b4 (by omega)))
        have hU : numEnd U k = p := by omega
        rw [hU]
        have hy : ∀ q, numFin U n p q = match q with | .ok v => .ok v p | _ => .bad 15 n := fun q => by
          cases q with
          | ok v => simp only [numFin]; rw [if_neg (by omega)]
          | «syntax» => rfl
          | range => rfl
        rw [hy]
        cases Lib.parseIntB 64 (U.extract n p).data.toList <;> cases Lib.parseIntB 64 (T.extract n (numEnd T k)).data.toList <;> simp only [numFin]
        · split
          · exact ⟨rfl, hz⟩
          · exact Or.inr ⟨by omega, rfl, hz⟩
        · exact ⟨rfl, hz⟩
        · exact ⟨rfl, hz⟩
        · split
          · intro h; omega
          · show p < _; omega
        · intro h; omega
        · intro h; omega
        · split
          · intro h; omega
          · show p < _; omega
        · intro h; omega
        · intro h; omega
    · intro h; omega

theorem rel_bad3 {α : Type} {Z : Prop} {p : Nat} {x : Res α} (h : ∀ v m, x = .ok v m → p < m) : Rel Z p x (.bad 3 p) := by
  cases x with
  | ok v m => exact h v m rfl
  | bad e q => exact fun _ => ⟨rfl, rfl⟩
/-- As Fine; but a fault may lie at st, too. -/
def FineS {α : Type} (T : ByteArray) (st n : Nat) : Res α → Prop
  | .ok _ m => n < m ∧ m ≤ T.size
  | .bad e q => (n ≤ q ∨ q = st) ∧ e ≠ 0 ∧ (e = 3 ∧ q = T.size ∨ e ≠ 3 ∧ q < T.size)
theorem Fine.s {α : Type} {T : ByteArray} {st n : Nat} {x : Res α} (h : Fine T n x) : FineS T st n x := by
  cases x <;> simp only [Fine, FineS] at * <;> omega
theorem FineS.fine {α : Type} {T : ByteArray} {st n : Nat} {x : Res α} (h : FineS T st n x) (hs : st ≤ n) : Fine T st x := by
  cases x <;> simp only [Fine, FineS] at * <;> omega
theorem FineS.up {α : Type} {T : ByteArray} {st n m : Nat} {x : Res α} (h : FineS T st m x) (hn : n ≤ m) : FineS T st n x := by
  cases x <;> simp only [FineS] at * <;> omega
theorem FineS.off {α : Type} {T : ByteArray} {st n p : Nat} {x : Res α} (h : FineS T st n x) (hp : p < n) (hs : st < p) : Off p x := by
  cases x <;> simp only [FineS, Off] at * <;> omega
theorem FineS.bind {α β : Type} {T : ByteArray} {st n : Nat} {x : Res α} {k : α → Nat → Res β} (h : FineS T st n x) (hk : ∀ v m, x = .ok v m → n < m → m ≤ T.size → FineS T st n (k v m)) : FineS T st n (x.bind k) := by
  cases x with
  | ok v m => exact hk v m rfl h.1 h.2
  | bad e q => exact h

theorem hex_fine (T : ByteArray) : ∀ k x n, n ≤ T.size → Fine T n (hexR T (k + 1) x n)
  | 0, x, n, h => by
    simp only [hexR]
    split
    · cases hexV (byteAt T n) with
      | some d => simp only [Fine]; omega
      | none => exact fine_bad (Nat.le_refl _) (by assumption) (by decide) (by decide)
    · exact fine_end h
  | k + 1, x, n, h => by
    unfold hexR
    split
    · cases hexV (byteAt T n) with
      | some d => exact (hex_fine T k _ (n + 1) (by omega)).up (by omega)
      | none => exact fine_bad (Nat.le_refl _) (by assumption) (by decide) (by decide)
    · exact fine_end h
theorem hex_rel {T U : ByteArray} {p : Nat} (hc : Cut T U p) : ∀ k x n, n ≤ p → Rel False p (hexR T k x n) (hexR U k x n)
  | 0, x, n, h => Or.inl ⟨rfl, rfl, h⟩
  | k + 1, x, n, h => by
    have h3 := hc.lt
    by_cases e : n = p
    · have h2 : hexR U (k + 1) x n = .bad 3 p := by unfold hexR; rw [if_neg (by rw [hc.size]; omega), hc.size]
      rw [h2]
      exact Rel.short (hex_fine T k x n (by omega)) (by omega)
    · unfold hexR
      rw [if_pos (show n < T.size by omega), if_pos (show n < U.size by rw [hc.size]; omega), hc.byte n (by omega)]
      cases hexV (byteAt T n) with
      | some d => exact hex_rel hc k _ (n + 1) (by omega)
      | none => intro e'; omega
theorem lowR_eq (st h : Nat) (x : Res Nat) : lowR st h x = x.bind fun l m => if l < 56320 ∨ 57344 ≤ l then .bad 13 st else .ok (pairV h l) m := by
  cases x <;> rfl
theorem halfR_eq (T : ByteArray) (st : Nat) (x : Res Nat) : halfR T st x = x.bind fun h m => if h < 55296 ∨ 57344 ≤ h then .ok h m else if 56320 ≤ h then .bad 13 st else pairR T st h m := by
  cases x <;> rfl
theorem fineS_st {α : Type} {T : ByteArray} {st n : Nat} (h : st < T.size) : FineS T st n (.bad 13 st : Res α) := ⟨Or.inr rfl, by decide, Or.inr ⟨by decide, h⟩⟩
theorem low_fine {T : ByteArray} {st h n : Nat} {x : Res Nat} (hs : st < T.size) (hx : FineS T st n x) : FineS T st n (lowR st h x) := by
  rw [lowR_eq]
  refine hx.bind fun v m _ h1 h2 => ?_
  split
  · exact fineS_st hs
  · exact ⟨h1, h2⟩
theorem pair_fine (T : ByteArray) (st h m : Nat) (hs : st < T.size) (hm : m ≤ T.size) : FineS T st m (pairR T st h m) := by
  unfold pairR
  split
  · split
    · split
      · split
        · exact low_fine hs ((hex_fine T 3 0 (m + 2) (by omega)).s.up (by omega))
        · exact fineS_st hs
      · exact (fine_end hm).s
    · exact fineS_st hs
  · exact (fine_end hm).s
theorem coded_fine (T : ByteArray) (st n : Nat) (hs : st < T.size) (hn : n ≤ T.size) : FineS T st n (codedR T st n) := by
  unfold codedR
  rw [halfR_eq]
  refine (hex_fine T 3 0 n hn).s.bind fun v m _ h1 h2 => ?_
  split
  · exact ⟨h1, h2⟩
  · split
    · exact fineS_st hs
    · exact (pair_fine T st v m hs h2).up (by omega)
theorem low_rel {st h p : Nat} {x y : Res Nat} (hs : st < p) (hr : Rel False p x y) : Rel False p (lowR st h x) (lowR st h y) := by
  rw [lowR_eq, lowR_eq]
  refine hr.bind (fun v m _ hm => ?_) (fun v m _ hm => ?_) (fun h => h.elim)
  · split
    · intro e; omega
    · exact Or.inl ⟨rfl, rfl, hm⟩
  · split
    · show st ≠ p; omega
    · exact hm
theorem ok_gt {α : Type} {T : ByteArray} {st n p : Nat} {x : Res α} (h : FineS T st n x) (hp : p ≤ n) : ∀ v m, x = .ok v m → p < m := by
  rintro v m rfl
  have := h.1
  omega
theorem pair_rel {T U : ByteArray} {p : Nat} (hc : Cut T U p) (st h m : Nat) (hs : st < p) (hm : m ≤ p) : Rel False p (pairR T st h m) (pairR U st h m) := by
  have h2 := hc.size
  have h3 := hc.lt
  have hf := pair_fine T st h m (by omega) (by omega)
  by_cases e : m = p
  · have : pairR U st h m = .bad 3 p := by unfold pairR; rw [if_neg (by omega), h2]
    rw [this]
    exact rel_bad3 (ok_gt hf (by omega))
  · have h1 := hc.byte m (by omega)
    by_cases e1 : m + 1 = p
    · unfold pairR
      rw [if_pos (show m < T.size by omega), if_pos (show m < U.size by omega), h1, if_pos (show m + 1 < T.size by omega), if_neg (show ¬ m + 1 < U.size by omega), h2]
      split
      · split
        · exact rel_bad3 (ok_gt (low_fine (by omega) ((hex_fine T 3 0 (m + 2) (by omega)).s (st := st))) (by omega))
        · intro e; omega
      · intro e; omega
    · have h4 := hc.byte (m + 1) (by omega)
      unfold pairR
      rw [if_pos (show m < T.size by omega), if_pos (show m < U.size by omega), h1, if_pos (show m + 1 < T.size by omega), if_pos (show m + 1 < U.size by omega), h4]
      split
      · split
        · exact low_rel hs (hex_rel hc 4 0 (m + 2) (by omega))
        · intro e; omega
      · intro e; omega
theorem coded_rel {T U : ByteArray} {p : Nat} (hc : Cut T U p) (st n : Nat) (hs : st < p) (hn : n ≤ p) : Rel False p (codedR T st n) (codedR U st n) := by
  have h3 := hc.lt
  unfold codedR
  rw [halfR_eq, halfR_eq]
  refine (hex_rel hc 4 0 n hn).bind (fun v m _ hm => ?_) (fun v m hx hm => ?_) (fun h => h.elim)
  · split
    · exact Or.inl ⟨rfl, rfl, hm⟩
    · split
      · intro e; omega
      · exact pair_rel hc st v m hs hm
  · have hb : m ≤ T.size := by
      have := hex_fine T 3 0 n (by omega)
      rw [hx] at this; exact this.2
    split
    · exact hm
    · split
      · show st ≠ p; omega
      · exact (pair_fine T st v m (by omega) hb).off hm hs
theorem esc_fine (T : ByteArray) (n : Nat) (hn : n ≤ T.size) : Fine T n (escR T n) := by
  unfold escR
  split
  · split
    · exact (coded_fine T n (n + 2) (by omega) (by omega)).fine (by omega)
    · cases unescN (byteAt T (n + 1)).toNat with
      | some d => simp only [escFin, Fine]; omega
      | none => exact fine_bad (by omega) (by omega) (by decide) (by decide)
  · exact fine_end hn
theorem esc_rel {T U : ByteArray} {p : Nat} (hc : Cut T U p) (n : Nat) (hn : n ≤ p) : Rel False p (escR T n) (escR U n) := by
  have h2 := hc.size
  have h3 := hc.lt
  by_cases e : n + 1 < p
  · unfold escR
    rw [if_pos (show n + 1 < T.size by omega), if_pos (show n + 1 < U.size by omega), hc.byte (n + 1) e]
    split
    · exact coded_rel hc n (n + 2) (by omega) (by omega)
    · cases unescN (byteAt T (n + 1)).toNat with
      | some d => exact Or.inl ⟨rfl, rfl, by omega⟩
      | none => intro e; omega
  · have : escR U n = .bad 3 p := by unfold escR; rw [if_neg (by omega), h2]
    rw [this]
    refine rel_bad3 fun v m h => ?_
    have := (escR_ok h).1
    omega

theorem cutN_a (N P b0 b1 b2 b3 c1 c2 c3 : Nat) (hP : P ≤ N) (h1 : 1 < P → c1 = b1) (h2 : 2 < P → c2 = b2) (h3 : 3 < P → c3 = b3) (h : (Lib.decodeN N b0 b1 b2 b3).2 ≤ P) (h0 : 0 < P) :
    Lib.decodeN P b0 c1 c2 c3 = Lib.decodeN N b0 b1 b2 b3 := by
  by_cases p1 : 1 < P
  · have e1 := h1 p1
    subst e1
    by_cases p2 : 2 < P
    · have e2 := h2 p2
      subst e2
      by_cases p3 : 3 < P
      · have e3 := h3 p3
        subst e3
        unfold Lib.decodeN
        simp only [p1, p2, p3, show 1 < N by omega, show 2 < N by omega, show 3 < N by omega]
      · unfold Lib.decodeN at *
        simp only [p1, p2, p3, show 1 < N by omega, show 2 < N by omega, false_and, and_false, if_false, true_and] at h ⊢
        repeat' split at h
        all_goals repeat' split
        all_goals first | rfl | (exfalso; omega) | (simp only at h; exfalso; omega)
    · unfold Lib.decodeN at *
      simp only [p1, p2, show ¬ 3 < P by omega, show 1 < N by omega, false_and, and_false, if_false, true_and] at h ⊢
      repeat' split at h
      all_goals repeat' split
      all_goals first | rfl | (exfalso; omega) | (simp only at h; exfalso; omega)
  · unfold Lib.decodeN at *
    simp only [p1, show ¬ 2 < P by omega, show ¬ 3 < P by omega, false_and, and_false, if_false] at h ⊢
    repeat' split at h
    all_goals repeat' split
    all_goals first | rfl | (exfalso; omega) | (simp only at h; exfalso; omega)
set_option maxRecDepth 20000 in
theorem first3 : ∀ b, b < 256 → b / 16 = 14 → (Lib.firstT b = 19 ∧ b = 224) ∨ (Lib.firstT b = 35 ∧ b = 237) ∨ Lib.firstT b = 3 := by decide
set_option maxRecDepth 20000 in
theorem first4 : ∀ b, b < 245 → b / 8 = 30 → (Lib.firstT b = 52 ∧ b = 240) ∨ (Lib.firstT b = 68 ∧ b = 244) ∨ Lib.firstT b = 4 := by decide
theorem dec_one (N b0 b1 b2 b3 : Nat) (h0 : 128 ≤ b0) (h : (Lib.decodeN N b0 b1 b2 b3).2 = 1) : Lib.decodeN N b0 b1 b2 b3 = (65533, 1) := by
  unfold Lib.decodeN at *
  rw [if_neg (by omega)] at h ⊢
  split at h
  · rename_i g1
    rw [if_pos g1]
    split at h
    · exact absurd h (show ¬ (2 : Nat) = 1 by decide)
    · rename_i g2
      rw [if_neg g2]
  · rename_i g1
    rw [if_neg g1]
    split at h
    · rename_i g2
      rw [if_pos g2]
      split at h
      · exact absurd h (show ¬ (3 : Nat) = 1 by decide)
      · rename_i g3
        rw [if_neg g3]
    · rename_i g2
      rw [if_neg g2]
      split at h
      · rename_i g3
        rw [if_pos g3]
        split at h
        · exact absurd h (show ¬ (4 : Nat) = 1 by decide)
        · rename_i g4
          rw [if_neg g4]
      · rename_i g3
        rw [if_neg g3]
/-- What the first byte says, where a character is whole. -/
theorem dec_first (N b0 b1 b2 b3 : Nat) (hb : b0 < 256) (h1 : b1 < 256) (h2 : b2 < 256) (h : (Lib.decodeN N b0 b1 b2 b3).2 ≠ 1) :
    Lib.firstT b0 % 8 = (Lib.decodeN N b0 b1 b2 b3).2 ∧ 128 ≤ (Lib.decodeN N b0 b1 b2 b3).1 ∧ Lib.accLo (Lib.firstT b0 / 16) ≤ b1 ∧ b1 ≤ Lib.accHi (Lib.firstT b0 / 16) ∧ (3 ≤ (Lib.decodeN N b0 b1 b2 b3).2 → 128 ≤ b2 ∧ b2 ≤ 191) ∧ (Lib.decodeN N b0 b1 b2 b3).2 ≤ N ∧ 128 ≤ b0 := by
  unfold Lib.decodeN at *
  split at h
  · exact absurd rfl h
  · rename_i g0
    split at h
    · rename_i g1
      rw [if_neg g0, if_pos g1]
      split at h
      · rename_i g2
        rw [if_pos g2]
        have : Lib.firstT b0 = 2 := by unfold Lib.firstT; (repeat' split) <;> first | rfl | omega
        rw [this]
        simp [Lib.accLo, Lib.accHi]; omega
      · exact absurd rfl h
    · rename_i g1
      rw [if_neg g0, if_neg g1]
      split at h
      · rename_i g2
        rw [if_pos g2]
        split at h
        · rename_i g3
          rw [if_pos g3]
          have := first3 b0 hb g2.1
          rcases this with ⟨e, e'⟩ | ⟨e, e'⟩ | e <;> rw [e] <;> simp [Lib.accLo, Lib.accHi] <;> omega
        · exact absurd rfl h
      · rename_i g2
        rw [if_neg g2]
        split at h
        · rename_i g3
          rw [if_pos g3]
          split at h
          · rename_i g4
            rw [if_pos g4]
            have := first4 b0 (by omega) g3.1
            rcases this with ⟨e, e'⟩ | ⟨e, e'⟩ | e <;> rw [e] <;> simp [Lib.accLo, Lib.accHi] <;> omega
          · exact absurd rfl h
        · exact absurd rfl h
theorem full_of (N b0 b1 b2 b3 : Nat) (hb : b0 < 256) (h1 : b1 < 256) (h2 : b2 < 256) (h : (Lib.decodeN N b0 b1 b2 b3).2 ≠ 1) : fullN N b0 b1 b2 = true := by
  have := dec_first N b0 b1 b2 b3 hb h1 h2 h
  unfold fullN
  rw [if_pos (by omega)]
theorem dec_len (N b0 b1 b2 b3 : Nat) (hb : b0 < 256) (h : (Lib.decodeN N b0 b1 b2 b3).2 ≠ 1) : Lib.firstT b0 % 8 ≤ N := by
  unfold Lib.decodeN at h
  split at h
  · exact absurd rfl h
  · split at h
    · rename_i g0 g1
      split at h
      · have : Lib.firstT b0 = 2 := by unfold Lib.firstT; (repeat' split) <;> first | rfl | omega
        omega
      · exact absurd rfl h
    · split at h
      · rename_i g0 g1 g2
        have := first3 b0 hb g2.1
        omega
      · split at h
        · rename_i g0 g1 g2 g3
          split at h
          · have := first4 b0 (by omega) g3.1
            omega
          · exact absurd rfl h
        · exact absurd rfl h
theorem cutN_b (N P b0 b1 b2 b3 c1 c2 c3 : Nat) (hb : b0 < 256) (hb1 : b1 < 256) (hb2 : b2 < 256) (h1 : 1 < P → c1 = b1) (h2 : 2 < P → c2 = b2) (h0 : 0 < P) (h : P < (Lib.decodeN N b0 b1 b2 b3).2) :
    Lib.decodeN P b0 c1 c2 c3 = (65533, 1) ∧ fullN P b0 c1 c2 = false := by
  obtain ⟨f1, f2, f3, f4, f5, f6, f7⟩ := dec_first N b0 b1 b2 b3 hb hb1 hb2 (by omega)
  constructor
  · by_cases hk : (Lib.decodeN P b0 c1 c2 c3).2 = 1
    · exact dec_one _ _ _ _ _ f7 hk
    · exfalso
      have g := dec_len P b0 c1 c2 c3 hb hk
      omega
  · unfold fullN
    rw [if_neg (by omega), if_neg (by rintro ⟨p1, h⟩; rw [h1 p1] at h; omega), if_neg (by rintro ⟨p2, h⟩; rw [h2 p2] at h; have := f5 (by omega); omega)]
theorem dec_cut {T U : ByteArray} {p : Nat} (hc : Cut T U p) (n : Nat) (hn : n < p) :
    (n + (Utf8.decode T n).2 ≤ p ∧ Utf8.decode U n = Utf8.decode T n ∧ ((Utf8.decode T n).2 ≠ 1 → fullT U n = true)) ∨ (p < n + (Utf8.decode T n).2 ∧ (Utf8.decode U n) = (65533, 1) ∧ fullT U n = false) := by
  have h2 := hc.size
  have h3 := hc.lt
  have b0 := hc.byte n hn
  have b1 : 1 < p - n → (byteAt U (n + 1)).toNat = (byteAt T (n + 1)).toNat := fun h => by rw [hc.byte (n + 1) (by omega)]
  have b2 : 2 < p - n → (byteAt U (n + 2)).toNat = (byteAt T (n + 2)).toNat := fun h => by rw [hc.byte (n + 2) (by omega)]
  have b3 : 3 < p - n → (byteAt U (n + 3)).toNat = (byteAt T (n + 3)).toNat := fun h => by rw [hc.byte (n + 3) (by omega)]
  by_cases hk : n + (Utf8.decode T n).2 ≤ p
  · refine Or.inl ⟨hk, ?_, fun hd => ?_⟩
    · rw [dec_N U, dec_N T, h2, b0]
      rw [dec_N T] at hk
      exact cutN_a _ _ _ _ _ _ _ _ _ (by omega) b1 b2 b3 (by omega) (by omega)
    · have e : Utf8.decode U n = Utf8.decode T n := by
        rw [dec_N U, dec_N T, h2, b0]
        rw [dec_N T] at hk
        exact cutN_a _ _ _ _ _ _ _ _ _ (by omega) b1 b2 b3 (by omega) (by omega)
      rw [← e, dec_N] at hd
      exact full_of _ _ _ _ _ (UInt8.toNat_lt _) (UInt8.toNat_lt _) (UInt8.toNat_lt _) hd
  · refine Or.inr ⟨by omega, ?_⟩
    rw [dec_N T] at hk
    have := cutN_b (T.size - n) (p - n) (byteAt T n).toNat _ _ (byteAt T (n + 3)).toNat _ _ (byteAt U (n + 3)).toNat (UInt8.toNat_lt _) (UInt8.toNat_lt _) (UInt8.toNat_lt _) b1 b2 (by omega) (by omega)
    rw [dec_N U, h2, b0]
    unfold fullT
    rw [h2, b0]
    exact this
/-- How plain texts and their cuts go together. -/
def PlRel (T : ByteArray) (n p : Nat) : Res Unit → Res Unit → Prop
  | .ok _ m, y => n ≤ m ∧ m < T.size ∧ ((m < p ∧ y = .ok () m) ∨ (p ≤ m ∧ y = .bad 3 p))
  | .bad e q, y => n ≤ q ∧ e ≠ 0 ∧ (e = 3 ∧ q = T.size ∨ e ≠ 3 ∧ q < T.size) ∧ ∃ e' q', y = .bad e' q' ∧ (q = p → e' = 3 ∧ q' = p)
theorem pl_fine (T : ByteArray) : ∀ f n, T.size - n ≤ f → n ≤ T.size → PlRel T n T.size (plR T n) (plR T n) := by
  intro f
  induction f with
  | zero => 
    intro n hf hn
    rw [plR_end T n (by omega)]
    exact ⟨hn, by decide, Or.inl ⟨rfl, rfl⟩, 3, _, rfl, fun _ => ⟨rfl, rfl⟩⟩
  | succ f ih =>
    intro n hf hn
    by_cases h : n < T.size
    · have hw := dec_wide T n h
      have key : PlRel T n T.size (plR T (n + (Utf8.decode T n).2)) (plR T (n + (Utf8.decode T n).2)) := by
        have := ih (n + (Utf8.decode T n).2) (by omega) hw.2
        revert this
        cases plR T (n + (Utf8.decode T n).2) with
        | ok u m => exact fun h => ⟨by have := h.1; omega, h.2⟩
        | bad e q => exact fun h => ⟨by have := h.1; omega, h.2⟩
      rw [plR_step T n h]
      split
      · exact ⟨Nat.le_refl _, h, Or.inl ⟨h, rfl⟩⟩
      · split
        · exact ⟨Nat.le_refl _, by decide, Or.inr ⟨by decide, h⟩, _, _, rfl, fun e => by omega⟩
        · split
          · split
            · split
              · exact ⟨Nat.le_refl _, by decide, Or.inr ⟨by decide, h⟩, _, _, rfl, fun e => by omega⟩
              · exact key
            · exact ⟨hn, by decide, Or.inl ⟨rfl, rfl⟩, 3, _, rfl, fun _ => ⟨rfl, rfl⟩⟩
          · exact key
    · rw [plR_end T n h]
      exact ⟨hn, by decide, Or.inl ⟨rfl, rfl⟩, 3, _, rfl, fun _ => ⟨rfl, rfl⟩⟩
theorem pl_short {T : ByteArray} {n p : Nat} (hn : n ≤ T.size) (hp : p ≤ n) : PlRel T n p (plR T n) (.bad 3 p) := by
  have := pl_fine T (T.size - n) n (Nat.le_refl _) hn
  revert this
  cases plR T n with
  | ok u m => exact fun h => ⟨h.1, h.2.1, Or.inr ⟨by have := h.1; omega, rfl⟩⟩
  | bad e q => exact fun h => ⟨h.1, h.2.1, h.2.2.1, 3, p, rfl, fun _ => ⟨rfl, rfl⟩⟩
theorem PlRel.up {T : ByteArray} {n m p : Nat} {x y : Res Unit} (h : PlRel T m p x y) (hn : n ≤ m) : PlRel T n p x y := by
  cases x with
  | ok u k => exact ⟨by have := h.1; omega, h.2⟩
  | bad e q => exact ⟨by have := h.1; omega, h.2⟩
theorem pl_rel {T U : ByteArray} {p : Nat} (hc : Cut T U p) : ∀ f n, p - n ≤ f → n ≤ p → PlRel T n p (plR T n) (plR U n) := by
  have h2 := hc.size
  have h3 := hc.lt
  intro f
  induction f with
  | zero =>
    intro n hf hn
    rw [plR_end U n (by omega), h2]
    exact pl_short (by omega) (by omega)
  | succ f ih =>
    intro n hf hn
    by_cases h : n < p
    · have hw := dec_wide T n (by omega)
      rw [plR_step T n (by omega), plR_step U n (by omega)]
      rcases dec_cut hc n h with ⟨hk, e, hfu⟩ | ⟨hk, e, hfu⟩
      · rw [e]
        have key : PlRel T n p (plR T (n + (Utf8.decode T n).2)) (plR U (n + (Utf8.decode T n).2)) := (ih _ (by omega) hk).up (by omega)
        split
        · exact ⟨Nat.le_refl _, by omega, Or.inl ⟨h, rfl⟩⟩
        · split
          · exact ⟨Nat.le_refl _, by decide, Or.inr ⟨by decide, by omega⟩, _, _, rfl, fun e => by omega⟩
          · split
            · by_cases hd : (Utf8.decode T n).2 = 1
              · rw [if_pos hd, if_pos hd]
                have hy : ∃ e' q', (if fullT U n = true then (.bad 13 n : Res Unit) else .bad 3 U.size) = .bad e' q' := by split <;> exact ⟨_, _, rfl⟩
                obtain ⟨e', q', hy⟩ := hy
                rw [hy]
                split
                · exact ⟨Nat.le_refl _, by decide, Or.inr ⟨by decide, by omega⟩, _, _, rfl, fun e => by omega⟩
                · exact ⟨by omega, by decide, Or.inl ⟨rfl, rfl⟩, _, _, rfl, fun e => by omega⟩
              · have hT : fullT T n = true := by
                  rw [dec_N] at hd
                  exact full_of _ _ _ _ _ (UInt8.toNat_lt _) (UInt8.toNat_lt _) (UInt8.toNat_lt _) hd
                rw [if_pos hT, if_pos (hfu hd), if_neg hd, if_neg hd]
                exact key
            · exact key
      · have hd : (Utf8.decode T n).2 ≠ 1 := by omega
        have hT : fullT T n = true ∧ 128 ≤ (Utf8.decode T n).1 := by
          rw [dec_N] at hd ⊢
          exact ⟨full_of _ _ _ _ _ (UInt8.toNat_lt _) (UInt8.toNat_lt _) (UInt8.toNat_lt _) hd, (dec_first _ _ _ _ _ (UInt8.toNat_lt _) (UInt8.toNat_lt _) (UInt8.toNat_lt _) hd).2.1⟩
        rw [e, hfu, h2]
        simp only [show ¬ ((65533 : Nat) = 34 ∨ (65533 : Nat) = 92) by decide, show ¬ (65533 : Nat) < 32 by decide, if_true, if_false, Bool.false_eq_true, hT.1, hd]
        rw [if_neg (by omega), if_neg (by omega)]
        have key := (pl_short (T := T) (n := n + (Utf8.decode T n).2) (p := p) hw.2 (by omega)).up (n := n) (by omega)
        split
        · exact key
        · exact key
    · rw [plR_end U n (by omega), h2]
      exact pl_short (by omega) (by omega)

theorem tx_fine (T : ByteArray) : ∀ f acc n, T.size + 1 - n ≤ f → n ≤ T.size → Fine T n (txR T acc n) := by
  intro f
  induction f with
  | zero => intro acc n hf hn; omega
  | succ f ih =>
    intro acc n hf hn
    rw [txR_step T acc n hn]
    have hp := pl_fine T _ n (Nat.le_refl _) hn
    cases hq : plR T n with
    | bad e q =>
      rw [hq] at hp
      exact ⟨hp.1, hp.2.1, hp.2.2.1⟩
    | ok u m =>
      rw [hq] at hp
      obtain ⟨h1, h2, _⟩ := hp
      simp only
      split
      · exact ⟨by omega, by omega⟩
      · have he := esc_fine T m (by omega)
        cases hx : escR T m with
        | bad e q => rw [hx] at he; exact he.up (α := ByteArray) h1
        | ok c m' =>
          rw [hx] at he
          have h3 := he.1
          have h4 := he.2
          exact (ih _ m' (by omega) (by omega)).up (by omega)
theorem tx_rel {T U : ByteArray} {p : Nat} (hc : Cut T U p) : ∀ f acc n, p + 1 - n ≤ f → n ≤ p → Rel False p (txR T acc n) (txR U acc n) := by
  have h2 := hc.size
  have h3 := hc.lt
  intro f
  induction f with
  | zero => intro acc n hf hn; omega
  | succ f ih =>
    intro acc n hf hn
    have hp := pl_rel hc _ n (Nat.le_refl _) hn
    rw [txR_step T acc n (by omega), txR_step U acc n (by omega)]
    cases hq : plR T n with
    | bad e q =>
      rw [hq] at hp
      obtain ⟨_, _, _, e', q', hy, hr⟩ := hp
      rw [hy]
      exact hr
    | ok u m =>
      rw [hq] at hp
      obtain ⟨h4, h5, ⟨h6, hy⟩ | ⟨h6, hy⟩⟩ := hp
      · rw [hy]
        simp only
        rw [hc.byte m h6, show bytesOf U n m = bytesOf T n m by unfold bytesOf; rw [hc.ext n m (by omega)]]
        split
        · exact Or.inl ⟨rfl, rfl, by omega⟩
        · have he := esc_rel hc m (by omega)
          have hf := esc_fine T m (by omega)
          have := he.bind (k := fun c m' => txR T (acc ++ bytesOf T n m ++ encB c) m') (l := fun c m' => txR U (acc ++ bytesOf T n m ++ encB c) m') (Z' := False) (fun v m' hx hm => by rw [hx] at hf; have := hf.1; exact ih _ m' (by omega) hm) (fun v m' hx hm => by rw [hx] at hf; exact (tx_fine T _ _ m' (Nat.le_refl _) hf.2).off hm) (fun h => h.elim)
          revert this
          cases escR T m <;> cases escR U m <;> exact fun h => h
      · rw [hy]
        simp only
        have hF : Fine T m (if byteAt T m = 34 then .ok ⟨(acc ++ bytesOf T n m).toArray⟩ (m + 1) else match escR T m with | .bad e p => .bad e p | .ok c m' => txR T (acc ++ bytesOf T n m ++ encB c) m') := by
          split
          · exact ⟨by omega, by omega⟩
          · have he := esc_fine T m (by omega)
            cases hx : escR T m with
            | bad e q => rw [hx] at he; exact he
            | ok c m' =>
              rw [hx] at he
              exact (tx_fine T _ _ m' (Nat.le_refl _) he.2).up (by have := he.1; omega)
        exact Rel.short hF h6
theorem text_fine (T : ByteArray) (n : Nat) (hn : n < T.size) : Fine T n (textR T n) := (tx_fine T _ [] (n + 1) (Nat.le_refl _) hn).up (by omega)
theorem text_rel {T U : ByteArray} {p : Nat} (hc : Cut T U p) (n : Nat) (hn : n < p) : Rel False p (textR T n) (textR U n) := tx_rel hc _ [] (n + 1) (Nat.le_refl _) hn

theorem nameFin_eq (T : ByteArray) (had : List ByteArray) (n : Nat) (x : Res ByteArray) : nameFin T had n x = x.bind fun s n' =>
    if hasName had s = true then .bad 16 n
    else if skip T n' < T.size then
      if byteAt T (skip T n') = 58 then .ok s (skip T (skip T n' + 1)) else .bad 10 (skip T n')
    else .bad 3 T.size := by cases x <;> rfl
theorem name_fine (T : ByteArray) (had : List ByteArray) (n : Nat) (hn : n ≤ T.size) : Fine T n (nameR T (textR T) had n) := by
  unfold nameR
  split
  · split
    · rw [nameFin_eq]
      have hf := text_fine T n (by assumption)
      cases hx : textR T n with
      | bad e q => rw [hx] at hf; exact hf
      | ok s m =>
        rw [hx] at hf
        obtain ⟨h1, h2⟩ := hf
        have h3 := skip_bd T m h2
        simp only [Res.bind]
        split
        · exact fine_bad (Nat.le_refl _) (by assumption) (by decide) (by decide)
        · split
          · split
            · have h4 := skip_bd T (skip T m + 1) (by omega)
              exact ⟨by omega, h4.2⟩
            · exact fine_bad (by omega) (by assumption) (by decide) (by decide)
          · exact fine_end hn
    · exact fine_bad (Nat.le_refl _) (by assumption) (by decide) (by decide)
  · exact fine_end hn
theorem name_rel {T U : ByteArray} {p : Nat} (hc : Cut T U p) (had : List ByteArray) (n : Nat) (hn : n ≤ p) : Rel True p (nameR T (textR T) had n) (nameR U (textR U) had n) := by
  have h2 := hc.size
  have h3 := hc.lt
  by_cases e : n = p
  · have hy : nameR U (textR U) had n = .bad 3 p := by unfold nameR; rw [if_neg (by omega), h2]
    rw [hy]
    exact Rel.short (name_fine T had n (by omega)) (by omega)
  · unfold nameR
    rw [if_pos (show n < T.size by omega), if_pos (show n < U.size by omega), hc.byte n (by omega)]
    split
    · rw [nameFin_eq, nameFin_eq]
      refine (text_rel hc n (by omega)).bind (fun s m hx hm => ?_) (fun s m hx hm => ?_) (fun h => h.elim)
      · have hs := skip_cut hc m hm
        have hb := skip_bd T m (by omega)
        by_cases hh : hasName had s = true
        · rw [if_pos hh, if_pos hh]
          intro e; omega
        · rw [if_neg hh, if_neg hh]
          by_cases hq : skip T m < p
          · rw [show skip U m = skip T m by omega, if_pos (show skip T m < T.size by omega), if_pos (show skip T m < U.size by omega), hc.byte _ hq]
            split
            · have hs' := skip_cut hc (skip T m + 1) (by omega)
              by_cases hq' : skip T (skip T m + 1) ≤ p
              · exact Or.inl ⟨rfl, by omega, hq'⟩
              · exact Or.inr ⟨by omega, by omega, trivial⟩
            · intro e; omega
          · rw [show skip U m = p by omega, if_neg (show ¬ p < U.size by omega), h2]
            refine rel_bad3 fun v k hk => ?_
            split at hk
            · split at hk
              · cases hk
                have := skip_bd T (skip T m + 1) (by omega)
                omega
              · cases hk
            · cases hk
      · have hf := text_fine T n (by omega)
        rw [hx] at hf
        have hb := skip_bd T m hf.2
        split
        · show n ≠ p; omega
        · split
          · split
            · have := skip_bd T (skip T m + 1) (by omega)
              show p < _; omega
            · show skip T m ≠ p; omega
          · show T.size ≠ p; omega
    · intro e; omega

/-- What a list's or an object's parts must keep to. -/
structure PartRel {α : Type} (Z : Prop) (T U : ByteArray) (p : Nat) (part part' : α → Nat → Res α) : Prop where
  fine : ∀ s n, n ≤ T.size → Fine T n (part s n)
  rel : ∀ s n, n ≤ p → Rel Z p (part s n) (part' s n)
  stop : ∀ s, part' s p = .bad 3 p
theorem loop_fine {α : Type} (T : ByteArray) (part : α → Nat → Res α) (c : UInt8) (hp : ∀ s n, n ≤ T.size → Fine T n (part s n)) : ∀ f s n, T.size - n + 1 ≤ f → n ≤ T.size → Fine T n (loopR part c T f s n) := by
  intro f
  induction f with
  | zero => intro s n hf hn; omega
  | succ f ih =>
    intro s n hf hn
    rw [loopR_succ]
    have h := hp s n hn
    cases hx : part s n with
    | bad e q => rw [hx] at h; exact h
    | ok s' m =>
      rw [hx] at h
      obtain ⟨h1, h2⟩ := h
      have hb := skip_bd T m h2
      simp only
      split
      · split
        · exact ⟨by omega, by omega⟩
        · split
          · have hb' := skip_bd T (skip T m + 1) (by omega)
            exact (ih s' _ (by omega) (by omega)).up (by omega)
          · exact fine_bad (by omega) (by assumption) (by decide) (by decide)
      · exact fine_end hn
theorem loop_stop {α : Type} (U : ByteArray) (part : α → Nat → Res α) (c : UInt8) (p : Nat) (hs : ∀ s, part s p = .bad 3 p) (f : Nat) (s : α) : loopR part c U (f + 1) s p = .bad 3 p := by
  rw [loopR_succ, hs]
theorem loop_rel {α : Type} {Z : Prop} {T U : ByteArray} {p : Nat} (hc : Cut T U p) {part part' : α → Nat → Res α} (hP : PartRel Z T U p part part') (c : UInt8) : ∀ f g s n, T.size - n + 1 ≤ f → p - n + 1 ≤ g → n ≤ p → Rel False p (loopR part c T f s n) (loopR part' c U g s n) := by
  have h2 := hc.size
  have h3 := hc.lt
  intro f
  induction f with
  | zero => intro g s n hf hg hn; omega
  | succ f ih =>
    intro g s n hf hg hn
    obtain ⟨g, rfl⟩ : ∃ g', g = g' + 1 := ⟨g - 1, by omega⟩
    have hfi := hP.fine s n (by omega)
    have key := (hP.rel s n hn).bind (Z' := False)
      (k := fun s' n' => if skip T n' < T.size then
        if byteAt T (skip T n') = c then .ok s' (skip T n' + 1)
        else if byteAt T (skip T n') = 44 then loopR part c T f s' (skip T (skip T n' + 1))
        else .bad 10 (skip T n')
      else .bad 3 T.size)
      (l := fun s' n' => if skip U n' < U.size then
        if byteAt U (skip U n') = c then .ok s' (skip U n' + 1)
        else if byteAt U (skip U n') = 44 then loopR part' c U g s' (skip U (skip U n' + 1))
        else .bad 10 (skip U n')
      else .bad 3 U.size) (fun s' m hx hm => ?_) (fun s' m hx hm => ?_) (fun _ s' => ?_)
    · rw [loopR_succ, loopR_succ]
      revert key
      cases part s n <;> cases part' s n <;> exact fun h => h
    · rw [hx] at hfi
      obtain ⟨h4, h5⟩ := hfi
      have hs := skip_cut hc m hm
      have hb := skip_bd T m h5
      by_cases hq : skip T m < p
      · simp only [show skip U m = skip T m by omega, show skip T m < T.size by omega, show skip T m < U.size by omega, hc.byte _ hq, if_true]
        split
        · exact Or.inl ⟨rfl, rfl, by omega⟩
        · split
          · have hs' := skip_cut hc (skip T m + 1) (by omega)
            have hb' := skip_bd T (skip T m + 1) (by omega)
            by_cases hq' : skip T (skip T m + 1) ≤ p
            · rw [show skip U (skip T m + 1) = skip T (skip T m + 1) by omega]
              exact ih g s' _ (by omega) (by omega) hq'
            · rw [show skip U (skip T m + 1) = p by omega]
              obtain ⟨g', rfl⟩ : ∃ g', g = g' + 1 := ⟨g - 1, by omega⟩
              rw [loop_stop U part' c p hP.stop]
              exact Rel.short (loop_fine T part c hP.fine f s' _ (by omega) (by omega)) (by omega)
          · intro e; omega
      · simp only [show skip U m = p by omega, show ¬ p < U.size by omega, if_false]
        rw [h2]
        refine rel_bad3 fun v k hk => ?_
        split at hk
        · split at hk
          · cases hk; omega
          · split at hk
            · have hb' := skip_bd T (skip T m + 1) (by omega)
              have := loop_fine T part c hP.fine f s' _ (by omega) hb'.2
              rw [hk] at this
              have := this.1
              omega
            · cases hk
        · cases hk
    · rw [hx] at hfi
      obtain ⟨h4, h5⟩ := hfi
      have hb := skip_bd T m h5
      split
      · split
        · show p < _; omega
        · split
          · have hb' := skip_bd T (skip T m + 1) (by omega)
            exact (loop_fine T part c hP.fine f s' _ (by omega) hb'.2).off (by omega)
          · show skip T m ≠ p; omega
      · show T.size ≠ p; omega
    · have hs := skip_cut hc p (Nat.le_refl _)
      have hb := skip_bd T p (by omega)
      rw [show skip U p = p by omega, if_neg (by omega), h2]
theorem between_fine {α : Type} (T : ByteArray) (part : α → Nat → Res α) (c : UInt8) (hp : ∀ s n, n ≤ T.size → Fine T n (part s n)) (s : α) (n : Nat) (hn : n < T.size) : Fine T n (betweenR part c T s n) := by
  unfold betweenR
  have hb := skip_bd T (n + 1) (by omega)
  split
  · split
    · exact ⟨by omega, by omega⟩
    · exact (loop_fine T part c hp _ s _ (Nat.le_refl _) hb.2).up (by omega)
  · exact fine_end (by omega)
theorem between_rel {α : Type} {Z : Prop} {T U : ByteArray} {p : Nat} (hc : Cut T U p) {part part' : α → Nat → Res α} (hP : PartRel Z T U p part part') (c : UInt8) (s : α) (n : Nat) (hn : n < p) : Rel False p (betweenR part c T s n) (betweenR part' c U s n) := by
  have h2 := hc.size
  have h3 := hc.lt
  have hs := skip_cut hc (n + 1) (by omega)
  have hb := skip_bd T (n + 1) (by omega)
  unfold betweenR
  by_cases hq : skip T (n + 1) < p
  · rw [show skip U (n + 1) = skip T (n + 1) by omega, if_pos (show skip T (n + 1) < T.size by omega), if_pos (show skip T (n + 1) < U.size by omega), hc.byte _ hq]
    split
    · exact Or.inl ⟨rfl, rfl, by omega⟩
    · exact loop_rel hc hP c _ _ s _ (Nat.le_refl _) (by omega) (by omega)
  · rw [show skip U (n + 1) = p by omega, if_neg (show ¬ p < U.size by omega), h2]
    refine rel_bad3 fun v k hk => ?_
    split at hk
    · split at hk
      · cases hk; omega
      · have := loop_fine T part c hP.fine _ s _ (Nat.le_refl _) hb.2
        rw [hk] at this
        have := this.1
        omega
    · cases hk

theorem head_fine (T : ByteArray) (n : Nat) (li ob : Res J) (hn : n ≤ T.size) (hl : n < T.size → Fine T n li) (ho : n < T.size → Fine T n ob) : Fine T n (headR T (textR T) n li ob) := by
  unfold headR
  split
  · rename_i h
    split
    · exact (lit_fine T _ n (by simp) hn).map _
    · split
      · exact (lit_fine T _ n (by simp) hn).map _
      · split
        · exact (lit_fine T _ n (by simp) hn).map _
        · split
          · refine Fine.map ?_ _
            unfold numR
            split
            · exact num_fine T n (n + 1) (by omega) (by omega)
            · exact num_fine T n n (by omega) (by omega)
          · split
            · exact (text_fine T n h).map _
            · split
              · exact hl h
              · split
                · exact ho h
                · exact fine_bad (Nat.le_refl _) h (by decide) (by decide)
  · exact fine_end hn
theorem head_stop (U : ByteArray) (p : Nat) (h : U.size = p) (li ob : Res J) : headR U (textR U) p li ob = .bad 3 p := by
  unfold headR; rw [if_neg (by omega), h]
theorem head_rel {T U : ByteArray} {p : Nat} (hc : Cut T U p) (n : Nat) (li ob li' ob' : Res J) (hn : n < p) (hl : Rel (byteAt T p ≠ 0) p li li') (ho : Rel (byteAt T p ≠ 0) p ob ob') : Rel (byteAt T p ≠ 0) p (headR T (textR T) n li ob) (headR U (textR U) n li' ob') := by
  have h2 := hc.size
  have h3 := hc.lt
  unfold headR
  rw [if_pos (show n < T.size by omega), if_pos (show n < U.size by omega), hc.byte n hn]
  split
  · exact (lit_rel hc _ _ n (by omega)).map _
  · split
    · exact (lit_rel hc _ _ n (by omega)).map _
    · split
      · exact (lit_rel hc _ _ n (by omega)).map _
      · split
        · refine Rel.map ?_ _
          unfold numR
          rw [hc.byte n hn]
          split
          · exact num_rel hc n (n + 1) hn (by omega)
          · exact num_rel hc n n hn (by omega)
        · split
          · exact ((text_rel hc n hn).mono (fun h => h.elim)).map _
          · split
            · exact hl
            · split
              · exact ho
              · intro e; omega
theorem memberR_eq (T : ByteArray) (tx : Nat → Res ByteArray) (val : Nat → Res J) (s : List ByteArray × List J) (n : Nat) : memberR T tx val s n = (nameR T tx s.1 n).bind fun nm n' => (val n').map fun j => (s.1 ++ [nm], s.2 ++ [j]) := by
  unfold memberR
  cases nameR T tx s.1 n <;> rfl
theorem val_fine (T : ByteArray) : ∀ k n, n ≤ T.size → Fine T n (valR T (textR T) k n)
  | 0, n, hn => by
    rw [valR]
    exact head_fine T n _ _ hn (fun h => fine_bad (Nat.le_refl _) h (by decide) (by decide)) (fun h => fine_bad (Nat.le_refl _) h (by decide) (by decide))
  | k + 1, n, hn => by
    rw [valR]
    refine head_fine T n _ _ hn (fun h => ?_) (fun h => ?_)
    · exact (between_fine T _ 93 (fun s m hm => (val_fine T k m hm).map _) [] n h).map _
    · refine (between_fine T _ 125 (fun s m hm => ?_) ([], []) n h).map _
      rw [memberR_eq]
      have h1 := name_fine T s.1 m hm
      cases hx : nameR T (textR T) s.1 m with
      | bad e q => rw [hx] at h1; exact h1
      | ok nm m' =>
        rw [hx] at h1
        exact ((val_fine T k m' h1.2).map _).up (by have := h1.1; omega)
theorem val_stop (U : ByteArray) (p : Nat) (h : U.size = p) (k : Nat) : valR U (textR U) k p = .bad 3 p := by
  cases k <;> rw [valR] <;> exact head_stop U p h _ _
theorem val_rel {T U : ByteArray} {p : Nat} (hc : Cut T U p) : ∀ k n, n ≤ p → Rel (byteAt T p ≠ 0) p (valR T (textR T) k n) (valR U (textR U) k n)
  | 0, n, hn => by
    by_cases e : n = p
    · subst e
      rw [val_stop U n hc.size]
      exact Rel.short (val_fine T 0 n (by have := hc.lt; omega)) (Nat.le_refl _)
    · rw [valR, valR]
      exact head_rel hc n _ _ _ _ (by omega) (fun e' => absurd e' e) (fun e' => absurd e' e)
  | k + 1, n, hn => by
    have h3 := hc.lt
    by_cases e : n = p
    · subst e
      rw [val_stop U n hc.size]
      exact Rel.short (val_fine T (k + 1) n (by omega)) (Nat.le_refl _)
    · rw [valR, valR]
      refine head_rel hc n _ _ _ _ (by omega) ?_ ?_
      · refine ((between_rel hc (Z := byteAt T p ≠ 0) ⟨fun s m hm => (val_fine T k m hm).map _, fun s m hm => (val_rel hc k m hm).map _, fun s => ?_⟩ 93 [] n (by omega)).mono (fun h => h.elim)).map _
        show Res.map _ (valR U (textR U) k p) = _
        rw [val_stop U p hc.size]; rfl
      · refine ((between_rel hc (Z := byteAt T p ≠ 0) ⟨fun s m hm => ?_, fun s m hm => ?_, fun s => ?_⟩ 125 ([], []) n (by omega)).mono (fun h => h.elim)).map _
        · rw [memberR_eq]
          have h1 := name_fine T s.1 m hm
          cases hx : nameR T (textR T) s.1 m with
          | bad e q => rw [hx] at h1; exact h1
          | ok nm m' =>
            rw [hx] at h1
            exact ((val_fine T k m' h1.2).map _).up (by have := h1.1; omega)
        · rw [memberR_eq, memberR_eq]
          have h1 := name_fine T s.1 m (by omega)
          refine (name_rel hc s.1 m hm).bind (fun nm m' hx hm' => (val_rel hc k m' hm').map _) (fun nm m' hx hm' => ?_) (fun _ nm => ?_)
          · rw [hx] at h1
            exact ((val_fine T k m' h1.2).map (β := List ByteArray × List J) _).off hm'
          · rw [val_stop U p hc.size]; rfl
        · rw [memberR_eq]
          have : nameR U (textR U) s.1 p = .bad 3 p := by unfold nameR; rw [if_neg (by rw [hc.size]; omega), hc.size]
          rw [this]; rfl

/-! The whole text. -/
theorem whole_fine (T : ByteArray) : (∃ j, wholeR T (textR T) = .ok j 0) ∨ ∃ e q, wholeR T (textR T) = .bad e q ∧ e ≠ 0 ∧ (e = 3 ∧ q = T.size ∨ e ≠ 3 ∧ q < T.size) := by
  have hb := skip_bd T 0 (by omega)
  have hv := val_fine T 64 (skip T 0) hb.2
  unfold wholeR
  cases hx : valR T (textR T) 64 (skip T 0) with
  | bad e q => rw [hx] at hv; exact Or.inr ⟨e, q, rfl, hv.2⟩
  | ok j m =>
    rw [tailR]
    split
    · exact Or.inr ⟨4, _, rfl, by decide, Or.inr ⟨by decide, by assumption⟩⟩
    · exact Or.inl ⟨j, rfl⟩
theorem whole_cut {T U : ByteArray} {p : Nat} (hc : Cut T U p) {e : Nat} (h : wholeR T (textR T) = .bad e p) : (∃ j, wholeR U (textR U) = .ok j 0) ∨ wholeR U (textR U) = .bad 3 p := by
  have h2 := hc.size
  have h3 := hc.lt
  have hb := skip_bd T 0 (by omega)
  have hs := skip_cut hc 0 (by omega)
  have hsp := skip_cut hc p (Nat.le_refl _)
  have hbp := skip_bd T p (by omega)
  have hv := val_fine T 64 (skip T 0) hb.2
  unfold wholeR at *
  by_cases hq : skip T 0 ≤ p
  · rw [show skip U 0 = skip T 0 by omega]
    have hr := val_rel hc 64 (skip T 0) hq
    cases hx : valR T (textR T) 64 (skip T 0) with
    | bad e' q =>
      rw [hx] at hr h
      rw [tailR] at h
      cases h
      cases hy : valR U (textR U) 64 (skip T 0) with
      | bad e'' q' =>
        rw [hy] at hr
        obtain ⟨rfl, rfl⟩ := hr rfl
        exact Or.inr rfl
      | ok j m =>
        rw [hy] at hr
        obtain ⟨rfl, _⟩ := hr
        rw [tailR, if_neg (by omega)]
        exact Or.inl ⟨j, rfl⟩
    | ok j m =>
      rw [hx] at hr h hv
      rw [tailR] at h
      split at h
      · cases h
        have hbm := skip_bd T m hv.2
        cases hy : valR U (textR U) 64 (skip T 0) with
        | bad e'' q' => rw [hy] at hr; have : skip T m < m := hr; omega
        | ok j' m' =>
          rw [hy] at hr
          rcases hr with ⟨rfl, rfl, hm⟩ | ⟨hm, _, _⟩
          · have := skip_cut hc m hm
            rw [tailR, if_neg (by omega)]
            exact Or.inl ⟨j, rfl⟩
          · omega
      · cases h
  · exfalso
    cases hx : valR T (textR T) 64 (skip T 0) with
    | bad e' q =>
      rw [hx] at hv h
      rw [tailR] at h
      cases h
      have := hv.1
      omega
    | ok j m =>
      rw [hx] at hv h
      rw [tailR] at h
      split at h
      · cases h
        have := skip_bd T m hv.2
        have := hv.1
        omega
      · cases h
theorem skip_zero {T : ByteArray} {p : Nat} (h : byteAt T p = 0) : ∀ f n, n ≤ p → skipTo T f n ≤ p
  | 0, n, hn => by rw [skipTo]; exact hn
  | f + 1, n, hn => by
    unfold skipTo
    split
    · rename_i g
      refine skip_zero h f (n + 1) ?_
      rcases Nat.lt_or_ge n p with h1 | h1
      · exact h1
      · exfalso
        have : n = p := by omega
        subst this
        rw [h] at g
        exact absurd g.2 (by decide)
    · exact hn
theorem whole_more {T U : ByteArray} {p : Nat} (hc : Cut T U p) (hz : byteAt T p = 0) {j : J} {n : Nat} (h : wholeR U (textR U) = .ok j n) : wholeR T (textR T) = .bad 4 p := by
  have h2 := hc.size
  have h3 := hc.lt
  have hs := skip_cut hc 0 (by omega)
  have hz0 : skip T 0 ≤ p := skip_zero hz _ 0 (by omega)
  have hr := val_rel hc 64 (skip T 0) hz0
  unfold wholeR at *
  rw [show skip U 0 = skip T 0 by omega] at h
  cases hy : valR U (textR U) 64 (skip T 0) with
  | bad e q => rw [hy, tailR] at h; cases h
  | ok j' m =>
    rw [hy, tailR] at h
    split at h
    · cases h
    · rw [hy] at hr
      cases hx : valR T (textR T) 64 (skip T 0) with
      | bad e q => rw [hx] at hr; exact absurd hz hr.2
      | ok j'' m' =>
        rw [hx] at hr
        rcases hr with ⟨rfl, rfl, hm⟩ | ⟨_, _, hn⟩
        · have hsm := skip_cut hc m' hm
          have hzm : skip T m' ≤ p := skip_zero hz _ m' hm
          have e : skip T m' = p := by omega
          rw [tailR, e, if_pos h3]
        · exact absurd hz hn
theorem byte_opt (T : ByteArray) (n : Nat) : byteAt T n = (T.data[n]?).getD 0 := by
  unfold byteAt; rw [Array.getD_eq_getD_getElem?]
theorem cut_extract (T : ByteArray) (p : Nat) (h : p < T.size) : Cut T (T.extract 0 p) p := by
  refine ⟨by rw [ByteArray.size_extract]; omega, h, fun n hn => ?_, fun n m hm => ?_⟩
  · rw [byte_opt, byte_opt, ByteArray.data_extract, Array.getElem?_extract]
    have : T.data.size = T.size := rfl
    rw [if_pos (by omega), Nat.zero_add]
  · apply ByteArray.ext
    rw [ByteArray.data_extract, ByteArray.data_extract, ByteArray.data_extract, Array.extract_extract]
    congr 1
    · omega
    · omega
theorem cut_append (U Z : ByteArray) (hz : 0 < Z.size) : Cut (U ++ Z) U U.size := by
  refine ⟨rfl, by rw [ByteArray.size_append]; omega, fun n hn => ?_, fun n m hm => ?_⟩
  · rw [byte_opt, byte_opt, ByteArray.data_append, Array.getElem?_append_left hn]
  · apply ByteArray.ext
    rw [ByteArray.data_extract, ByteArray.data_extract, ByteArray.data_append, Array.extract_append]
    have e : m - U.data.size = 0 := Nat.sub_eq_zero_of_le hm
    rw [e]
    simp
theorem zero_append (U : ByteArray) : byteAt (U ++ ⟨#[0]⟩) U.size = 0 := by
  have h : (U.data ++ #[(0 : UInt8)])[U.data.size]? = some 0 := by
    rw [Array.getElem?_append_right (Nat.le_refl _), Nat.sub_self]; rfl
  rw [byte_opt, ByteArray.data_append]
  show ((U.data ++ #[(0 : UInt8)])[U.data.size]?).getD 0 = 0
  rw [h]; rfl

/-- What Parse tells: a text that is too long has a fault of its own. -/
def parsed (T : ByteArray) : Res J := if T.size ≤ 65536 then wholeR T (textR T) else .bad 1 0
theorem parsed_empty : parsed (⟨#[]⟩ : ByteArray) = .bad 3 0 := rfl
theorem parsed_cases (T : ByteArray) : (∃ j, parsed T = .ok j 0) ∨ ∃ e q, parsed T = .bad e q ∧ e ≠ 0 ∧ q ≤ T.size ∧ (e = 3 → q = T.size) := by
  unfold parsed
  split
  · rcases whole_fine T with h | ⟨e, q, h, h0, h1⟩
    · exact Or.inl h
    · exact Or.inr ⟨e, q, h, h0, by omega, by omega⟩
  · exact Or.inr ⟨1, 0, rfl, by decide, by omega, by omega⟩
theorem parsed_cut (T : ByteArray) (e q : Nat) (h : parsed T = .bad e q) : (∃ j, parsed (T.extract 0 q) = .ok j 0) ∨ parsed (T.extract 0 q) = .bad 3 q := by
  unfold parsed at h
  split at h
  · rename_i hT
    rcases whole_fine T with ⟨j, g⟩ | ⟨e', q', g, h0, h1⟩
    · rw [h] at g; cases g
    · rw [h] at g
      cases g
      rcases h1 with ⟨rfl, rfl⟩ | ⟨h1, h2⟩
      · rw [ByteArray.extract_zero_size]
        unfold parsed
        rw [if_pos hT]
        exact Or.inr h
      · unfold parsed
        rw [if_pos (by rw [ByteArray.size_extract]; omega)]
        exact whole_cut (cut_extract T q h2) h
  · cases h
    refine Or.inr ?_
    have : T.extract 0 0 = ⟨#[]⟩ := by apply ByteArray.ext; rw [ByteArray.data_extract]; simp
    rw [this]; rfl
theorem parsed_more (T : ByteArray) (j : J) (h : parsed T = .ok j 0) (hT : T.size ≠ 65536) : parsed (T ++ ⟨#[0]⟩) = .bad 4 T.size := by
  unfold parsed at h
  split at h
  · rename_i hs
    unfold parsed
    rw [if_pos (by rw [ByteArray.size_append]; show T.size + 1 ≤ 65536; omega)]
    exact whole_more (cut_append T _ (by decide)) (zero_append T) h
  · cases h
end Go.Proofs.YtnccaidlcaeeaaaGreatDoor
