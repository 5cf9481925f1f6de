import Derived.Test.YtbcfkajcmbckbaaGreatDoorKI
import Derived.Maps.Views
/-! schema: the names that required asks, plain. -/
namespace Go.Proofs.YtbcfkajcmbckbaaGreatDoor
open Go Go.RowKit

/-- The names asked, each once, in the order in which they are asked first. -/
def udS (U : List ByteArray) (t : Tr) : List ByteArray := if memB U t.text = true then U else U ++ [t.text]
def udL (l : List Tr) : List ByteArray := l.foldl udS []
theorem memB_iff {l : List ByteArray} {s : ByteArray} : memB l s = true ↔ s ∈ l := by
  unfold memB
  rw [List.any_eq_true]
  constructor
  · rintro ⟨a, h1, h2⟩
    rw [← of_decide_eq_true h2]; exact h1
  · exact fun h => ⟨s, h, decide_eq_true rfl⟩
theorem has_nums (U : List ByteArray) (s : ByteArray) : Maps.has (numsD U) (keyL s) = memB U s := by rw [(nums_look U s).1, noOf_some]
theorem tidy_nums : (U : List ByteArray) → Maps.Tidy (numsD U) := fun U => by
  suffices h : ∀ n, n ≤ U.length → Maps.Tidy (numsD (U.take n)) by
    have := h U.length (Nat.le_refl _)
    rwa [List.take_length] at this
  intro n
  induction n with
  | zero => intro _; rw [List.take_zero]; exact Maps.tidy_empty
  | succ n ih =>
    intro hn
    obtain ⟨a, ha⟩ : ∃ a, U[n]? = some a := ⟨_, List.getElem?_eq_getElem (by omega)⟩
    rw [List.take_add_one, ha, Option.toList_some, numsD_snoc]
    exact Maps.Tidy.put (k := keyL a) (ih (by omega)) (show WideAt.IsKeyLit (keyL a) from trivial) _
theorem ud_fold : (l : List Tr) → (U : List ByteArray) → U.Nodup → Maps.size (numsD U) = U.length →
    l.foldl (fun D t => if Maps.has D (keyL t.text) = true then D else D.put (keyL t.text) (.lit (.int .i64 (Maps.size D : Int)))) (numsD U) = numsD (l.foldl udS U) ∧ (l.foldl udS U).Nodup ∧ Maps.size (numsD (l.foldl udS U)) = (l.foldl udS U).length ∧ ∀ s, memB (l.foldl udS U) s = (memB U s || l.any fun t => decide (t.text = s))
  | [], U, h1, h2 => ⟨rfl, h1, h2, fun s => by simp⟩
  | t :: l, U, h1, h2 => by
    rw [List.foldl_cons, List.foldl_cons, has_nums]
    by_cases h : memB U t.text = true
    · rw [if_pos h, show udS U t = U by unfold udS; rw [if_pos h]]
      obtain ⟨e1, e2, e3, e4⟩ := ud_fold l U h1 h2
      refine ⟨e1, e2, e3, fun s => ?_⟩
      rw [e4 s, List.any_cons]
      by_cases hs : t.text = s
      · subst hs
        simp [h]
      · simp [hs]
    · have hn : ¬ t.text ∈ U := fun hm => h (memB_iff.2 hm)
      have hx : numsD (U ++ [t.text]) = (numsD U).put (keyL t.text) (.lit (.int .i64 (Maps.size (numsD U) : Int))) := by rw [numsD_snoc, h2]
      rw [if_neg h, show udS U t = U ++ [t.text] by unfold udS; rw [if_neg h], ← hx]
      have hnd : (U ++ [t.text]).Nodup := by
        rw [List.nodup_append]
        exact ⟨h1, by simp, fun a ha b hb => by simp at hb; subst hb; exact fun e => hn (e ▸ ha)⟩
      have hsz : Maps.size (numsD (U ++ [t.text])) = (U ++ [t.text]).length := by
        rw [hx, Maps.size_put (tidy_nums U), has_nums, if_neg h, h2]; simp
      obtain ⟨e1, e2, e3, e4⟩ := ud_fold l (U ++ [t.text]) hnd hsz
      refine ⟨e1, e2, e3, fun s => ?_⟩
      rw [e4 s, List.any_cons]
      unfold memB
      rw [List.any_append]
      simp [Bool.or_assoc]
theorem req_nums (l : List Tr) : reqD l = numsD (udL l) ∧ (udL l).Nodup ∧ Maps.size (numsD (udL l)) = (udL l).length ∧ ∀ s, memB (udL l) s = l.any fun t => decide (t.text = s) := by
  obtain ⟨e1, e2, e3, e4⟩ := ud_fold l [] List.nodup_nil rfl
  exact ⟨e1, e2, e3, fun s => by rw [udL, e4 s]; rfl⟩
theorem req_all (l : List Tr) (P : List ByteArray) : (udL l).all (memB P) = l.all (fun y => memB P y.text) := by
  obtain ⟨-, -, -, e4⟩ := req_nums l
  rw [Bool.eq_iff_iff, List.all_eq_true, List.all_eq_true]
  constructor
  · intro h y hy
    refine h _ (memB_iff.1 ?_)
    rw [e4, List.any_eq_true]
    exact ⟨y, hy, decide_eq_true rfl⟩
  · intro h s hs
    have := memB_iff.2 hs
    rw [e4, List.any_eq_true] at this
    obtain ⟨y, hy, he⟩ := this
    rw [← of_decide_eq_true he]
    exact h y hy
/-- How many are not there yet. -/
def gapN (U P : List ByteArray) : Nat := (U.filter fun s => !memB P s).length
theorem gap_le (U P : List ByteArray) : gapN U P ≤ U.length := List.length_filter_le _ _
theorem gap_zero (U P : List ByteArray) : decide (gapN U P = 0) = U.all (memB P) := by
  unfold gapN
  rw [Bool.eq_iff_iff, decide_eq_true_iff, List.length_eq_zero_iff, List.filter_eq_nil_iff, List.all_eq_true]
  exact ⟨fun h s hs => by simpa using h s hs, fun h s hs => by simpa using h s hs⟩
theorem memB_snoc (P : List ByteArray) (s a : ByteArray) : memB (P ++ [s]) a = (memB P a || decide (s = a)) := by
  unfold memB
  rw [List.any_append]
  simp
theorem gap_same {U P : List ByteArray} {s : ByteArray} (h : memB U s = true → memB P s = true) : gapN U (P ++ [s]) = gapN U P := by
  unfold gapN
  congr 1
  refine List.filter_congr fun a ha => ?_
  rw [memB_snoc]
  by_cases e : s = a
  · subst e
    simp [h (memB_iff.2 ha)]
  · simp [e]
theorem gap_less : {U : List ByteArray} → {P : List ByteArray} → {s : ByteArray} → U.Nodup → memB U s = true → memB P s = false → gapN U (P ++ [s]) + 1 = gapN U P
  | [], P, s, _, h, _ => by cases h
  | a :: U, P, s, hn, h, hp => by
    rw [List.nodup_cons] at hn
    unfold gapN
    rw [List.filter_cons, List.filter_cons, memB_snoc]
    by_cases e : a = s
    · subst e
      have hs : gapN U (P ++ [a]) = gapN U P := gap_same (fun h => absurd (memB_iff.1 h) hn.1)
      unfold gapN at hs
      simp [hp, hs]
    · have h' : memB U s = true := by
        rw [memB_iff] at h ⊢
        rcases List.mem_cons.1 h with h | h
        · exact absurd h.symm e
        · exact h
      have ih := gap_less hn.2 h' hp
      unfold gapN at ih
      have e' : ¬ s = a := fun x => e x.symm
      cases hb : memB P a with
      | true => simp [e']; exact ih
      | false => simp [e']; exact ih
end Go.Proofs.YtbcfkajcmbckbaaGreatDoor
