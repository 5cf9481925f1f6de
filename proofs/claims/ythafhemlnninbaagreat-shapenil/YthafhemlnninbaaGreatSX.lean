import Derived.Test.YthafhemlnninbaaGreatSW
/-! Stable sorting over memory: merging in general: where it is cut. -/
namespace Go.Proofs.YthafhemlnninbaaGreat.Sorted
open Go Go.RowKit Go.Stab
section
variable {α : Type} {enc : α → Array Value} {rv : Value}
/-- The search for the cut: s of L and H - s of R, or t of L and H - t of R. -/
structure Cut (lt : α → α → Bool) (L R : List α) (H s t : Nat) : Prop where
  le : s ≤ t
  tH : t ≤ H
  tl : t ≤ L.length
  sr : H ≤ R.length + s
  low : ∀ x y, 0 < s → L[s - 1]? = some x → R[H - s]? = some y → lt y x = false
  high : ∀ x y, L[t]? = some x → 0 < H - t → R[H - t - 1]? = some y → lt y x = true
theorem Cut.up {lt : α → α → Bool} {L R : List α} {H s t u : Nat} {x y : α} (k : Cut lt L R H s t) (h1 : s ≤ u) (h2 : u < t) (hx : L[u]? = some x) (hy : R[H - 1 - u]? = some y) (h : lt y x = false) : Cut lt L R H (u + 1) t :=
  ⟨by omega, k.tH, k.tl, by have := k.sr; omega, fun x' y' _ hx' hy' => by
    rw [show u + 1 - 1 = u by omega, hx] at hx'
    rw [show H - (u + 1) = H - 1 - u by omega, hy] at hy'
    cases hx'; cases hy'; exact h, k.high⟩
theorem Cut.down {lt : α → α → Bool} {L R : List α} {H s t u : Nat} {x y : α} (k : Cut lt L R H s t) (h1 : s ≤ u) (h2 : u < t) (hx : L[u]? = some x) (hy : R[H - 1 - u]? = some y) (h : lt y x = true) : Cut lt L R H s u :=
  ⟨h1, by have := k.tH; omega, by have := k.tl; omega, k.sr, k.low, fun x' y' hx' _ hy' => by
    rw [hx] at hx'
    rw [show H - u - 1 = H - 1 - u by omega, hy] at hy'
    cases hx'; cases hy'; exact h⟩
/-- What stands behind is no less. -/
theorem Cut.far {lt : α → α → Bool} {L R : List α} {H : Nat} (h1 : H < L.length) (h2 : R.length ≤ H) : Cut lt L R H (H - R.length) H :=
  ⟨by omega, by omega, by omega, by omega, fun x y h0 _ hy => by
    have := (List.getElem?_eq_some_iff.1 hy).1
    omega, fun x y _ h0 _ => by omega⟩
theorem Cut.near {lt : α → α → Bool} {L R : List α} {H : Nat} (h1 : L.length ≤ H) (h2 : H ≤ R.length) : Cut lt L R H 0 L.length :=
  ⟨by omega, by omega, by omega, by omega, fun x y h0 _ _ => by omega, fun x y hx _ _ => by
    have := (List.getElem?_eq_some_iff.1 hx).1
    omega⟩
theorem Cut.done {lt : α → α → Bool} (O : Swo lt) {L R : List α} {H s : Nat} (k : Cut lt L R H s s) (hl : Up lt L) (hr : Up lt R) : mergeL lt L R = mergeL lt (L.take s) (R.take (H - s)) ++ mergeL lt (L.drop s) (R.drop (H - s)) :=
  merge_cut O hl hr s (H - s) (fun x y hx h0 hy => k.high x y hx h0 hy) k.low k.tl (by have := k.sr; omega)
theorem Up.take {lt : α → α → Bool} {l : List α} (h : Up lt l) (n : Nat) : Up lt (l.take n) := by
  rw [← List.take_append_drop n l] at h
  exact (Up.append h).1
theorem Up.drop {lt : α → α → Bool} {l : List α} (h : Up lt l) (n : Nat) : Up lt (l.drop n) := by
  rw [← List.take_append_drop n l] at h
  exact (Up.append h).2.1
/-- What symMerge promises of lists that are s long together. -/
def SymOk (rv : Value) (enc : α → Array Value) (lt : α → α → Bool) (w0 : World) (b n cap s : Nat) : Prop :=
  ∀ (A L R B : List α) (a m c : Nat) (w : World), But b w0 w → RowE enc w b (A ++ (L ++ (R ++ B))) → Up lt L → Up lt R → 0 < L.length → 0 < R.length → L.length + R.length = s → A.length = a → a + L.length = m → m + R.length = c → c + B.length = n →
    Calls Tryz.prog 93 #[.slice (some ⟨b, 0, none⟩) n cap, .int .i64 a, .int .i64 m, .int .i64 c, .func (.func 38) #[rv] #[]] w fun e w' => e = .returned (.tuple #[]) ∧ RowE enc w' b (A ++ (mergeL lt L R ++ B)) ∧ But b w w'
end
end Go.Proofs.YthafhemlnninbaaGreat.Sorted
