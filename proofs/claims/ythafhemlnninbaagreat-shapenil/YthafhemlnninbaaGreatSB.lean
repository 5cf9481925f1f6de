import Derived.Test.YthafhemlnninbaaGreatSA
/-! slices.SortStableFunc. -/
namespace Go.Proofs.YthafhemlnninbaaGreat.Sorted
open Go Go.RowKit Go.Stab
section
variable {α : Type} {enc : α → Array Value} {rv : Value}
theorem sort_any (E : Enc enc) {lt : α → α → Bool} (O : Swo lt) {b : Nat} {w0 : World} (cn : α → α → Int) (hlt : ∀ x y, lt x y = decide (cn x y < 0)) (hcmp : ∀ x y W, But b w0 W → Calls Tryz.prog 38 #[rv, .agg (enc x), .agg (enc y)] W fun e w' => e = .returned (.int .i64 (cn x y)) ∧ Below W.heap.size W w')
    (D : List α) (n cap : Nat) (w : World) (hw0 : But b w0 w) (hR : RowE enc w b D) (hn : D.length = n) (hnn : n ≤ 1152921504606846976) :
    Calls Tryz.prog 37 #[.slice (some ⟨b, 0, none⟩) n cap, .func (.func 38) #[rv] #[]] w fun e w' => e = .returned (.tuple #[]) ∧ RowE enc w' b (isort lt D) ∧ But b w w' := by
  have call := hid_of (stable_any E O cn hlt hcmp D n cap w hw0 hR hn hnn)
  clear hlt hcmp hw0 hR hn
  go_enter Tryz.func37, Tryz.ntmps37
  go_wp2_with fail
  refine call.out.mono ?_
  rintro e X ⟨rfl, hx, hb⟩
  replace hx := hid_of hx
  replace hb := hid_of hb
  clear call
  go_wp2_with fail
  exact bodyPost_end (results_none rfl _ _ _) rfl ⟨rfl, hx.out, hb.out⟩
end
end Go.Proofs.YthafhemlnninbaaGreat.Sorted
