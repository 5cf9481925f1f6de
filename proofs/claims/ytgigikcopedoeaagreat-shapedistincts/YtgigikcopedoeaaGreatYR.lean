import Derived.Test.YtgigikcopedoeaaGreatXA
import Derived.Test.YtgigikcopedoeaaGreatRows
import Derived.SliceStrings
import Derived.SizedLaws
import Derived.Carry
import Derived.ChangeMaps5
import Derived.ProofKit
import Derived.OpenShut
/-! Arguments that are Values, documents. -/
namespace Go.Proofs.YtgigikcopedoeaaGreat.Tree
open Go Go.ChangeShapes Go.WideShapes Go.ChangeAt Go.RowKit

theorem own : ownKnob Tryz.prog.godebug = none := by kernel_rfl
theorem laid_out : laidOutB Tryz.prog = true := by kernel_rfl
theorem e_cellsD : Tryz.prog.cellsOf 50 = 7 := by kernel_rfl
theorem e_bytesD : Tryz.prog.bytesOf 50 = 104 := by kernel_rfl
theorem seven_of {α : Type} {l : List α} (h : l.length = 7) : ∃ a b c d e f g, l = [a, b, c, d, e, f, g] := by
  match l, h with
  | [a, b, c, d, e, f, g], _ => exact ⟨a, b, c, d, e, f, g, rfl⟩
theorem three_of {α : Type} {l : List α} (h : l.length = 3) : ∃ a b c, l = [a, b, c] := by
  match l, h with
  | [a, b, c], _ => exact ⟨a, b, c, rfl⟩
theorem spot_of7 {W : World} {base n : Nat} {a : Addr} {cs : List Value} (h : W.cells? base (a.add (0 * 7)) (n + 1) = some cs) : a.spot = none := spot_of (by rw [Nat.zero_mul] at *; exact h)
/-- A document handed in. -/
theorem open_doc {H : Type} {enc : TypeId × Value → H} {W : World} {base : Nat} {spare : Nat → Bool} {held : Bool} (n : Nat) (cs : List Value) (x : DataW H × List MemPlace) (h : DataW.trod enc Tryz.prog W base spare held n 50 cs = some x) (hw : ∀ k ∈ x.1.weights Tryz.prog 50, k ≤ reachBytes) :
    ∃ d : Dc, cs = d.cells ∧ VRep W d.t d.v5 := by
  obtain ⟨xs, m, rfl, hx, hlen, hxl, hf⟩ := DataW.trod_struct Tryz.underlying50 h
  subst hx
  rw [e_cellsD] at hlen
  obtain ⟨c0, c1, c2, c3, c4, c5, c6, rfl⟩ := seven_of hlen
  obtain ⟨x0, x1, x2, rfl⟩ := three_of hxl
  have f0 : DataW.trod enc Tryz.prog W base spare held m 9 (([c0, c1, c2, c3, c4, c5, c6].drop 0).take (Tryz.prog.cellsOf 9)) = some x0 := hf 0 _ rfl
  have f1 : DataW.trod enc Tryz.prog W base spare held m 2 (([c0, c1, c2, c3, c4, c5, c6].drop 1).take (Tryz.prog.cellsOf 2)) = some x1 := hf 1 _ rfl
  have f2 : DataW.trod enc Tryz.prog W base spare held m 25 (([c0, c1, c2, c3, c4, c5, c6].drop 2).take (Tryz.prog.cellsOf 25)) = some x2 := hf 2 _ rfl
  rw [e_cells9] at f0
  rw [e_cells2] at f1
  rw [e_cells25] at f2
  have w2 : ∀ k ∈ x2.1.weights Tryz.prog 25, k ≤ reachBytes := fun k hk => hw k (by simp [DataW.weights, Tryz.underlying50, DataW.weightsEach, hk])
  obtain ⟨s, hs, -, -⟩ := DataW.trod_string Tryz.underlying9 f0
  obtain ⟨v, hv, -, -⟩ := DataW.trod_int Tryz.underlying2 f1
  cases hs
  cases hv
  obtain ⟨t, hV, -⟩ := open_small m _ _ f2 w2
  obtain ⟨k, x, s2, an, ln, cn, ai, li, ci, e⟩ := vrep_five hV
  have e' : [c2, c3, c4, c5, c6] = five k x s2 (.slice an ln cn) (.slice ai li ci) := e
  unfold five at e'
  injection e' with e0 e'
  injection e' with e1 e'
  injection e' with e2 e'
  injection e' with e3 e'
  injection e' with e4 e'
  subst e0 e1 e2 e3 e4
  exact ⟨⟨s, v, k, x, s2, an, ln, cn, ai, li, ci, t⟩, rfl, hV⟩
set_option maxRecDepth 100000 in
/-- A list of documents among the arguments. -/
theorem arg_docs {H : Type} {enc : TypeId × Value → H} {W : World} {base : Nat} {v : Value} {d : DataW H} {p : List MemPlace} {ts : List TypeId} {ds : List (DataW H)} {j : Nat} (hok : Value.okWide Tryz.prog W .any base 26 v)
    (h : DataW.Trod enc Tryz.prog W 0 (fun _ => true) true 26 v d p) (hsz : (DataW.weightsEach Tryz.prog ts ds).all (· ≤ reachBytes) = true) (ht : ts[j]? = some 26) (hd : ds[j]? = some d) :
    ∃ a c, ∃ l : List Dc, v = .slice a l.length c ∧ DocsAt W a l ∧ Reads' W l ∧ l.length * 104 ≤ 140737488351232 := by
  obtain ⟨a0, len0, cap0, rfl⟩ := okWide_slice Tryz.underlying26 hok
  obtain ⟨fuel, hf⟩ := h
  have hw : ∀ k ∈ d.weights Tryz.prog 26, k ≤ reachBytes := fun k hk => of_decide_eq_true (List.all_eq_true.1 hsz _ (DataW.weights_mem_each ht hd k hk))
  rcases DataW.trod_slice Tryz.underlying26 hf with ⟨hcs, _⟩ | ⟨a, len, cap, elems, rest, m', rfl, hcs, hx4, hb, hl, hm, hel, he, _, _⟩
  · cases hcs
    exact ⟨none, 0, [], rfl, (fun i d h => by simp at h), (fun d h => by cases h), by simp⟩
  · cases hcs
    have hx5 := congrArg (fun q : DataW H × List MemPlace => q.1) hx4
    simp only at hx5
    subst hx5
    have hr := hw ((elems.map (·.1)).length + (rest.map (·.1)).length |> (· * Tryz.prog.bytesOf 50)) (by simp [DataW.weights, Tryz.underlying26])
    simp only [List.length_map, hel, e_bytesD, reachBytes] at hr
    have each : ∀ j, j < len0 → ∃ d : Dc, W.cells? 0 (a.add (j * 7)) 7 = some d.cells ∧ VRep W d.t d.v5 := fun j hj => by
      have h1 := he j hj
      rw [e_cellsD, List.getElem?_eq_getElem (by omega)] at h1
      obtain ⟨cs', h2, h3⟩ := Option.bind_eq_some_iff.1 h1
      obtain ⟨d, hd1, hd2⟩ := open_doc m' cs' _ h3 (fun k hk => hw k (by
        simp only [DataW.weights, Tryz.underlying26, List.mem_cons, List.mem_append]
        exact .inr (.inl (weights_all _ _ _ _ (List.mem_map_of_mem (List.getElem_mem (by omega))) k hk))))
      exact ⟨d, by rw [h2, hd1], hd2⟩
    have key : ∀ q, q ≤ len0 → ∃ l : List Dc, l.length = q ∧ (∀ i d, l[i]? = some d → W.cells? 0 (a.add (i * 7)) 7 = some d.cells) ∧ Reads' W l := by
      intro q
      induction q with
      | zero => exact fun _ => ⟨[], rfl, (fun i d h => by simp at h), (fun d h => by cases h)⟩
      | succ q ih =>
        intro hq
        obtain ⟨l, h1, h2, h3⟩ := ih (by omega)
        obtain ⟨d, h4, h5⟩ := each q (by omega)
        refine ⟨l ++ [d], by simp [h1], fun i d' hi => ?_, fun d' hd' => ?_⟩
        · rcases Nat.lt_or_ge i l.length with hil | hil
          · rw [List.getElem?_append_left hil] at hi; exact h2 i d' hi
          · have hil2 := (List.getElem?_eq_some_iff.1 hi).1
            obtain rfl : i = q := by simp at hil2; omega
            rw [List.getElem?_append_right hil, h1, Nat.sub_self] at hi
            have e : d = d' := by simpa using hi
            rw [← e]; exact h4
        · rcases List.mem_append.1 hd' with h | h
          · exact h3 d' h
          · rw [List.mem_singleton.1 h]; exact h5
    obtain ⟨l, h1, h2, h3⟩ := key len0 (Nat.le_refl _)
    subst h1
    refine ⟨some a, cap0, l, rfl, fun i d hi => ?_, h3, by omega⟩
    have h4 := h2 i d hi
    obtain ⟨b, o, spot⟩ := a
    have hspot : spot = none := by
      have h5 := h2 0 (l[0]'(by have := (List.getElem?_eq_some_iff.1 hi).1; omega)) (List.getElem?_eq_getElem _)
      exact spot_of7 h5
    subst hspot
    refine ⟨b, o, rfl, ?_⟩
    rw [add_off] at h4
    exact (cellsAt_of h4).1
set_option maxRecDepth 100000 in
theorem arg_val {H : Type} {enc : TypeId × Value → H} {W : World} {base : Nat} {v : Value} {d : DataW H} {p : List MemPlace} {ts : List TypeId} {ds : List (DataW H)} {j : Nat} (hok : Value.okWide Tryz.prog W .any base 25 v)
    (h : DataW.Trod enc Tryz.prog W 0 (fun _ => true) true 25 v d p) (hsz : (DataW.weightsEach Tryz.prog ts ds).all (· ≤ reachBytes) = true) (ht : ts[j]? = some 25) (hd : ds[j]? = some d) :
    ∃ k x s an ln cn ai li ci t, v = .agg #[.int .i64 k, .int .i64 x, .string s, .slice an ln cn, .slice ai li ci] ∧ VRep W t (five k x s (.slice an ln cn) (.slice ai li ci)) ∧ SmallT t := by
  obtain ⟨cs, rfl, _⟩ := okWide_struct Tryz.underlying25 hok
  obtain ⟨fuel, hf⟩ := h
  obtain ⟨t, hV, hS⟩ := open_small fuel _ _ hf (fun k hk => of_decide_eq_true (List.all_eq_true.1 hsz _ (DataW.weights_mem_each ht hd k hk)))
  obtain ⟨k, x, s, an, ln, cn, ai, li, ci, e⟩ := vrep_five hV
  refine ⟨k, x, s, an, ln, cn, ai, li, ci, t, ?_, by rw [← e]; exact hV, hS⟩
  have : cs.toList = five k x s (.slice an ln cn) (.slice ai li ci) := e
  rw [show cs = cs.toList.toArray by simp, this]
  rfl
def nilV : Value := .agg #[.int .i64 0, .int .i64 0, .string ⟨#[]⟩, .slice none 0 0, .slice none 0 0]
end Go.Proofs.YtgigikcopedoeaaGreat.Tree
