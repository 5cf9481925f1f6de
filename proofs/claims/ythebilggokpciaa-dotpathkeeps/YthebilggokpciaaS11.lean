import Derived.Test.YthebilggokpciaaS10
import Derived.Deep.RegionWith
import Derived.Deep.DeepFit
/-! Set, of every value and path. -/
namespace Go.Proofs.Ythebilggokpciaa
open Go Go.RowKit

def upS (l : List (Tr × ByteArray × Nat)) (X : Tr) : Tr := l.foldr (fun st X => withT st.1.kind st.1.names st.1.items st.2.1 st.2.2 X) X
def nestS (l : List ByteArray) (X : Tr) : Tr := l.foldr (fun s X => .node 6 0 ⟨#[]⟩ [s] [X]) X
/-- What Set answers. -/
def setT (t : Tr) (l : List ByteArray) (X : Tr) : Tr := upS (downT t l).2 (nestS (l.drop (downT t l).2.length) X)
theorem backs_rev (n : Nat) : backs n n = (List.range n).reverse := by
  unfold backs
  apply List.ext_getElem
  · simp
  · intro i h1 h2
    simp
theorem range_get {α : Type} (l : List α) (d : α) : (List.range l.length).map (fun i => l.getD i d) = l := by
  apply List.ext_getElem
  · simp
  · intro i h1 h2
    simp [List.getD_eq_getElem?_getD, h2]
theorem ups_list (ts : List Trn) (d : Trn) (X : Tr) : ups (fun i => ts.getD i d) (backs ts.length ts.length) X = upS (ts.map Trn.st) X := by
  unfold ups upS
  rw [backs_rev, List.foldl_reverse, List.foldr_map]
  conv => rhs; rw [← range_get ts d]
  rw [List.foldr_map]
  rfl
theorem nests_list (l : List ByteArray) (d : ByteArray) (X : Tr) : nests (fun i => l.getD i d) (backs l.length l.length) X = nestS l X := by
  unfold nests nestS
  rw [backs_rev, List.foldl_reverse]
  conv => rhs; rw [← range_get l d]
  rw [List.foldr_map]
/-- The way down is no longer than the path. -/
theorem downT_len : (l : List ByteArray) → (t : Tr) → (downT t l).2.length ≤ l.length
  | [], t => by cases t; simp [downT]
  | s :: r, t => by
    rw [downT]
    split
    · split
      · simp
      · rename_i u _
        have := downT_len r u
        split
        · simp only [List.length_cons]; omega
        · simp only [List.length_cons]; omega
    · split
      · simp
      · split <;> simp
theorem turn_cells {ts : List Trn} {i : Nat} {t : Trn} (h : ts[i]? = some t) : ∀ j u, t.cells[j]? = some u → (turnCells ts)[i * 7 + j]? = some u := by
  induction ts generalizing i with
  | nil => simp at h
  | cons a ts ih =>
    intro j u hj
    have ha : a.cells.length = 7 := rfl
    have hj7 : j < 7 := (List.getElem?_eq_some_iff.1 hj).1
    cases i with
    | zero =>
      have : a = t := by simpa using h
      subst this
      simp only [turnCells, List.flatMap_cons, Nat.zero_mul, Nat.zero_add]
      rw [List.getElem?_append_left (by omega)]
      exact hj
    | succ i =>
      have := ih (i := i) (by simpa using h) j u hj
      simp only [turnCells, List.flatMap_cons] at *
      rw [List.getElem?_append_right (by omega), ha, show (i + 1) * 7 + j - 7 = i * 7 + j by omega]
      exact this
/-- up, of the turns that down answers. -/
theorem up_turns (w0 w : World) (h0 : Below w0.heap.size w0 w) (ts : List Trn) (tv : Value) (lo : Nat) (hrow : w.ownsRow lo 63 7 tv ts.length (turnCells ts)) (hok : ∀ tn ∈ ts, tn.Ok w0 ∧ (tn.its.length + 1) * 80 ≤ 140737488355328) (k1 x1 : Int) (s1 : ByteArray) (an1 : Option Addr) (ln1 cn1 : Nat) (ai1 : Option Addr) (li1 ci1 : Nat) (X : Tr) (S : Nat → Prop) (hS : ∀ k, S k → k < w.heap.size) (hS0 : ∀ k, k < w0.heap.size → S k) (hX : Seen w S X (five k1 x1 s1 (.slice an1 ln1 cn1) (.slice ai1 li1 ci1))) :
    Calls Try.prog 29 #[tv, .agg #[.int .i64 k1, .int .i64 x1, .string s1, .slice an1 ln1 cn1, .slice ai1 li1 ci1]] w fun e w' => Below w.heap.size w w' ∧ ∃ cs, e = .returned (.agg cs.toArray) ∧ Seen w' (fun k => S k ∨ w.heap.size + 1 < k) (upS (ts.map Trn.st) X) cs := by
  obtain ⟨a, c, rfl⟩ := ownsRow_slice hrow
  have hmax : ts.length ≤ 9223372036854775807 := by
    rcases hrow.2 with ⟨_, h⟩ | ⟨g, cap, cur, hv, _, _, h1, h2, _⟩
    · omega
    · unfold maxLen at h2; omega
  cases ts with
  | nil =>
    have := up_any w0 w h0 0 c (by omega) a (fun _ => ⟨0, 0, ⟨#[]⟩, [], [], none, 0, none, 0, ⟨#[]⟩, 0⟩) (fun h => absurd h (by omega)) (fun i h => absurd h (by omega)) k1 x1 s1 an1 ln1 cn1 ai1 li1 ci1 X S hS hS0 hX
    exact this
  | cons t0 ts =>
    have hd : ∀ i, ∃ tn ∈ t0 :: ts, (t0 :: ts).getD i t0 = tn := fun i => by
      rcases Nat.lt_or_ge i (t0 :: ts).length with h | h
      · exact ⟨_, List.getElem_mem h, by rw [List.getD_eq_getElem?_getD, List.getElem?_eq_getElem h]; rfl⟩
      · exact ⟨t0, List.mem_cons_self, by rw [List.getD_eq_getElem?_getD, List.getElem?_eq_none h]; rfl⟩
    have := up_any w0 w h0 (t0 :: ts).length c hmax a (fun i => (t0 :: ts).getD i t0) (fun _ i => by
      obtain ⟨tn, hm, e⟩ := hd i
      show Trn.Good w0 ((t0 :: ts).getD i t0)
      rw [e]
      obtain ⟨⟨h1, h2, h3⟩, h4⟩ := hok tn hm
      exact ⟨h1, h2, h4, h3⟩) (fun i hi => by
      rcases hrow.2 with ⟨_, h⟩ | ⟨g, cap, cur, hv, _⟩
      · simp at h
      · injection hv with e1 e2 e3
        subst e1; subst e3
        refine ⟨g, 0, rfl, fun j u hj => ?_⟩
        rw [Nat.zero_add]
        exact row_cell hrow _ u (turn_cells (t := (t0 :: ts).getD i t0) (by rw [List.getD_eq_getElem?_getD, List.getElem?_eq_getElem hi]; rfl) j u hj)) k1 x1 s1 an1 ln1 cn1 ai1 li1 ci1 X S hS hS0 hX
    rw [ups_list] at this
    exact this
end Go.Proofs.Ythebilggokpciaa
