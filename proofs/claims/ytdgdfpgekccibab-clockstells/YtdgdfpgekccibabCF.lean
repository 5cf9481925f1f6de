import Derived.Test.YtdgdfpgekccibabCE
import Derived.Maps.OwnSet
import Derived.DeepKeys4
/-! clocks: what is kept of things: a map with struct keys, of pointers. -/
namespace Go.Proofs.Ytdgdfpgekccibab
open Go Go.RowKit
theorem tree_laid : laidOutB Try.prog = true := by kernel_rfl
theorem th_row : (90 : TypeId) < Try.prog.types.size := of_decide_eq_true (by kernel_rfl)
theorem th_wide : (match Try.prog.underlying 90 with | some (.array _ _) | some (.struct _) => true | _ => false) = true := by rw [Try.underlying90]
set_option maxRecDepth 100000 in
theorem th_law : Go.Maps.Keyed Try.prog 90 := Go.Maps.Keyed.of_law (deep_law_laid tree_laid (m := 2) (by omega) th_row (by kernel_rfl) th_wide)
def I64 (x : Int) : Prop := -9223372036854775808 ≤ x ∧ x ≤ 9223372036854775807
theorem I64.wf {x : Int} (h : I64 x) : (Lit.int .i64 x).wf = true := by
  have h1 : IntKind.i64.min = -9223372036854775808 := by decide
  have h2 : IntKind.i64.max = 9223372036854775807 := by decide
  unfold I64 at h
  simp [Lit.wf, h1, h2]; omega
theorem I64.of_wf {x : Int} (h : (Lit.int .i64 x).wf = true) : I64 x := by
  have h1 : IntKind.i64.min = -9223372036854775808 := by decide
  have h2 : IntKind.i64.max = 9223372036854775807 := by decide
  simp [Lit.wf, h1, h2] at h
  exact h
def keyV (o n : Int) : Value := .agg #[.int .i64 o, .int .i64 n]
def kl (o n : Int) : Lit := .string (keyBytes [.int .i64 o, .int .i64 n])
theorem th_cells : Try.prog.cellsOf 90 = 2 := by kernel_rfl
theorem int_cells : Try.prog.cellsOf 3 = 1 := by kernel_rfl
theorem types_two : ∃ d, Try.prog.types.size + 1 = d + 2 := ⟨Try.prog.types.size - 1, by have h : (90 : Nat) < Try.prog.types.size := th_row; omega⟩
theorem th_kt : Try.prog.keyType 90 = true := by kernel_rfl
theorem key_lits (d : Nat) {o n : Int} (ho : I64 o) (hn : I64 n) : Try.prog.keyLits (d + 2) 90 [.int .i64 o, .int .i64 n] = some [.int .i64 o, .int .i64 n] := by
  have h1 := ho.wf
  have h2 := hn.wf
  unfold Program.keyLits
  rw [Try.underlying90]
  simp [th_cells, int_cells, Program.keyLits, Try.underlying3, h1, h2]
theorem key_of {o n : Int} (ho : I64 o) (hn : I64 n) : keyOf Try.prog 90 (keyV o n) = some (kl o n) := by
  obtain ⟨d, hd⟩ := types_two
  unfold keyOf
  rw [Try.underlying90]
  have hf : (keyV o n).formed Try.prog 90 = true := by
    unfold keyV Value.formed
    simp [Try.underlying90, th_cells]
  simp only [th_kt, hf, Bool.and_self, if_true, hd]
  have hc : (keyV o n).cells.toList = [.int .i64 o, .int .i64 n] := by simp [keyV, Value.cells]
  rw [hc, key_lits d ho hn]
  rfl
theorem kl_inj {o n o' n' : Int} (h1 : I64 o) (h2 : I64 n) (h3 : I64 o') (h4 : I64 n') (h : kl o n = kl o' n') : o = o' ∧ n = n' := by
  have e1 := key_of h1 h2
  have e2 := key_of h3 h4
  rw [← h] at e2
  have := th_law.inj e1 e2
  simp [keyV] at this
  exact this
theorem kl_key (o n : Int) : WideAt.IsKeyLit (kl o n) := trivial
/-- How a pointer is read. -/
def ptrE : Value → Option (DataW Unit × List MemPlace)
  | .pointer none => some (.nil, [])
  | .pointer (some a) => if a.off = 0 ∧ a.spot = none then some (.lit (.int .i64 a.block), []) else none
  | _ => none
theorem ptrE_nil {v : Value} {ps : List MemPlace} (h : ptrE v = some (.nil, ps)) : v = .pointer none := by
  unfold ptrE at h
  split at h
  · rfl
  · split at h
    · simp at h
    · cases h
  · cases h
theorem ptrE_some {v : Value} {ps : List MemPlace} {b : Nat} (h : ptrE v = some (.lit (.int .i64 b), ps)) : v = .pointer (some ⟨b, 0, none⟩) := by
  unfold ptrE at h
  split at h
  · simp at h
  · rename_i a
    split at h
    · rename_i hc
      obtain ⟨x, y, z⟩ := a
      simp at hc h
      obtain ⟨rfl, rfl⟩ := hc
      have : x = b := by omega
      subst this
      rfl
    · cases h
  · cases h
/-- Where what is kept of a thing lies. -/
abbrev Where := Int → Int → Option Nat
def datOf : Option Nat → DataW Unit
  | none => .nil
  | some b => .lit (.int .i64 b)
def updW (f : Where) (o n : Int) (b : Nat) : Where := fun o' n' => if o' = o ∧ n' = n then some b else f o' n'
theorem updW_same (f : Where) (o n : Int) (b : Nat) : updW f o n b o n = some b := by simp [updW]
theorem updW_other (f : Where) {o n o' n' : Int} (b : Nat) (h : ¬ (o' = o ∧ n' = n)) : updW f o n b o' n' = f o' n' := by simp [updW, h]
/-- The map tells where. -/
def ThAt (w : World) (mb n : Nat) (f : Where) : Prop := ∃ D, w.ownsMap Try.prog 90 ptrE mb n D ∧ ∀ o k, I64 o → I64 k → D.atKey (kl o k) .nil = datOf (f o k)
theorem ThAt.lt {w : World} {mb n : Nat} {f : Where} (h : ThAt w mb n f) : mb < w.heap.size := by
  obtain ⟨D, h1, _⟩ := h
  exact h1.lt
theorem ThAt.keep {w w' : World} {mb n : Nat} {f : Where} (h : ThAt w mb n f) (hk : w'.heap[mb]? = w.heap[mb]?) : ThAt w' mb n f := by
  obtain ⟨D, ⟨es, cl, hm, r⟩, h2⟩ := h
  exact ⟨D, ⟨es, cl, hk.trans hm, r⟩, h2⟩
theorem ThAt.fr {S : Nat → Prop} {w w' : World} {mb n : Nat} {f : Where} (h : ThAt w mb n f) (hf : Fr S w w') (hS : ¬ S mb) : ThAt w' mb n f := h.keep (hf.block mb h.lt hS)
theorem thAt_made (w : World) : ThAt (w.alloc (.map #[] 0)) w.heap.size 0 (fun _ _ => none) := ⟨.map [], World.ownsMap_made w _ _ _, fun _ _ _ _ => rfl⟩
/-- A look-up. -/
theorem ThAt.look {w : World} {mb n : Nat} {f : Where} (h : ThAt w mb n f) {mt pt : TypeId} (hu : Try.prog.underlying mt = some (.map 90 pt)) (hz : ∀ w, (zeroValue pt).run Try.prog w = .ok (.pointer none) w) {o k : Int} (ho : I64 o) (hk : I64 k) :
    (Instr.lookup mt (.map (some mb)) (keyV o k) false).run Try.prog w = .ok (.pointer ((f o k).map fun b => ⟨b, 0, none⟩)) w := by
  obtain ⟨D, h1, h2⟩ := h
  obtain ⟨v, ps, hrun, hv⟩ := h1.lookup th_law hu (hz w) (zd := .nil) (zp := []) rfl (key_of ho hk)
  rw [h2 o k ho hk] at hv
  rw [hrun]
  cases e : f o k with
  | none =>
    rw [e] at hv
    rw [ptrE_nil hv]
    rfl
  | some b =>
    rw [e] at hv
    rw [ptrE_some hv]
    rfl
/-- A store. -/
theorem ThAt.put {w : World} {mb n : Nat} {f : Where} (h : ThAt w mb n f) {mt pt : TypeId} (hu : Try.prog.underlying mt = some (.map 90 pt)) (hn : n ≤ 1048576) {o k : Int} (ho : I64 o) (hk : I64 k) (b : Nat) :
    ∃ w', (Instr.mapUpdate mt (.map (some mb)) (keyV o k) (.pointer (some ⟨b, 0, none⟩))).run Try.prog w = .ok () w' ∧ ThAt w' mb (n + 1) (updW f o k b) ∧ w.grownBy w' (some mb) := by
  obtain ⟨D, h1, h2⟩ := h
  obtain ⟨w', hrun, hown, hg⟩ := h1.update th_law hu (by unfold maxLen; omega) (key_of ho hk) (d := .lit (.int .i64 b)) (ps := []) (val := .pointer (some ⟨b, 0, none⟩)) rfl
  refine ⟨w', hrun, ⟨_, hown, fun o' k' ho' hk' => ?_⟩, hg⟩
  by_cases e : o' = o ∧ k' = k
  · obtain ⟨rfl, rfl⟩ := e
    rw [updW_same, Maps.atKey_put_same h1.isMap (kl_key _ _) _ _]
    rfl
  · rw [updW_other _ _ e, Maps.atKey_put_other (fun e2 => e (kl_inj ho' hk' ho hk e2)), h2 o' k' ho' hk']
end Go.Proofs.Ytdgdfpgekccibab
