import Derived.Test.YtgjemghfejaifaaGreatDoorV2
import Derived.Test.YtgjemghfejaifaaGreatDoorV4
import Derived.Test.YtgjemghfejaifaaGreatDoorV5
import Derived.Test.YtgjemghfejaifaaGreatDoorU1
import Derived.Deep.RegionHeld3
import Derived.Deep.DeepCutAuto
/-! What Copy leans on: what is read in certain blocks only; a list of texts appended to an empty one. -/
namespace Go.Proofs.YtgjemghfejaifaaGreatDoor
open Go Go.RowKit

def Agree (S : Nat → Prop) (W W' : World) : Prop := W.heap.size ≤ W'.heap.size ∧ ∀ p u, S p.block → W.cell? p = some u → W'.cell? p = some u
/-- t is read off these cells, whatever the other blocks hold. -/
def Seen (W : World) (S : Nat → Prop) (t : Tr) (cs : List Value) : Prop := ∀ W', Agree S W W' → VRep W' t cs
theorem cell_lt {W : World} {p : Addr} {v : Value} (h : W.cell? p = some v) : p.block < W.heap.size := by
  rcases Nat.lt_or_ge p.block W.heap.size with h' | h'
  · exact h'
  · simp [World.cell?, Array.getElem?_eq_none h'] at h
theorem Reads.mono {W W' : World} {v : Value} {l : List ByteArray} (hk : ∀ p u, W.cell? p = some u → W'.cell? p = some u) (hs : W.heap.size ≤ W'.heap.size) (h : Reads W v l) : Reads W' v l := by
  obtain ⟨a, c, rfl, hc, h | ⟨b, o, rfl, hlt, h⟩⟩ := h
  · exact ⟨a, c, rfl, hc, .inl h⟩
  · exact ⟨_, c, rfl, hc, .inr ⟨b, o, rfl, Nat.lt_of_lt_of_le hlt hs, fun j s hj => hk _ _ (h j s hj)⟩⟩
mutual
theorem VRep.mono {W W' : World} (hk : ∀ p u, W.cell? p = some u → W'.cell? p = some u) (hs : W.heap.size ≤ W'.heap.size) : (t : Tr) → (cs : List Value) → VRep W t cs → VRep W' t cs
  | .node k x s ns its, cs, h => by
    unfold VRep at *
    obtain ⟨nm, a, c, h1, h2, h3, h4⟩ := h
    refine ⟨nm, a, c, h1, h2.mono hk hs, h3, ?_⟩
    rcases h4 with h4 | ⟨b, o, h5, h6, h7⟩
    · exact .inl h4
    · exact .inr ⟨b, o, h5, Nat.lt_of_lt_of_le h6 hs, VRepL.mono hk hs _ its h7⟩
theorem VRepL.mono {W W' : World} (hk : ∀ p u, W.cell? p = some u → W'.cell? p = some u) (hs : W.heap.size ≤ W'.heap.size) {b : Nat} : (o : Nat) → (its : List Tr) → VRepL W b o its → VRepL W' b o its
  | _, [], _ => by unfold VRepL; trivial
  | _, t :: ts, h => by
    unfold VRepL at *
    obtain ⟨cs, h1, h2, h3⟩ := h
    exact ⟨cs, fun j u hj => hk _ _ (h1 j u hj), VRep.mono hk hs t cs h2, VRepL.mono hk hs _ ts h3⟩
end
theorem seen_rep {w : World} {t : Tr} {cs : List Value} (h : VRep w t cs) : Seen w (· < w.heap.size) t cs := fun _ a => VRep.mono (fun p u hp => a.2 p u (cell_lt hp) hp) a.1 t cs h
theorem Seen.rep {W : World} {S : Nat → Prop} {t : Tr} {cs : List Value} (h : Seen W S t cs) : VRep W t cs := h W ⟨Nat.le_refl _, fun _ _ _ h => h⟩
theorem seen_next {w w' W' : World} {S S' : Nat → Prop} {t : Tr} {cs : List Value} (hV : Seen w S t cs) (hB : Below w.heap.size w w') (hS : ∀ k, S k → S' k) (h : Agree S' w' W') : VRep W' t cs :=
  hV W' ⟨Nat.le_trans hB.size h.1, fun p u hp hc => h.2 p u (hS _ hp) ((hB.cell (cell_lt hc)).trans hc)⟩
theorem Seen.keep {w w' : World} {S : Nat → Prop} {t : Tr} {cs : List Value} (hV : Seen w S t cs) (hB : Below w.heap.size w w') : Seen w' S t cs := fun _ h => seen_next hV hB (fun _ h => h) h
/-- An object of one member. -/
theorem run_append_none {P : Program} (w : World) (t ty e : TypeId) (i : TypeInfo) (ht : P.underlying t = some (.slice e)) (hi : P.info? e = some i) (g n cap : Nat) (hn : n ≤ cap) (ax : Option Addr) (c : Nat) :
    (Builtin.append_ #[t, t] ty #[.slice (some ⟨g, 0, none⟩) n cap, .slice ax 0 c]).run P w = .ok (.slice (some ⟨g, 0, none⟩) n cap) w := by
  have hs : Src P i.size t (.slice ax 0 c) 0 [] w := by
    cases ax with
    | none => exact Src.ofNil w ht c
    | some a => exact Src.ofSlice w ht a 0 c [] (by simp) (fun j u h => by simp at h) (fun u h => by cases h)
  have := run_append_room_src (P := P) w t t ty e i ht hi g 0 n cap _ 0 [] hs (by omega) (fun j h => by simp at h) (fun j h => by simp at h)
  rw [this]
  rfl

theorem step_append_texts {ops : Array Oper} {o : Oper} {a : Act} {K : Act → World → Prop} {Q : Exit → Act → World → Prop} {E : Prop} (w : World) (hgd : o.guard = none) (s x : Operand)
    (ho : o.op = .call { callee := .builtin .append, args := #[s, x], argTypes := #[22, 22] }) (base g : Nat) (hrow : w.ownsRow base 9 1 (.slice (some ⟨g, 0, none⟩) 0 0) 0 [])
    (hs : a.eval s = .slice (some ⟨g, 0, none⟩) 0 0) (vx : Value) (l : List ByteArray) (hx : a.eval x = vx) (hR : Reads w vx l) (hl : l.length * 16 ≤ 140737488355328) (hbase : base ≤ w.heap.size)
    (h : ∀ g' cap w', w'.ownsRow base 9 1 (.slice (some ⟨g', 0, none⟩) l.length cap) l.length (strs l) → w.grownBy w' (some g) → (g' = g ∨ g' = w.heap.size) → K (a.put o.dst (.slice (some ⟨g', 0, none⟩) l.length cap)) w') :
    if Region.wanted o (yielded ops a.tmps) = true then Oper.wp Tryz.prog o a w K Q else E := by
  obtain ⟨i9, hi9, hz0, hz1, hz2⟩ := info_parts A9
  obtain ⟨ax, c, rfl, hc, hA⟩ := hR
  by_cases h0 : l = []
  · subst h0
    have hw : Region.wanted o (yielded ops a.tmps) = true := by simp [Region.wanted, hgd]
    rw [if_pos hw]
    have hr := run_append_none (P := Tryz.prog) w 22 o.type 9 i9 Tryz.underlying22 hi9 g 0 0 (Nat.le_refl _) ax c
    unfold Oper.wp execOp
    have hx' : a.eval x = .slice ax 0 c := hx
    simp only [ho, resolve, invoke, builtin, Sem.run_bind, Sem.run_pure, Result.andThen_ok, List.map_toArray, List.map_cons, List.map_nil, hs, hx', hr]
    exact h g 0 w hrow (World.grownBy.refl w _) (.inl rfl)
  · obtain ⟨b, oo, rfl, hb, hA⟩ := hA.resolve_left h0
    refine step_append_lies w hgd s x 22 ho base 9 i9 _ 1 16 Tryz.underlying22 hi9 hz0 hz1 hz2 rfl (by decide) _ 0 [] hs hrow _ l.length c (strs l) hx (by rw [strs_length]; omega) (fun j u hu => ?_) (strs1 l) (List.length_pos_iff.2 h0) (by unfold maxLen; omega) (by omega) hbase _ rfl ?_
    · unfold strs at hu
      rw [List.getElem?_map] at hu
      cases hy : l[j]? with
      | none => rw [hy] at hu; cases hu
      | some y =>
        rw [hy] at hu
        cases hu
        rw [add_off]
        exact hA j y hy
    · intro g' cap w' h1 h2 h3 _
      simp only [Nat.zero_add, List.nil_append] at h1 ⊢
      exact h g' cap w' h1 h2 (h3.elim (fun e => .inl (by simpa [Value.ownBlock] using e.symm)) .inr)
theorem owns_empty (w : World) : (w.alloc (.cells #[] 9)).ownsRow w.heap.size 9 1 (.slice (some ⟨w.heap.size, 0, none⟩) 0 0) 0 [] :=
  ⟨rfl, .inr ⟨w.heap.size, 0, #[], rfl, Nat.le_refl _, heap_alloc_new w _, Nat.le_refl _, Nat.zero_le _, rfl, rfl⟩⟩
/-- Texts that lie in certain blocks. -/
def SeenR (W : World) (S : Nat → Prop) (v : Value) (l : List ByteArray) : Prop := ∀ W', Agree S W W' → Reads W' v l
theorem own_reads {W W' : World} {lo : Nat} {S : Nat → Prop} {g cap : Nat} {l : List ByteArray} (h : W.ownsRow lo 9 1 (.slice (some ⟨g, 0, none⟩) l.length cap) l.length (strs l)) (hS : S g) (ha : Agree S W W') : Reads W' (.slice (some ⟨g, 0, none⟩) l.length cap) l := by
  obtain ⟨h1, h2⟩ := h
  rcases h2 with ⟨hv, _⟩ | ⟨g', cap', cur, hv, hg, hh, hc, hm, hs, hr⟩
  · cases hv
  · cases hv
    refine ⟨_, cap, rfl, ⟨hc, by unfold maxLen at hm; omega⟩, .inr ⟨g, 0, rfl, Nat.lt_of_lt_of_le (Array.getElem?_eq_some_iff.1 hh).1 ha.1, fun j s hj => ha.2 _ _ hS ?_⟩⟩
    have hlt : j < l.length := (List.getElem?_eq_some_iff.1 hj).1
    have : (strs l)[j]? = some (.string s) := by unfold strs; rw [List.getElem?_map, hj]; rfl
    rw [← hr, List.getElem?_take_of_lt (by omega), Array.getElem?_toList] at this
    simp [World.cell?, hh, this]
end Go.Proofs.YtgjemghfejaifaaGreatDoor
