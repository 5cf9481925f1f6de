import Derived.Test.YthgnkhpomhcdkaaGreatDoorV2
import Derived.Test.YthgnkhpomhcdkaaGreatDoorV4
import Derived.Test.YthgnkhpomhcdkaaGreatDoorV5
import Derived.Test.YthgnkhpomhcdkaaGreatDoorU1
import Derived.Deep.RegionHeld3
import Derived.Deep.DeepCutAuto
/-! What Copy leans on: what is read in certain blocks only; a list of texts appended to an empty one. -/
namespace Go.Proofs.YthgnkhpomhcdkaaGreatDoor
open Go Go.RowKit

def Agree (S : Nat → Prop) (W W' : World) : Prop := W.heap.size ≤ W'.heap.size ∧ ∀ p u, S p.block → W.cell? p = some u → W'.cell? p = some u
/-- t is read off these cells, whatever the other blocks hold. -/
def Seen (W : World) (S : Nat → Prop) (t : Tr) (cs : List Value) : Prop := ∀ W', Agree S W W' → VRep W' t cs
theorem cell_lt {W : World} {p : Addr} {v : Value} (h : W.cell? p = some v) : p.block < W.heap.size := by
  rcases Nat.lt_or_ge p.block W.heap.size with h' | h'
  · exact h'
  · simp [World.cell?, Array.getElem?_eq_none h'] at h
theorem Reads.mono {W W' : World} {v : Value} {l : List ByteArray} (hk : ∀ p u, W.cell? p = some u → W'.cell? p = some u) (hs : W.heap.size ≤ W'.heap.size) (h : Reads W v l) : Reads W' v l := by
  obtain ⟨a, c, rfl, hc, h | ⟨b, o, rfl, hlt, h⟩⟩ := h
  · exact ⟨a, c, rfl, hc, .inl h⟩
  · exact ⟨_, c, rfl, hc, .inr ⟨b, o, rfl, Nat.lt_of_lt_of_le hlt hs, fun j s hj => hk _ _ (h j s hj)⟩⟩
mutual
theorem VRep.mono {W W' : World} (hk : ∀ p u, W.cell? p = some u → W'.cell? p = some u) (hs : W.heap.size ≤ W'.heap.size) : (t : Tr) → (cs : List Value) → VRep W t cs → VRep W' t cs
  | .node k x s ns its, cs, h => by
    unfold VRep at *
    obtain ⟨nm, a, c, h1, h2, h3, h4⟩ := h
    refine ⟨nm, a, c, h1, h2.mono hk hs, h3, ?_⟩
    rcases h4 with h4 | ⟨b, o, h5, h6, h7⟩
    · exact .inl h4
    · exact .inr ⟨b, o, h5, Nat.lt_of_lt_of_le h6 hs, VRepL.mono hk hs _ its h7⟩
theorem VRepL.mono {W W' : World} (hk : ∀ p u, W.cell? p = some u → W'.cell? p = some u) (hs : W.heap.size ≤ W'.heap.size) {b : Nat} : (o : Nat) → (its : List Tr) → VRepL W b o its → VRepL W' b o its
  | _, [], _ => by unfold VRepL; trivial
  | _, t :: ts, h => by
    unfold VRepL at *
    obtain ⟨cs, h1, h2, h3⟩ := h
    exact ⟨cs, fun j u hj => hk _ _ (h1 j u hj), VRep.mono hk hs t cs h2, VRepL.mono hk hs _ ts h3⟩
end
theorem seen_rep {w : World} {t : Tr} {cs : List Value} (h : VRep w t cs) : Seen w (· < w.heap.size) t cs := fun _ a => VRep.mono (fun p u hp => a.2 p u (cell_lt hp) hp) a.1 t cs h
theorem Seen.rep {W : World} {S : Nat → Prop} {t : Tr} {cs : List Value} (h : Seen W S t cs) : VRep W t cs := h W ⟨Nat.le_refl _, fun _ _ _ h => h⟩
theorem seen_next {w w' W' : World} {S S' : Nat → Prop} {t : Tr} {cs : List Value} (hV : Seen w S t cs) (hB : Below w.heap.size w w') (hS : ∀ k, S k → S' k) (h : Agree S' w' W') : VRep W' t cs :=
  hV W' ⟨Nat.le_trans hB.size h.1, fun p u hp hc => h.2 p u (hS _ hp) ((hB.cell (cell_lt hc)).trans hc)⟩
theorem Seen.keep {w w' : World} {S : Nat → Prop} {t : Tr} {cs : List Value} (hV : Seen w S t cs) (hB : Below w.heap.size w w') : Seen w' S t cs := fun _ h => seen_next hV hB (fun _ h => h) h
/-- An object of one member. -/
theorem run_append_none {P : Program} (w : World) (t ty e : TypeId) (i : TypeInfo) (ht : P.underlying t = some (.slice e)) (hi : P.info? e = some i) (g n cap : Nat) (hn : n ≤ cap) (ax : Option Addr) (c : Nat) :
    (Builtin.append_ #[t, t] ty #[.slice (some ⟨g, 0, none⟩) n cap, .slice ax 0 c]).run P w = .ok (.slice (some ⟨g, 0, none⟩) n cap) w := by
  have hs : Src P i.size t (.slice ax 0 c) 0 [] w := by
    cases ax with
    | none => exact Src.ofNil w ht c
    | some a => exact Src.ofSlice w ht a 0 c [] (by simp) (fun j u h => by simp at h) (fun u h => by cases h)
  have := run_append_room_src (P := P) w t t ty e i ht hi g 0 n cap _ 0 [] hs (by omega) (fun j h => by simp at h) (fun j h => by simp at h)
  rw [this]
  rfl

theorem step_append_texts {ops : Array Oper} {o : Oper} {a : Act} {K : Act → World → Prop} {Q : Exit → Act → World → Prop} {E : Prop} (w : World) (hgd : o.guard = none) (s x : Operand)
    (ho : o.op = .call { callee := .builtin .append, args := #[s, x], argTypes := #[25, 25] }) (base g : Nat) (hrow : w.ownsRow base 9 1 (.slice (some ⟨g, 0, none⟩) 0 0) 0 [])
    (hs : a.eval s = .slice (some ⟨g, 0, none⟩) 0 0) (vx : Value) (l : List ByteArray) (hx : a.eval x = vx) (hR : Reads w vx l) (hl : l.length * 16 ≤ 140737488355328) (hbase : base ≤ w.heap.size)
    (h : ∀ g' cap w', w'.ownsRow base 9 1 (.slice (some ⟨g', 0, none⟩) l.length cap) l.length (strs l) → w.grownBy w' (some g) → (g' = g ∨ g' = w.heap.size) → K (a.put o.dst (.slice (some ⟨g', 0, none⟩) l.length cap)) w') :
    if Region.wanted o (yielded ops a.tmps) = true then Oper.wp Tryz.prog o a w K Q else E := by
  obtain ⟨i9, hi9, hz0, hz1, hz2⟩ := info_parts A9
  obtain ⟨ax, c, rfl, hc, hA⟩ := hR
  by_cases h0 : l = []
  · subst h0
    have hw : Region.wanted o (yielded ops a.tmps) = true := by simp [Region.wanted, hgd]
    rw [if_pos hw]
    have hr := run_append_none (P := Tryz.prog) w 25 o.type 9 i9 Tryz.underlying25 hi9 g 0 0 (Nat.le_refl _) ax c
    unfold Oper.wp execOp
    have hx' : a.eval x = .slice ax 0 c := hx
    simp only [ho, resolve, invoke, builtin, Sem.run_bind, Sem.run_pure, Result.andThen_ok, List.map_toArray, List.map_cons, List.map_nil, hs, hx', hr]
    exact h g 0 w hrow (World.grownBy.refl w _) (.inl rfl)
  · obtain ⟨b, oo, rfl, hb, hA⟩ := hA.resolve_left h0
    refine step_append_lies w hgd s x 25 ho base 9 i9 _ 1 16 Tryz.underlying25 hi9 hz0 hz1 hz2 rfl (by decide) _ 0 [] hs hrow _ l.length c (strs l) hx (by rw [strs_length]; omega) (fun j u hu => ?_) (strs1 l) (List.length_pos_iff.2 h0) (by unfold maxLen; omega) (by omega) hbase _ rfl ?_
    · unfold strs at hu
      rw [List.getElem?_map] at hu
      cases hy : l[j]? with
      | none => rw [hy] at hu; cases hu
      | some y =>
        rw [hy] at hu
        cases hu
        rw [add_off]
        exact hA j y hy
    · intro g' cap w' h1 h2 h3 _
      simp only [Nat.zero_add, List.nil_append] at h1 ⊢
      exact h g' cap w' h1 h2 (h3.elim (fun e => .inl (by simpa [Value.ownBlock] using e.symm)) .inr)
theorem owns_empty (w : World) : (w.alloc (.cells #[] 9)).ownsRow w.heap.size 9 1 (.slice (some ⟨w.heap.size, 0, none⟩) 0 0) 0 [] :=
  ⟨rfl, .inr ⟨w.heap.size, 0, #[], rfl, Nat.le_refl _, heap_alloc_new w _, Nat.le_refl _, Nat.zero_le _, rfl, rfl⟩⟩
/-- Texts that lie in certain blocks. -/
def SeenR (W : World) (S : Nat → Prop) (v : Value) (l : List ByteArray) : Prop := ∀ W', Agree S W W' → Reads W' v l
theorem own_reads {W W' : World} {lo : Nat} {S : Nat → Prop} {g cap : Nat} {l : List ByteArray} (h : W.ownsRow lo 9 1 (.slice (some ⟨g, 0, none⟩) l.length cap) l.length (strs l)) (hS : S g) (ha : Agree S W W') : Reads W' (.slice (some ⟨g, 0, none⟩) l.length cap) l := by
  obtain ⟨h1, h2⟩ := h
  rcases h2 with ⟨hv, _⟩ | ⟨g', cap', cur, hv, hg, hh, hc, hm, hs, hr⟩
  · cases hv
  · cases hv
    refine ⟨_, cap, rfl, ⟨hc, by unfold maxLen at hm; omega⟩, .inr ⟨g, 0, rfl, Nat.lt_of_lt_of_le (Array.getElem?_eq_some_iff.1 hh).1 ha.1, fun j s hj => ha.2 _ _ hS ?_⟩⟩
    have hlt : j < l.length := (List.getElem?_eq_some_iff.1 hj).1
    have : (strs l)[j]? = some (.string s) := by unfold strs; rw [List.getElem?_map, hj]; rfl
    rw [← hr, List.getElem?_take_of_lt (by omega), Array.getElem?_toList] at this
    simp [World.cell?, hh, this]
end Go.Proofs.YthgnkhpomhcdkaaGreatDoor
/-! Copy: its first statement. -/
namespace Go.Proofs.YthgnkhpomhcdkaaGreatDoor
open Go Go.RowKit

/-- What Copy answers: the value, in memory that it made. -/
def CopyPost (w : World) (t : Tr) (e : Ending) (w' : World) : Prop :=
  ∃ k x s an ln cn ai li ci, e = .returned (.agg #[.int .i64 k, .int .i64 x, .string s, .slice an ln cn, .slice ai li ci]) ∧ Seen w' (fun j => w.heap.size ≤ j) t (five k x s (.slice an ln cn) (.slice ai li ci)) ∧ Below w.heap.size w w'
def CopyOk (its : List Tr) : Prop := ∀ (i : Nat) (u : Tr), its[i]? = some u → ∀ cs w', VRep w' u cs → Calls Tryz.prog 9 #[.agg cs.toArray] w' (CopyPost w' u)
/-- Behind Copy's first statement. -/
def CopyAt (w : World) (box : Array Value) (k x : Int) (s : ByteArray) (ns : List ByteArray) (bw g cap : Nat) (it : Value) (wx : World) : Prop :=
  w.heap.size + 1 < bw ∧ Below w.heap.size w wx ∧ wx.heap[w.heap.size]? = some (.cells box 28 (0, 0)) ∧ wx.heap[w.heap.size + 1]? = some (.cells #[.int .i64 0, .int .i64 0, .string ⟨#[]⟩, .slice none 0 0, .slice none 0 0] 28 (0, 0)) ∧
  wx.heap[bw]? = some (.cells #[.int .i64 k, .int .i64 x, .string s, .slice (some ⟨g, 0, none⟩) ns.length cap, it] 28 (0, 0)) ∧ SeenR wx (fun j => w.heap.size + 1 < j ∧ j ≠ bw ∧ it.ownBlock ≠ some j) (.slice (some ⟨g, 0, none⟩) ns.length cap) ns ∧ it.ownBlock ≠ some bw
theorem copy_fin {w Y : World} {box : Array Value} {k x : Int} {s : ByteArray} {ns : List ByteArray} {bw g cap : Nat} (h1 : w.heap.size + 1 < bw) (h2 : Below w.heap.size w Y) (h3 : Y.heap[w.heap.size]? = some (.cells box 28 (0, 0))) (h4 : Y.heap[w.heap.size + 1]? = some (.cells #[.int .i64 0, .int .i64 0, .string ⟨#[]⟩, .slice none 0 0, .slice none 0 0] 28 (0, 0)))
    (h5 : Y.heap[bw]? = some (.cells #[.int .i64 0, .int .i64 0, .string ⟨#[]⟩, .slice none 0 0, .slice none 0 0] 28 (0, 0))) (h6 : Y.ownsRow (w.heap.size + 2) 9 1 (.slice (some ⟨g, 0, none⟩) ns.length cap) ns.length (strs ns)) (h7 : g ≠ bw) :
    CopyAt w box k x s ns bw g cap (.slice none 0 0) (put5 Y bw (.int .i64 k) (.int .i64 x) (.string s) (.slice (some ⟨g, 0, none⟩) ns.length cap) (.slice none 0 0)) := by
  have hg := (ownsRow_ge h6 (g := g) rfl).1
  refine ⟨h1, h2.trans (put5_below (by omega) _ _ _ _ _), (put5_far _ _ _ _ _ (by omega)).trans h3, (put5_far _ _ _ _ _ (by omega)).trans h4, put5_at h5 _ _ _ _ _, fun W' hW' => ?_, by simp [Value.ownBlock]⟩
  refine own_reads (ownsRow_keep h6 (fun g' hg' => ?_)) (show w.heap.size + 1 < g ∧ g ≠ bw ∧ (Value.slice none 0 0).ownBlock ≠ some g from ⟨by omega, h7, by simp [Value.ownBlock]⟩) hW'
  cases hg'
  exact put5_far _ _ _ _ _ h7

/-- Items, one behind the other, as cells. -/
def ItemsRep (W : World) : List Tr → List Value → Prop
  | [], xs => xs = []
  | t :: ts, xs => ∃ cs rest, xs = cs ++ rest ∧ cs.length = 5 ∧ VRep W t cs ∧ ItemsRep W ts rest
theorem ItemsRep.snoc {W : World} {u : Tr} {cs : List Value} (hl : cs.length = 5) (hu : VRep W u cs) : {ts : List Tr} → {xs : List Value} → ItemsRep W ts xs → ItemsRep W (ts ++ [u]) (xs ++ cs)
  | [], xs, h => by
    unfold ItemsRep at h
    subst h
    show ItemsRep W [u] ([] ++ cs)
    unfold ItemsRep
    exact ⟨cs, [], by simp, hl, hu, by unfold ItemsRep; rfl⟩
  | t :: ts, xs, h => by
    unfold ItemsRep at h
    obtain ⟨c1, r, rfl, h1, h2, h3⟩ := h
    show ItemsRep W (t :: (ts ++ [u])) _
    unfold ItemsRep
    exact ⟨c1, r ++ cs, by simp, h1, h2, ItemsRep.snoc hl hu h3⟩
theorem ItemsRep.list {W : World} {b : Nat} : (ts : List Tr) → (xs : List Value) → (o : Nat) → ItemsRep W ts xs → (∀ j u, xs[j]? = some u → W.cell? ⟨b, o + j, none⟩ = some u) → VRepL W b o ts
  | [], _, _, _, _ => by unfold VRepL; trivial
  | t :: ts, xs, o, h, hc => by
    unfold ItemsRep at h
    obtain ⟨cs, r, rfl, h1, h2, h3⟩ := h
    unfold VRepL
    refine ⟨cs, fun j u hj => hc j u (by rw [List.getElem?_append_left (List.getElem?_eq_some_iff.1 hj).1]; exact hj), h2, ItemsRep.list ts r (o + 5) h3 (fun j u hj => ?_)⟩
    have := hc (5 + j) u (by rw [List.getElem?_append_right (by omega), h1, Nat.add_sub_cancel_left]; exact hj)
    rwa [show o + 5 + j = o + (5 + j) by omega]
/-- The items that were copied. -/
def ItemsSeen (w : World) (bw : Nat) (it : Value) (ts : List Tr) (xs : List Value) (wr : World) : Prop := ∀ W', Agree (fun j => w.heap.size + 1 < j ∧ j ≠ bw ∧ it.ownBlock ≠ some j) wr W' → ItemsRep W' ts xs
theorem row_cell {w : World} {lo : Nat} {e : TypeId} {size g n cap : Nat} {xs : List Value} (h : w.ownsRow lo e size (.slice (some ⟨g, 0, none⟩) n cap) n xs) : ∀ j u, xs[j]? = some u → w.cell? ⟨g, j, none⟩ = some u := by
  intro j u hj
  obtain ⟨h1, h2⟩ := h
  rcases h2 with ⟨hv, _⟩ | ⟨g', cap', cur, hv, hg, hh, hc, hm, hs, hr⟩
  · cases hv
  · cases hv
    have hlt := (List.getElem?_eq_some_iff.1 hj).1
    rw [← hr, List.getElem?_take_of_lt (by rw [← h1]; exact hlt), Array.getElem?_toList] at hj
    simp [World.cell?, hh, hj]
theorem row_cap {w : World} {lo : Nat} {e : TypeId} {size g n cap : Nat} {xs : List Value} (h : w.ownsRow lo e size (.slice (some ⟨g, 0, none⟩) n cap) n xs) : n ≤ cap ∧ cap ≤ 9223372036854775807 := by
  rcases h.2 with ⟨hv, _⟩ | ⟨g', cap', cur, hv, hg, hh, hc, hm, hs, hr⟩
  · cases hv
  · cases hv
    exact ⟨hc, by unfold maxLen at hm; omega⟩
theorem CopyAt.drew {w wr : World} {box : Array Value} {k x : Int} {s : ByteArray} {ns : List ByteArray} {bw g cap : Nat} {it : Value} (h : CopyAt w box k x s ns bw g cap it wr) : CopyAt w box k x s ns bw g cap it wr.drew := by
  obtain ⟨c1, c2, c3, c4, c5, c6, c7⟩ := h
  exact ⟨c1, below_drew c2, c3, c4, c5, c6, c7⟩
theorem five_one (k x : Int) (s : ByteArray) (a : Option Addr) (l c : Nat) (a' : Option Addr) (l' c' : Nat) : ∀ u ∈ [Value.int .i64 k, .int .i64 x, .string s, .slice a l c, .slice a' l' c'], u.oneCell' = true := by
  intro u hu
  simp only [List.mem_cons, List.not_mem_nil, or_false] at hu
  rcases hu with rfl | rfl | rfl | rfl | rfl <;> rfl
/-- The end of Copy. -/
theorem copy_end {w wr : World} {box : Array Value} {k x : Int} {s : ByteArray} {ns : List ByteArray} {bw g cap : Nat} {ao : Option Addr} {ci : Nat} {its : List Tr} {xs : List Value} (hil : its.length * 80 ≤ 140737488355328)
    (hC : CopyAt w box k x s ns bw g cap (.slice ao its.length ci) wr) (hown : wr.ownsRow (w.heap.size + 2) 28 5 (.slice ao its.length ci) its.length xs) (hS : ItemsSeen w bw (.slice ao its.length ci) its xs wr) (c0 c1 c2 c3 c4 : Value) :
    Seen (put5 wr (w.heap.size + 1) c0 c1 c2 c3 c4) (fun j => w.heap.size ≤ j) (.node k x s ns its) (five k x s (.slice (some ⟨g, 0, none⟩) ns.length cap) (.slice ao its.length ci)) := by
  intro W' hW
  obtain ⟨_, hB, _, _, _, h6, _⟩ := hC
  have hAll : ∀ p v, w.heap.size + 1 < p.block → wr.cell? p = some v → W'.cell? p = some v := fun p v hp hv =>
    hW.2 p v (by omega) ((World.cell?_of_block (w := wr) (a := p) (put5_far _ _ _ _ _ (by omega))).trans hv)
  have hsz : wr.heap.size ≤ W'.heap.size := by have := hW.1; rw [put5_size] at this; exact this
  have hA : Agree (fun j => w.heap.size + 1 < j ∧ j ≠ bw ∧ (Value.slice ao its.length ci).ownBlock ≠ some j) wr W' := ⟨hsz, fun p v hp hv => hAll p v hp.1 hv⟩
  have hN := h6 W' hA
  have hI := hS W' hA
  unfold VRep
  rcases hown.2 with ⟨hv, h0⟩ | ⟨gi, ci', cur, hv, hg, hh, hc, hm, r⟩
  · have e := List.eq_nil_of_length_eq_zero h0
    subst e
    exact ⟨_, ao, ci, rfl, hN, ⟨Nat.zero_le _, by injection hv with _ _ h3; omega⟩, .inl rfl⟩
  · cases hv
    refine ⟨_, _, ci, rfl, hN, ⟨hc, by unfold maxLen at hm; omega⟩, .inr ⟨gi, 0, rfl, Nat.lt_of_lt_of_le (Array.getElem?_eq_some_iff.1 hh).1 hsz, ?_⟩⟩
    refine ItemsRep.list its xs 0 hI (fun j u hj => ?_)
    rw [Nat.zero_add]
    exact hAll ⟨gi, j, none⟩ u (by show w.heap.size + 1 < gi; omega) (row_cell hown j u hj)
/-- One round of Copy. -/
theorem copy_step {w wr w2 w3 : World} {box : Array Value} {k x : Int} {s : ByteArray} {ns : List ByteArray} {bw g cap : Nat} {ao : Option Addr} {q ci : Nat} {ts : List Tr} {xs : List Value} {u : Tr} {cs : Array Value} {g4 cap4 : Nat}
    (hC : CopyAt w box k x s ns bw g cap (.slice ao q ci) wr) (hown : wr.ownsRow (w.heap.size + 2) 28 5 (.slice ao q ci) q xs) (hS : ItemsSeen w bw (.slice ao q ci) ts xs wr)
    (hu : Seen w2 (fun j => wr.heap.size ≤ j) u cs.toList) (hcs : cs.toList.length = 5) (hb2 : Below wr.heap.size wr w2)
    (hgrow : (w2.alloc (.cells cs 28)).grownBy w3 (Value.slice ao q ci).ownBlock) (hat : (Value.slice ao q ci).ownBlock = some g4 ∨ g4 = (w2.alloc (.cells cs 28)).heap.size)
    (hown3 : w3.ownsRow (w.heap.size + 2) 28 5 (.slice (some ⟨g4, 0, none⟩) (q + 1) cap4) (q + 1) (xs ++ cs.toList)) :
    let w4 := w3.setCell ⟨bw, 4, none⟩ (.slice (some ⟨g4, 0, none⟩) (q + 1) cap4)
    CopyAt w box k x s ns bw g cap (.slice (some ⟨g4, 0, none⟩) (q + 1) cap4) w4 ∧ w4.ownsRow (w.heap.size + 2) 28 5 (.slice (some ⟨g4, 0, none⟩) (q + 1) cap4) (q + 1) (xs ++ cs.toList) ∧ ItemsSeen w bw (.slice (some ⟨g4, 0, none⟩) (q + 1) cap4) (ts ++ [u]) (xs ++ cs.toList) w4 := by
  intro w4
  obtain ⟨c1, c2, c3, c4, c5, c6, hbne⟩ := hC
  have hbwl : bw < wr.heap.size := (Array.getElem?_eq_some_iff.1 c5).1
  have hbl : w.heap.size + 1 < wr.heap.size := (Array.getElem?_eq_some_iff.1 c4).1
  have hs2 := hb2.size
  have hs3 := hgrow.size
  rw [World.size_alloc] at hs3 hat
  have own_lt : ∀ j, (Value.slice ao q ci).ownBlock = some j → w.heap.size + 2 ≤ j ∧ j < wr.heap.size := fun j hj => ownsRow_ge hown hj
  have g4ne : g4 ≠ bw := by
    rcases hat with h | h
    · intro e; subst e; exact hbne h
    · omega
  have g4lo : w.heap.size + 2 ≤ g4 := (ownsRow_ge hown3 (g := g4) rfl).1
  -- a block that is not the row's
  have far3 : ∀ j, j < wr.heap.size → (Value.slice ao q ci).ownBlock ≠ some j → w3.heap[j]? = wr.heap[j]? := fun j hj hne =>
    (hgrow.block j (by rw [World.size_alloc]; omega) (fun e => hne e.symm)).trans ((Below.heap_alloc w2 _ j (by omega)).trans (hb2.block j hj))
  have far4 : ∀ j, j ≠ bw → w4.heap[j]? = w3.heap[j]? := fun j hj => Below.heap_setCell _ _ _ _ hj
  have hsz4 : w4.heap.size = w3.heap.size := by simp [w4, World.setCell]
  have hB4 : Below w.heap.size w w4 := by
    refine ⟨?_, ?_, ?_, ?_, fun j hj => ?_⟩
    · exact (show w4.os = w3.os from rfl).trans (hgrow.os.trans (hb2.os.trans c2.os))
    · exact (show w4.tape = w3.tape from rfl).trans (hgrow.tape.trans (hb2.tape.trans c2.tape))
    · exact (show w4.output = w3.output from rfl).trans (hgrow.output.trans (hb2.output.trans c2.output))
    · rw [hsz4]; have := c2.size; omega
    · rw [far4 j (by omega), far3 j (by omega) (fun e => by have := own_lt j e; omega)]
      exact c2.block j hj
  have hsee : ∀ W', Agree (fun j => w.heap.size + 1 < j ∧ j ≠ bw ∧ (Value.slice (some ⟨g4, 0, none⟩) (q + 1) cap4).ownBlock ≠ some j) w4 W' → Agree (fun j => w.heap.size + 1 < j ∧ j ≠ bw ∧ (Value.slice ao q ci).ownBlock ≠ some j) wr W' ∧ Agree (fun j => wr.heap.size ≤ j) w2 W' := by
    intro W' hW
    refine ⟨⟨by have := hW.1; omega, fun p v hp hv => hW.2 p v ⟨hp.1, hp.2.1, ?_⟩ ?_⟩, ⟨by have := hW.1; omega, fun p v hp hv => hW.2 p v ⟨by omega, by omega, ?_⟩ ?_⟩⟩
    · intro e
      have : g4 = p.block := by simpa [Value.ownBlock] using e
      rcases hat with h | h
      · exact hp.2.2 (by rw [h, this])
      · have := lt_of_cell hv; omega
    · have hl := lt_of_cell hv
      exact (World.cell?_of_block (w := wr) (a := p) ((far4 _ hp.2.1).trans (far3 _ hl hp.2.2))).trans hv
    · intro e
      have : g4 = p.block := by simpa [Value.ownBlock] using e
      have hl := lt_of_cell hv
      rcases hat with h | h
      · have := own_lt _ h; omega
      · omega
    · have hl := lt_of_cell hv
      refine (World.cell?_of_block (w := w2) (a := p) ((far4 _ (by omega)).trans ((hgrow.block _ (by rw [World.size_alloc]; omega) (fun e => ?_)).trans (Below.heap_alloc w2 _ _ hl)))).trans hv
      have := own_lt _ e.symm
      omega
  refine ⟨⟨c1, hB4, ?_, ?_, ?_, fun W' hW => c6 W' (hsee W' hW).1, by simp [Value.ownBlock]; exact g4ne⟩, ownsRow_keep hown3 (fun j hj => ?_), fun W' hW => ItemsRep.snoc hcs (hu W' (hsee W' hW).2) (hS W' (hsee W' hW).1)⟩
  · rw [far4 _ (by omega), far3 _ (by omega) (fun e => by have := own_lt _ e; omega)]; exact c3
  · rw [far4 _ (by omega), far3 _ (by omega) (fun e => by have := own_lt _ e; omega)]; exact c4
  · have h3 : w3.heap[bw]? = _ := (far3 bw hbwl hbne).trans c5
    simp [w4, World.setCell, Array.getElem?_modify, h3]
  · cases hj
    exact far4 _ g4ne
/-- Items, in memory. -/
def ItemsAt' (w : World) (a : Option Addr) (its : List Tr) : Prop := its = [] ∨ ∃ b o, a = some ⟨b, o, none⟩ ∧ b < w.heap.size ∧ VRepL w b o its
set_option maxHeartbeats 8000000 in
set_option maxRecDepth 100000 in
theorem copy_one (k x : Int) (s : ByteArray) (an : Option Addr) (cn : Nat) (ns : List ByteArray) (a : Option Addr) (c : Nat) (its : List Tr) (w : World) (hnl : ns.length * 16 ≤ 140737488355328) (hil : its.length * 80 ≤ 140737488355328)
    (hN : Hid (Reads w (.slice an ns.length cn) ns)) (hL : Hid (ItemsAt' w a its)) (hI : Hid (CopyOk its)) :
    Calls Tryz.prog 9 #[.agg #[.int .i64 k, .int .i64 x, .string s, .slice an ns.length cn, .slice a its.length c]] w (CopyPost w (.node k x s ns its)) := by
  go_enter Tryz.func9, Tryz.ntmps9
  go_upto_region 1 with fail
  have hB0 : Below w.heap.size w ((w.alloc (.cells #[.int .i64 k, .int .i64 x, .string s, .slice an ns.length cn, .slice a its.length c] 28)).alloc (.cells #[.int .i64 0, .int .i64 0, .string ⟨#[]⟩, .slice none 0 0, .slice none 0 0] 28)) := ((Below.refl _ w).alloc (Nat.le_refl _) _).alloc (by simp) _
  have n1 := new1 w (.cells #[.int .i64 k, .int .i64 x, .string s, .slice an ns.length cn, .slice a its.length c] 28) (.cells #[.int .i64 0, .int .i64 0, .string ⟨#[]⟩, .slice none 0 0, .slice none 0 0] 28)
  have n2 := new2 w (.cells #[.int .i64 k, .int .i64 x, .string s, .slice an ns.length cn, .slice a its.length c] 28) (.cells #[.int .i64 0, .int .i64 0, .string ⟨#[]⟩, .slice none 0 0, .slice none 0 0] 28)
  have hsz : ((w.alloc (.cells #[.int .i64 k, .int .i64 x, .string s, .slice an ns.length cn, .slice a its.length c] 28)).alloc (.cells #[.int .i64 0, .int .i64 0, .string ⟨#[]⟩, .slice none 0 0, .slice none 0 0] 28)).heap.size = w.heap.size + 2 := by simp only [World.size_alloc]
  generalize (w.alloc (.cells #[.int .i64 k, .int .i64 x, .string s, .slice an ns.length cn, .slice a its.length c] 28)).alloc (.cells #[.int .i64 0, .int .i64 0, .string ⟨#[]⟩, .slice none 0 0, .slice none 0 0] 28) = X0 at hB0 n1 n2 hsz
  go_cut [3] (fun p wx => ∃ (bw g cap : Nat), p = .pointer (some ⟨bw, 0, none⟩) ∧ Hid (CopyAt w #[.int .i64 k, .int .i64 x, .string s, .slice an ns.length cn, .slice a its.length c] k x s ns bw g cap (.slice none 0 0) wx))
  case first =>
    replace hB0 : Below w.heap.size w X0.drew := below_drew hB0
    replace n1 : X0.drew.heap[w.heap.size]? = some (.cells #[.int .i64 k, .int .i64 x, .string s, .slice an ns.length cn, .slice a its.length c] 28 (0, 0)) := n1
    replace n2 : X0.drew.heap[w.heap.size + 1]? = some (.cells #[.int .i64 0, .int .i64 0, .string ⟨#[]⟩, .slice none 0 0, .slice none 0 0] 28 (0, 0)) := n2
    replace hsz : X0.drew.heap.size = w.heap.size + 2 := hsz
    generalize hX : X0.drew = X at hB0 n1 n2 hsz
    replace hsz := hid_e hsz
    refine wp_region_noPanic ?_
    refine Until.wp_region_U (fun w' => w'.heap[w.heap.size]? = some (.cells #[.int .i64 k, .int .i64 x, .string s, .slice an ns.length cn, .slice a its.length c] 28 (0, 0))) (fun _ => True) 12 (by kernel_rfl) ?_
    rw [hX]
    clear hX
    refine Until.wpU_pure (i := 0) (oi := { dst := some 5, op := Op.fieldAddr 28 (Operand.tmp 1) 0, type := 0, pos := "print.go:173", after := #[], guard := none }) (v := .pointer (some ⟨w.heap.size, 0, none⟩)) rfl (by kernel_rfl) (by kernel_rfl) (by kernel_rfl) (by kernel_rfl) (by kernel_rfl) (fun _ _ _ h => h) (n1) (fun _ => trivial) (by rfl) (by intro w'; go_simp) ?_
    try simp only [Act.put, List.setIfInBounds_toArray, List.set_cons_zero, List.set_cons_succ]
    refine Until.wpU_load0 (i := 1) (oi := { dst := some 6, op := Op.load 3 (Operand.tmp 5), type := 3, pos := "print.go:173", after := #[{ on := 0, ground := Ground.data }], guard := none }) (v := .int .i64 k) rfl (by kernel_rfl) (by kernel_rfl) (by kernel_rfl) (by kernel_rfl) (by kernel_rfl) (fun _ _ _ h => h) (n1) (fun _ => trivial) (by rfl) (by intro w' hw'; obtain ⟨t0, t1, t2, t3, t4, -⟩ := row_cells hw'; go_simp) ?_
    try simp only [Act.put, List.setIfInBounds_toArray, List.set_cons_zero, List.set_cons_succ]
    refine Until.wpU_pure (i := 2) (oi := { dst := some 7, op := Op.fieldAddr 28 (Operand.tmp 1) 1, type := 0, pos := "print.go:173", after := #[], guard := none }) (v := .pointer (some ⟨w.heap.size, 1, none⟩)) rfl (by kernel_rfl) (by kernel_rfl) (by kernel_rfl) (by kernel_rfl) (by kernel_rfl) (fun _ _ _ h => h) (n1) (fun _ => trivial) (by rfl) (by intro w'; go_simp) ?_
    try simp only [Act.put, List.setIfInBounds_toArray, List.set_cons_zero, List.set_cons_succ]
    refine Until.wpU_load0 (i := 3) (oi := { dst := some 8, op := Op.load 2 (Operand.tmp 7), type := 2, pos := "print.go:173", after := #[{ on := 2, ground := Ground.data }], guard := none }) (v := .int .i64 x) rfl (by kernel_rfl) (by kernel_rfl) (by kernel_rfl) (by kernel_rfl) (by kernel_rfl) (fun _ _ _ h => h) (n1) (fun _ => trivial) (by rfl) (by intro w' hw'; obtain ⟨t0, t1, t2, t3, t4, -⟩ := row_cells hw'; go_simp) ?_
    try simp only [Act.put, List.setIfInBounds_toArray, List.set_cons_zero, List.set_cons_succ]
    refine Until.wpU_pure (i := 4) (oi := { dst := some 9, op := Op.fieldAddr 28 (Operand.tmp 1) 2, type := 0, pos := "print.go:173", after := #[], guard := none }) (v := .pointer (some ⟨w.heap.size, 2, none⟩)) rfl (by kernel_rfl) (by kernel_rfl) (by kernel_rfl) (by kernel_rfl) (by kernel_rfl) (fun _ _ _ h => h) (n1) (fun _ => trivial) (by rfl) (by intro w'; go_simp) ?_
    try simp only [Act.put, List.setIfInBounds_toArray, List.set_cons_zero, List.set_cons_succ]
    refine Until.wpU_load0 (i := 5) (oi := { dst := some 10, op := Op.load 9 (Operand.tmp 9), type := 9, pos := "print.go:173", after := #[{ on := 4, ground := Ground.data }], guard := none }) (v := .string s) rfl (by kernel_rfl) (by kernel_rfl) (by kernel_rfl) (by kernel_rfl) (by kernel_rfl) (fun _ _ _ h => h) (n1) (fun _ => trivial) (by rfl) (by intro w' hw'; obtain ⟨t0, t1, t2, t3, t4, -⟩ := row_cells hw'; go_simp) ?_
    try simp only [Act.put, List.setIfInBounds_toArray, List.set_cons_zero, List.set_cons_succ]
    refine Until.wpU_pure (i := 7) (oi := { dst := some 12, op := Op.fieldAddr 28 (Operand.tmp 1) 3, type := 0, pos := "print.go:173", after := #[], guard := none }) (v := .pointer (some ⟨w.heap.size, 3, none⟩)) rfl (by kernel_rfl) (by kernel_rfl) (by kernel_rfl) (by kernel_rfl) (by kernel_rfl) (fun _ _ _ h => h) (n1) (fun _ => trivial) (by rfl) (by intro w'; go_simp) ?_
    try simp only [Act.put, List.setIfInBounds_toArray, List.set_cons_zero, List.set_cons_succ]
    refine Until.wpU_load0 (i := 8) (oi := { dst := some 13, op := Op.load 25 (Operand.tmp 12), type := 25, pos := "print.go:173", after := #[{ on := 7, ground := Ground.data }], guard := none }) (v := .slice an ns.length cn) rfl (by kernel_rfl) (by kernel_rfl) (by kernel_rfl) (by kernel_rfl) (by kernel_rfl) (fun _ _ _ h => h) (n1) (fun _ => trivial) (by rfl) (by intro w' hw'; obtain ⟨t0, t1, t2, t3, t4, -⟩ := row_cells hw'; go_simp) ?_
    try simp only [Act.put, List.setIfInBounds_toArray, List.set_cons_zero, List.set_cons_succ]
    refine Until.wpU_ready (rs := [6, 11]) (by kernel_rfl) (by simp) ?_
    refine (Until.AllU.cons (o := { dst := some 11, op := Op.buildSlice 25 0 #[], type := 25, pos := "print.go:173", after := #[], guard := none }) rfl (fun K hK => ?_) (Until.AllU.cons (o := { dst := some 3, op := Op.alloc 28, type := 0, pos := "print.go:173", after := #[], guard := none }) rfl (fun K hK => ?_) Until.AllU.nil))
    · go_simp
      have e1 := (Below.heap_alloc X (.cells #[] 9) w.heap.size (by have := hsz.out; omega)).trans n1
      have e2 := (Below.heap_alloc X (.cells #[] 9) (w.heap.size + 1) (by have := hsz.out; omega)).trans n2
      refine hK.out _ _ e1 (fun _ => trivial) ?_
      clear hK K
      try simp only [Act.put, List.setIfInBounds_toArray, List.set_cons_zero, List.set_cons_succ]
      refine Until.wpU_ready (rs := [9, 11]) (by kernel_rfl) (by simp) ?_
      refine (Until.AllU.cons (o := { dst := some 14, op := Op.call { callee := Callee.builtin Builtin.append, args := #[Operand.tmp 11, Operand.tmp 13], argTypes := #[25, 25] }, type := 25, pos := "print.go:173", after := #[{ on := 6, ground := Ground.data }, { on := 8, ground := Ground.data }], guard := none }) rfl (fun K hK => ?_) (Until.AllU.cons (o := { dst := some 3, op := Op.alloc 28, type := 0, pos := "print.go:173", after := #[], guard := none }) rfl (fun K hK => ?_) Until.AllU.nil))
      · refine step_append_texts _ (by rfl) _ _ (by rfl) X.heap.size X.heap.size (owns_empty X) (by rfl) _ ns (by rfl) (hN.out.keep (hB0.alloc (by have := hsz.out; omega) _)) hnl (by simp only [World.size_alloc]; omega) ?_
        intro g cap Y hown hgrow hat
        have f1 := (hgrow.block w.heap.size (by simp only [World.size_alloc]; have := hsz.out; omega) (by have := hsz.out; simp; omega)).trans e1
        have f2 := (hgrow.block (w.heap.size + 1) (by simp only [World.size_alloc]; have := hsz.out; omega) (by have := hsz.out; simp; omega)).trans e2
        have hYs : w.heap.size + 3 ≤ Y.heap.size := by have := hgrow.size; simp only [World.size_alloc] at this; have := hsz.out; omega
        have hBY : Below w.heap.size w Y := (hB0.alloc (by have := hsz.out; omega) _).trans (grown_below hgrow (by simp only [World.size_alloc]; have := hsz.out; omega) (fun g hg => by cases hg; have := hsz.out; omega))
        replace hown := ownsRow_lo hown (show w.heap.size + 2 ≤ X.heap.size by have := hsz.out; omega)
        clear hat hgrow
        refine hK.out _ _ f1 (fun _ => trivial) ?_
        clear hK K
        try simp only [Act.put, List.setIfInBounds_toArray, List.set_cons_zero, List.set_cons_succ]
        refine Until.wpU_pure (i := 10) (oi := { dst := some 15, op := Op.build 28 #[(0, Operand.tmp 6), (1, Operand.tmp 8), (2, Operand.tmp 10), (3, Operand.tmp 14)], type := 28, pos := "print.go:173", after := #[{ on := 1, ground := Ground.data }, { on := 3, ground := Ground.data }, { on := 5, ground := Ground.data }, { on := 9, ground := Ground.data }], guard := none }) (v := .agg #[.int .i64 k, .int .i64 x, .string s, .slice (some ⟨g, 0, none⟩) ns.length cap, .slice none 0 0]) rfl (by kernel_rfl) (by kernel_rfl) (by kernel_rfl) (by kernel_rfl) (by kernel_rfl) (fun _ _ _ h => h) (f1) (fun _ => trivial) (by rfl) (by intro w'; go_simp) ?_
        try simp only [Act.put, List.setIfInBounds_toArray, List.set_cons_zero, List.set_cons_succ]
        refine Until.wpU_ready (rs := [11]) (by kernel_rfl) (by simp) ?_
        refine (Until.AllU.cons (o := { dst := some 3, op := Op.alloc 28, type := 0, pos := "print.go:173", after := #[], guard := none }) rfl (fun K hK => ?_) Until.AllU.nil)
        go_simp
        have q1 := (Below.heap_alloc Y (.cells #[.int .i64 0, .int .i64 0, .string ⟨#[]⟩, .slice none 0 0, .slice none 0 0] 28) w.heap.size (by omega)).trans f1
        have q2 := (Below.heap_alloc Y (.cells #[.int .i64 0, .int .i64 0, .string ⟨#[]⟩, .slice none 0 0, .slice none 0 0] 28) (w.heap.size + 1) (by omega)).trans f2
        have q3 := heap_alloc_new Y (.cells #[.int .i64 0, .int .i64 0, .string ⟨#[]⟩, .slice none 0 0, .slice none 0 0] 28)
        have hgY := (ownsRow_ge hown (g := g) rfl).2
        have hBZ : Below w.heap.size w (Y.alloc (.cells #[.int .i64 0, .int .i64 0, .string ⟨#[]⟩, .slice none 0 0, .slice none 0 0] 28)) := hBY.alloc (by omega) _
        have hfin := fun (_ : Unit) => copy_fin (w := w) (Y := Y.alloc (.cells #[.int .i64 0, .int .i64 0, .string ⟨#[]⟩, .slice none 0 0, .slice none 0 0] 28)) (bw := Y.heap.size) (k := k) (x := x) (s := s) (by omega) hBZ q1 q2 q3 (hown.alloc _) (by omega)
        refine hK.out _ _ q1 (fun _ => trivial) ?_
        clear hK K
        try simp only [Act.put, List.setIfInBounds_toArray, List.set_cons_zero, List.set_cons_succ]
        generalize Y.alloc (.cells #[.int .i64 0, .int .i64 0, .string ⟨#[]⟩, .slice none 0 0, .slice none 0 0] 28) = Z at q1 q2 q3 hBZ hfin ⊢
        obtain ⟨z0, z1, z2, z3, z4, zf⟩ := row_cells q3
        have zf0 := zf 0; have zf1 := zf 1; have zf2 := zf 2; have zf3 := zf 3; have zf4 := zf 4
        clear zf
        refine Until.wpU_ready (rs := [12]) (by kernel_rfl) (by simp) ?_
        refine (Until.AllU.cons (o := { dst := none, op := Op.store 28 (Operand.tmp 3) (Operand.tmp 15), type := 0, pos := "print.go:173", after := #[{ on := 11, ground := Ground.data }, { on := 10, ground := Ground.data }, { on := 9, ground := Ground.chain }, { on := 0, ground := Ground.phase }, { on := 1, ground := Ground.phase }, { on := 2, ground := Ground.phase }, { on := 3, ground := Ground.phase }, { on := 4, ground := Ground.phase }, { on := 5, ground := Ground.phase }, { on := 6, ground := Ground.phase }, { on := 7, ground := Ground.phase }, { on := 8, ground := Ground.phase }, { on := 9, ground := Ground.phase }, { on := 10, ground := Ground.phase }, { on := 11, ground := Ground.phase }], guard := none }) rfl (fun K hK => ?_) Until.AllU.nil)
        go_simp
        have hp := (put5_far (w := Z) (g := Y.heap.size) (.int .i64 k) (.int .i64 x) (.string s) (.slice (some ⟨g, 0, none⟩) ns.length cap) (.slice none 0 0) (show w.heap.size ≠ Y.heap.size by have := hsz.out; omega)).trans q1
        refine hK.out _ _ hp (fun _ => trivial) ?_
        clear hK K z0 z1 z2 z3 z4 zf0 zf1 zf2 zf3 zf4
        try simp only [Act.put, List.setIfInBounds_toArray, List.set_cons_zero, List.set_cons_succ]
        refine Until.wpU_done (by kernel_rfl) ?_ _
        refine NoPanic.normal ?_
        go_wp2_with fail
        go_meet
        exact ⟨_, g, cap, rfl, hid_e (hfin ())⟩
      · go_simp
        have q1 := (Below.heap_alloc (X.alloc (.cells #[] 9)) (.cells #[.int .i64 0, .int .i64 0, .string ⟨#[]⟩, .slice none 0 0, .slice none 0 0] 28) w.heap.size (by simp only [World.size_alloc]; have := hsz.out; omega)).trans e1
        have q2 := (Below.heap_alloc (X.alloc (.cells #[] 9)) (.cells #[.int .i64 0, .int .i64 0, .string ⟨#[]⟩, .slice none 0 0, .slice none 0 0] 28) (w.heap.size + 1) (by simp only [World.size_alloc]; have := hsz.out; omega)).trans e2
        refine hK.out _ _ q1 (fun _ => trivial) ?_
        clear hK K
        try simp only [Act.put, List.setIfInBounds_toArray, List.set_cons_zero, List.set_cons_succ]
        refine Until.wpU_ready (rs := [9]) (by kernel_rfl) (by simp) ?_
        refine (Until.AllU.cons (o := { dst := some 14, op := Op.call { callee := Callee.builtin Builtin.append, args := #[Operand.tmp 11, Operand.tmp 13], argTypes := #[25, 25] }, type := 25, pos := "print.go:173", after := #[{ on := 6, ground := Ground.data }, { on := 8, ground := Ground.data }], guard := none }) rfl (fun K hK => ?_) Until.AllU.nil)
        refine step_append_texts _ (by rfl) _ _ (by rfl) X.heap.size X.heap.size ((owns_empty X).alloc _) (by rfl) _ ns (by rfl) (hN.out.keep ((hB0.alloc (by have := hsz.out; omega) _).alloc (by simp only [World.size_alloc]; have := hsz.out; omega) _)) hnl (by simp only [World.size_alloc]; omega) ?_
        intro g cap Y hown hgrow hat
        have f1 := (hgrow.block w.heap.size (by simp only [World.size_alloc]; have := hsz.out; omega) (by have := hsz.out; simp; omega)).trans q1
        have f2 := (hgrow.block (w.heap.size + 1) (by simp only [World.size_alloc]; have := hsz.out; omega) (by have := hsz.out; simp; omega)).trans q2
        have f3 := (hgrow.block (X.alloc (.cells #[] 9)).heap.size (by simp only [World.size_alloc]; omega) (by simp only [World.size_alloc]; simp)).trans (heap_alloc_new (X.alloc (.cells #[] 9)) (.cells #[.int .i64 0, .int .i64 0, .string ⟨#[]⟩, .slice none 0 0, .slice none 0 0] 28))
        have hBY : Below w.heap.size w Y := ((hB0.alloc (by have := hsz.out; omega) _).alloc (by simp only [World.size_alloc]; have := hsz.out; omega) _).trans (grown_below hgrow (by simp only [World.size_alloc]; have := hsz.out; omega) (fun g hg => by cases hg; have := hsz.out; omega))
        replace hown := ownsRow_lo hown (show w.heap.size + 2 ≤ X.heap.size by have := hsz.out; omega)
        rw [World.size_alloc] at f3
        have hfin := fun (_ : Unit) => copy_fin (w := w) (Y := Y) (bw := X.heap.size + 1) (k := k) (x := x) (s := s) (by have := hsz.out; omega) hBY f1 f2 f3 hown (by simp only [World.size_alloc] at hat; omega)
        have q3 := f3
        clear hat hgrow
        refine hK.out _ _ f1 (fun _ => trivial) ?_
        clear hK K
        try simp only [Act.put, List.setIfInBounds_toArray, List.set_cons_zero, List.set_cons_succ]
        refine Until.wpU_pure (i := 10) (oi := { dst := some 15, op := Op.build 28 #[(0, Operand.tmp 6), (1, Operand.tmp 8), (2, Operand.tmp 10), (3, Operand.tmp 14)], type := 28, pos := "print.go:173", after := #[{ on := 1, ground := Ground.data }, { on := 3, ground := Ground.data }, { on := 5, ground := Ground.data }, { on := 9, ground := Ground.data }], guard := none }) (v := .agg #[.int .i64 k, .int .i64 x, .string s, .slice (some ⟨g, 0, none⟩) ns.length cap, .slice none 0 0]) rfl (by kernel_rfl) (by kernel_rfl) (by kernel_rfl) (by kernel_rfl) (by kernel_rfl) (fun _ _ _ h => h) (f1) (fun _ => trivial) (by rfl) (by intro w'; go_simp) ?_
        try simp only [Act.put, List.setIfInBounds_toArray, List.set_cons_zero, List.set_cons_succ]
        obtain ⟨z0, z1, z2, z3, z4, zf⟩ := row_cells q3
        have zf0 := zf 0; have zf1 := zf 1; have zf2 := zf 2; have zf3 := zf 3; have zf4 := zf 4
        clear zf
        refine Until.wpU_ready (rs := [12]) (by kernel_rfl) (by simp) ?_
        refine (Until.AllU.cons (o := { dst := none, op := Op.store 28 (Operand.tmp 3) (Operand.tmp 15), type := 0, pos := "print.go:173", after := #[{ on := 11, ground := Ground.data }, { on := 10, ground := Ground.data }, { on := 9, ground := Ground.chain }, { on := 0, ground := Ground.phase }, { on := 1, ground := Ground.phase }, { on := 2, ground := Ground.phase }, { on := 3, ground := Ground.phase }, { on := 4, ground := Ground.phase }, { on := 5, ground := Ground.phase }, { on := 6, ground := Ground.phase }, { on := 7, ground := Ground.phase }, { on := 8, ground := Ground.phase }, { on := 9, ground := Ground.phase }, { on := 10, ground := Ground.phase }, { on := 11, ground := Ground.phase }], guard := none }) rfl (fun K hK => ?_) Until.AllU.nil)
        go_simp
        have hp := (put5_far (w := Y) (g := (X.heap.size + 1)) (.int .i64 k) (.int .i64 x) (.string s) (.slice (some ⟨g, 0, none⟩) ns.length cap) (.slice none 0 0) (show w.heap.size ≠ (X.heap.size + 1) by have := hsz.out; omega)).trans f1
        refine hK.out _ _ hp (fun _ => trivial) ?_
        clear hK K z0 z1 z2 z3 z4 zf0 zf1 zf2 zf3 zf4
        try simp only [Act.put, List.setIfInBounds_toArray, List.set_cons_zero, List.set_cons_succ]
        refine Until.wpU_done (by kernel_rfl) ?_ _
        refine NoPanic.normal ?_
        go_wp2_with fail
        go_meet
        exact ⟨_, g, cap, rfl, hid_e (hfin ())⟩
    · go_simp
      have e1 := (Below.heap_alloc X (.cells #[.int .i64 0, .int .i64 0, .string ⟨#[]⟩, .slice none 0 0, .slice none 0 0] 28) w.heap.size (by have := hsz.out; omega)).trans n1
      have e2 := (Below.heap_alloc X (.cells #[.int .i64 0, .int .i64 0, .string ⟨#[]⟩, .slice none 0 0, .slice none 0 0] 28) (w.heap.size + 1) (by have := hsz.out; omega)).trans n2
      refine hK.out _ _ e1 (fun _ => trivial) ?_
      clear hK K
      try simp only [Act.put, List.setIfInBounds_toArray, List.set_cons_zero, List.set_cons_succ]
      refine Until.wpU_ready (rs := [6]) (by kernel_rfl) (by simp) ?_
      refine (Until.AllU.cons (o := { dst := some 11, op := Op.buildSlice 25 0 #[], type := 25, pos := "print.go:173", after := #[], guard := none }) rfl (fun K hK => ?_) Until.AllU.nil)
      go_simp
      have q1 := (Below.heap_alloc (X.alloc (.cells #[.int .i64 0, .int .i64 0, .string ⟨#[]⟩, .slice none 0 0, .slice none 0 0] 28)) (.cells #[] 9) w.heap.size (by simp only [World.size_alloc]; have := hsz.out; omega)).trans e1
      have q2 := (Below.heap_alloc (X.alloc (.cells #[.int .i64 0, .int .i64 0, .string ⟨#[]⟩, .slice none 0 0, .slice none 0 0] 28)) (.cells #[] 9) (w.heap.size + 1) (by simp only [World.size_alloc]; have := hsz.out; omega)).trans e2
      refine hK.out _ _ q1 (fun _ => trivial) ?_
      clear hK K
      try simp only [Act.put, List.setIfInBounds_toArray, List.set_cons_zero, List.set_cons_succ]
      refine Until.wpU_ready (rs := [9]) (by kernel_rfl) (by simp) ?_
      refine (Until.AllU.cons (o := { dst := some 14, op := Op.call { callee := Callee.builtin Builtin.append, args := #[Operand.tmp 11, Operand.tmp 13], argTypes := #[25, 25] }, type := 25, pos := "print.go:173", after := #[{ on := 6, ground := Ground.data }, { on := 8, ground := Ground.data }], guard := none }) rfl (fun K hK => ?_) Until.AllU.nil)
      refine step_append_texts _ (by rfl) _ _ (by rfl) (X.heap.size + 1) (X.heap.size + 1) (by have := owns_empty (X.alloc (.cells #[.int .i64 0, .int .i64 0, .string ⟨#[]⟩, .slice none 0 0, .slice none 0 0] 28)); rw [World.size_alloc] at this; exact this) (by rfl) _ ns (by rfl) (hN.out.keep ((hB0.alloc (by have := hsz.out; omega) _).alloc (by simp only [World.size_alloc]; have := hsz.out; omega) _)) hnl (by simp only [World.size_alloc]; omega) ?_
      intro g cap Y hown hgrow hat
      have f1 := (hgrow.block w.heap.size (by simp only [World.size_alloc]; have := hsz.out; omega) (by have := hsz.out; simp; omega)).trans q1
      have f2 := (hgrow.block (w.heap.size + 1) (by simp only [World.size_alloc]; have := hsz.out; omega) (by have := hsz.out; simp; omega)).trans q2
      have f3 := (hgrow.block X.heap.size (by simp only [World.size_alloc]; omega) (by simp)).trans ((Below.heap_alloc (X.alloc (.cells #[.int .i64 0, .int .i64 0, .string ⟨#[]⟩, .slice none 0 0, .slice none 0 0] 28)) (.cells #[] 9) X.heap.size (by simp only [World.size_alloc]; omega)).trans (heap_alloc_new X (.cells #[.int .i64 0, .int .i64 0, .string ⟨#[]⟩, .slice none 0 0, .slice none 0 0] 28)))
      have hBY : Below w.heap.size w Y := ((hB0.alloc (by have := hsz.out; omega) _).alloc (by simp only [World.size_alloc]; have := hsz.out; omega) _).trans (grown_below hgrow (by simp only [World.size_alloc]; have := hsz.out; omega) (fun g hg => by cases hg; have := hsz.out; omega))
      replace hown := ownsRow_lo hown (show w.heap.size + 2 ≤ X.heap.size + 1 by have := hsz.out; omega)
      have hfin := fun (_ : Unit) => copy_fin (w := w) (Y := Y) (bw := X.heap.size) (k := k) (x := x) (s := s) (by have := hsz.out; omega) hBY f1 f2 f3 hown (by simp only [World.size_alloc] at hat; omega)
      have q3 := f3
      clear hat hgrow
      refine hK.out _ _ f1 (fun _ => trivial) ?_
      clear hK K
      try simp only [Act.put, List.setIfInBounds_toArray, List.set_cons_zero, List.set_cons_succ]
      refine Until.wpU_pure (i := 10) (oi := { dst := some 15, op := Op.build 28 #[(0, Operand.tmp 6), (1, Operand.tmp 8), (2, Operand.tmp 10), (3, Operand.tmp 14)], type := 28, pos := "print.go:173", after := #[{ on := 1, ground := Ground.data }, { on := 3, ground := Ground.data }, { on := 5, ground := Ground.data }, { on := 9, ground := Ground.data }], guard := none }) (v := .agg #[.int .i64 k, .int .i64 x, .string s, .slice (some ⟨g, 0, none⟩) ns.length cap, .slice none 0 0]) rfl (by kernel_rfl) (by kernel_rfl) (by kernel_rfl) (by kernel_rfl) (by kernel_rfl) (fun _ _ _ h => h) (f1) (fun _ => trivial) (by rfl) (by intro w'; go_simp) ?_
      try simp only [Act.put, List.setIfInBounds_toArray, List.set_cons_zero, List.set_cons_succ]
      obtain ⟨z0, z1, z2, z3, z4, zf⟩ := row_cells q3
      have zf0 := zf 0; have zf1 := zf 1; have zf2 := zf 2; have zf3 := zf 3; have zf4 := zf 4
      clear zf
      refine Until.wpU_ready (rs := [12]) (by kernel_rfl) (by simp) ?_
      refine (Until.AllU.cons (o := { dst := none, op := Op.store 28 (Operand.tmp 3) (Operand.tmp 15), type := 0, pos := "print.go:173", after := #[{ on := 11, ground := Ground.data }, { on := 10, ground := Ground.data }, { on := 9, ground := Ground.chain }, { on := 0, ground := Ground.phase }, { on := 1, ground := Ground.phase }, { on := 2, ground := Ground.phase }, { on := 3, ground := Ground.phase }, { on := 4, ground := Ground.phase }, { on := 5, ground := Ground.phase }, { on := 6, ground := Ground.phase }, { on := 7, ground := Ground.phase }, { on := 8, ground := Ground.phase }, { on := 9, ground := Ground.phase }, { on := 10, ground := Ground.phase }, { on := 11, ground := Ground.phase }], guard := none }) rfl (fun K hK => ?_) Until.AllU.nil)
      go_simp
      have hp := (put5_far (w := Y) (g := X.heap.size) (.int .i64 k) (.int .i64 x) (.string s) (.slice (some ⟨g, 0, none⟩) ns.length cap) (.slice none 0 0) (show w.heap.size ≠ X.heap.size by have := hsz.out; omega)).trans f1
      refine hK.out _ _ hp (fun _ => trivial) ?_
      clear hK K z0 z1 z2 z3 z4 zf0 zf1 zf2 zf3 zf4
      try simp only [Act.put, List.setIfInBounds_toArray, List.set_cons_zero, List.set_cons_succ]
      refine Until.wpU_done (by kernel_rfl) ?_ _
      refine NoPanic.normal ?_
      go_wp2_with fail
      go_meet
      exact ⟨_, g, cap, rfl, hid_e (hfin ())⟩
  case rest =>
    clear hB0 n1 n2 hsz
    obtain ⟨bw, g, cap, rfl, hC0⟩ := hcut
    obtain ⟨i0, hi, hz0, hz1, hz2⟩ := info_parts AV
    go_wp2_with fail
    go_loopw [4] (fun i wr => ∃ (q : Nat) (ao : Option Addr) (ci : Nat) (xs : List Value), q ≤ its.length ∧ i = .int .i64 q ∧ Hid (CopyAt w #[.int .i64 k, .int .i64 x, .string s, .slice an ns.length cn, .slice a its.length c] k x s ns bw g cap (.slice ao q ci) wr) ∧ Hid (wr.ownsRow (w.heap.size + 2) 28 5 (.slice ao q ci) q xs) ∧ Hid (ItemsSeen w bw (.slice ao q ci) (its.take q) xs wr)) (fun i _ => its.length - (intOf i).toNat)
    case atStart => exact ⟨0, none, 0, [], Nat.zero_le _, rfl, hC0, World.ownsRow_nil _ _ _ _, fun _ _ => by simp [ItemsRep]⟩
    case round =>
      clear hC0
      obtain ⟨q, ao, ci, xs, hq, rfl, hC, hown, hS⟩ := hrel
      obtain ⟨c1, c2, c3, c4, c5, c6, c7⟩ := hC.out
      clear c6
      obtain ⟨-, -, -, -, y4, -⟩ := row_cells c3
      by_cases hlt : q < its.length
      · have hd : decide ((q : Int) < (its.length : Int)) = true := by simp; omega
        obtain ⟨u, hu⟩ : ∃ u, Hid (its[q]? = some u) := ⟨_, List.getElem?_eq_getElem hlt⟩
        obtain ⟨b, o, rfl, hb, hV⟩ := hL.out.resolve_left (by intro e; subst e; simp at hlt)
        obtain ⟨cs, hCs, h2⟩ := VRepL.at its o q u hV hu.out
        obtain ⟨k2, x2, s2, an2, ln2, cn2, ai2, li2, ci2, rfl⟩ := vrep_five h2
        have m0 := hCs 0 _ rfl
        have m1 := hCs 1 _ rfl
        have m2 := hCs 2 _ rfl
        have m3 := hCs 3 _ rfl
        have m4 := hCs 4 _ rfl
        simp only [Nat.add_zero] at m0
        have hcall := hid_e (fun W (hW : Below w.heap.size w W) => hI.out q u hu.out _ W (VRep.keep hW _ _ h2))
        clear hV hCs h2
        go_wp2_with fail
        clear y4
        have i1 : (q : Int) < (its.length : Int) := by omega
        have i2 : (0 : Int) ≤ (q : Int) := by omega
        have hbl : Hid (w.heap.size + 1 < wr.heap.size) := (Array.getElem?_eq_some_iff.1 c4).1
        replace c2 : Below w.heap.size w wr.drew := below_drew c2
        replace c3 : wr.drew.heap[w.heap.size]? = some (.cells #[.int .i64 k, .int .i64 x, .string s, .slice an ns.length cn, .slice (some ⟨b, o, none⟩) its.length c] 28 (0, 0)) := c3
        replace c5 : wr.drew.heap[bw]? = some (.cells #[.int .i64 k, .int .i64 x, .string s, .slice (some ⟨g, 0, none⟩) ns.length cap, .slice ao q ci] 28 (0, 0)) := c5
        replace hC : Hid (CopyAt w #[.int .i64 k, .int .i64 x, .string s, .slice an ns.length cn, .slice (some ⟨b, o, none⟩) its.length c] k x s ns bw g cap (.slice ao q ci) wr.drew) := CopyAt.drew hC.out
        replace hown : Hid (wr.drew.ownsRow (w.heap.size + 2) 28 5 (.slice ao q ci) q xs) := hown
        replace hS : Hid (ItemsSeen w bw (.slice ao q ci) (its.take q) xs wr.drew) := hS
        replace hbl : Hid (w.heap.size + 1 < wr.drew.heap.size) := hbl
        clear c4 c7
        generalize hX : wr.drew = X at c2 c3 c5 hC hown hS hbl
        refine wp_region_noPanic ?_
        refine Until.wp_region_U (fun w' => Below w.heap.size w w' ∧ w'.heap[w.heap.size]? = some (.cells #[.int .i64 k, .int .i64 x, .string s, .slice an ns.length cn, .slice (some ⟨b, o, none⟩) its.length c] 28 (0, 0))) (fun w' => w'.heap[bw]? = some (.cells #[.int .i64 k, .int .i64 x, .string s, .slice (some ⟨g, 0, none⟩) ns.length cap, .slice ao q ci] 28 (0, 0))) 11 (by kernel_rfl) ?_
        rw [hX]
        clear hX
        refine Until.wpU_pure (i := 0) (oi := { dst := some 23, op := Op.fieldAddr 28 (Operand.tmp 3) 4, type := 0, pos := "print.go:175", after := #[], guard := none }) (v := .pointer (some ⟨bw, 4, none⟩)) rfl (by kernel_rfl) (by kernel_rfl) (by kernel_rfl) (by kernel_rfl) (by kernel_rfl) (fun _ _ _ h => h) (⟨c2, c3⟩) (fun _ => c5) (by rfl) (by intro w'; go_simp) ?_
        try simp only [Act.put, List.setIfInBounds_toArray, List.set_cons_zero, List.set_cons_succ]
        refine Until.wpU_load1 (i := 1) (oi := { dst := some 24, op := Op.load 26 (Operand.tmp 23), type := 26, pos := "print.go:175", after := #[{ on := 0, ground := Ground.data }], guard := none }) (v := .slice ao q ci) rfl (by kernel_rfl) (by kernel_rfl) (by kernel_rfl) (by kernel_rfl) (by kernel_rfl) (by kernel_rfl) (fun _ _ _ h => h) (⟨c2, c3⟩) (c5) (by rfl) (by intro w' hw'; obtain ⟨t0, t1, t2, t3, t4, -⟩ := row_cells hw'; go_simp) ?_
        try simp only [Act.put, List.setIfInBounds_toArray, List.set_cons_zero, List.set_cons_succ]
        refine Until.wpU_pure (i := 2) (oi := { dst := some 25, op := Op.fieldAddr 28 (Operand.tmp 1) 4, type := 0, pos := "print.go:175", after := #[], guard := none }) (v := .pointer (some ⟨w.heap.size, 4, none⟩)) rfl (by kernel_rfl) (by kernel_rfl) (by kernel_rfl) (by kernel_rfl) (by kernel_rfl) (fun _ _ _ h => h) (⟨c2, c3⟩) (fun _ => c5) (by rfl) (by intro w'; go_simp) ?_
        try simp only [Act.put, List.setIfInBounds_toArray, List.set_cons_zero, List.set_cons_succ]
        refine Until.wpU_load0 (i := 3) (oi := { dst := some 26, op := Op.load 26 (Operand.tmp 25), type := 26, pos := "print.go:175", after := #[{ on := 2, ground := Ground.data }], guard := none }) (v := .slice (some ⟨b, o, none⟩) its.length c) rfl (by kernel_rfl) (by kernel_rfl) (by kernel_rfl) (by kernel_rfl) (by kernel_rfl) (fun _ _ _ h => h) (⟨c2, c3⟩) (fun _ => c5) (by rfl) (by intro w' hw'; obtain ⟨t0, t1, t2, t3, t4, -⟩ := row_cells hw'.2; go_simp) ?_
        try simp only [Act.put, List.setIfInBounds_toArray, List.set_cons_zero, List.set_cons_succ]
        refine Until.wpU_pure (i := 4) (oi := { dst := some 27, op := Op.move (Operand.tmp 4), type := 3, pos := "print.go:175", after := #[], guard := none }) (v := .int .i64 q) rfl (by kernel_rfl) (by kernel_rfl) (by kernel_rfl) (by kernel_rfl) (by kernel_rfl) (fun _ _ _ h => h) (⟨c2, c3⟩) (fun _ => c5) (by rfl) (by intro w'; go_simp) ?_
        try simp only [Act.put, List.setIfInBounds_toArray, List.set_cons_zero, List.set_cons_succ]
        refine Until.wpU_pure (i := 5) (oi := { dst := some 28, op := Op.indexAddr 26 (Operand.tmp 26) (Operand.tmp 27), type := 0, pos := "print.go:175", after := #[{ on := 3, ground := Ground.data }, { on := 4, ground := Ground.data }], guard := none }) (v := .pointer (some ⟨b, o + q * 5, none⟩)) rfl (by kernel_rfl) (by kernel_rfl) (by kernel_rfl) (by kernel_rfl) (by kernel_rfl) (fun _ _ _ h => h) (⟨c2, c3⟩) (fun _ => c5) (by rfl) (by intro w'; go_simp) ?_
        try simp only [Act.put, List.setIfInBounds_toArray, List.set_cons_zero, List.set_cons_succ]
        refine Until.wpU_load0 (i := 6) (oi := { dst := some 29, op := Op.load 28 (Operand.tmp 28), type := 28, pos := "print.go:175", after := #[{ on := 5, ground := Ground.data }], guard := none }) (v := .agg #[.int .i64 k2, .int .i64 x2, .string s2, .slice an2 ln2 cn2, .slice ai2 li2 ci2]) rfl (by kernel_rfl) (by kernel_rfl) (by kernel_rfl) (by kernel_rfl) (by kernel_rfl) (fun _ _ _ h => h) (⟨c2, c3⟩) (fun _ => c5) (by rfl) (by intro w' hw'; have t0 := (hw'.1.cell (p := ⟨b, o + q * 5, none⟩) hb).trans m0; have t1 := (hw'.1.cell (p := ⟨b, o + q * 5 + 1, none⟩) hb).trans m1; have t2 := (hw'.1.cell (p := ⟨b, o + q * 5 + 2, none⟩) hb).trans m2; have t3 := (hw'.1.cell (p := ⟨b, o + q * 5 + 3, none⟩) hb).trans m3; have t4 := (hw'.1.cell (p := ⟨b, o + q * 5 + 4, none⟩) hb).trans m4; clear hw'; go_simp) ?_
        try simp only [Act.put, List.setIfInBounds_toArray, List.set_cons_zero, List.set_cons_succ]
        refine Until.wpU_ready (rs := [7]) (by kernel_rfl) (by simp) ?_
        refine (Until.AllU.cons (o := { dst := some 30, op := Op.call { callee := Callee.value (Operand.func 9), args := #[Operand.tmp 29], argTypes := #[28] }, type := 28, pos := "print.go:175", after := #[{ on := 6, ground := Ground.data }], guard := none }) rfl (fun K hK => ?_) Until.AllU.nil)
        go_simp
        refine (hcall.out X c2).mono ?_
        rintro e w2 ⟨k3, x3, s3, an3, ln3, cn3, ai3, li3, ci3, rfl, hu3, hb2⟩
        have d2 : Below w.heap.size w w2 := c2.trans (hb2.mono c2.size)
        have d3 := (hb2.block _ (Array.getElem?_eq_some_iff.1 c3).1).trans c3
        have d5 := (hb2.block _ (Array.getElem?_eq_some_iff.1 c5).1).trans c5
        replace hu3 := hid_e hu3
        refine hK.out _ _ ⟨d2, d3⟩ (fun _ => d5) ?_
        clear hK K
        try simp only [Act.put, List.setIfInBounds_toArray, List.set_cons_zero, List.set_cons_succ]
        refine Until.wpU_ready (rs := [8]) (by kernel_rfl) (by simp) ?_
        refine (Until.AllU.cons (o := { dst := some 31, op := Op.buildSlice 26 1 #[(0, Operand.tmp 30)], type := 26, pos := "print.go:175", after := #[{ on := 7, ground := Ground.data }], guard := none }) rfl (fun K hK => ?_) Until.AllU.nil)
        go_simp
        have e2 : Below w.heap.size w (w2.alloc (.cells #[.int .i64 k3, .int .i64 x3, .string s3, .slice an3 ln3 cn3, .slice ai3 li3 ci3] 28)) := d2.alloc d2.size _
        have e3 := (Below.heap_alloc w2 (.cells #[.int .i64 k3, .int .i64 x3, .string s3, .slice an3 ln3 cn3, .slice ai3 li3 ci3] 28) _ (Array.getElem?_eq_some_iff.1 d3).1).trans d3
        have e5 := (Below.heap_alloc w2 (.cells #[.int .i64 k3, .int .i64 x3, .string s3, .slice an3 ln3 cn3, .slice ai3 li3 ci3] 28) _ (Array.getElem?_eq_some_iff.1 d5).1).trans d5
        refine hK.out _ _ ⟨e2, e3⟩ (fun _ => e5) ?_
        clear hK K
        try simp only [Act.put, List.setIfInBounds_toArray, List.set_cons_zero, List.set_cons_succ]
        refine Until.wpU_ready (rs := [9]) (by kernel_rfl) (by simp) ?_
        refine (Until.AllU.cons (o := { dst := some 32, op := Op.call { callee := Callee.builtin Builtin.append, args := #[Operand.tmp 24, Operand.tmp 31], argTypes := #[26, 26] }, type := 26, pos := "print.go:175", after := #[{ on := 1, ground := Ground.data }, { on := 8, ground := Ground.data }, { on := 7, ground := Ground.chain }], guard := none }) rfl (fun K hK => ?_) Until.AllU.nil)
        refine step_append_lies _ (by rfl) _ _ 26 (by rfl) (w.heap.size + 2) 28 i0 _ 5 80 Tryz.underlying26 hi hz0 hz1 hz2 (by rfl) (by omega) _ q xs (by rfl) ((ownsRow_below hown.out hb2).alloc _) _ 1 1 [.int .i64 k3, .int .i64 x3, .string s3, .slice an3 ln3 cn3, .slice ai3 li3 ci3] (by rfl) (by rfl) (World.news_of_block (heap_alloc_new w2 _)) (five_one _ _ _ _ _ _ _ _ _) (by omega) (by unfold maxLen; omega) (by omega) (by have := e2.size; simp only [World.size_alloc] at *; have := hbl.out; have := hb2.size; omega) _ rfl ?_
        intro g4 cap4 w3 hown3 hgrow3 hat3 hlt3
        replace hgrow3 : (w2.alloc (.cells #[.int .i64 k3, .int .i64 x3, .string s3, .slice an3 ln3 cn3, .slice ai3 li3 ci3] 28)).grownBy w3 (Value.slice ao q ci).ownBlock := hgrow3
        have hstep := hid_e (copy_step hC.out hown.out hS.out hu3.out rfl hb2 hgrow3 hat3 hown3)
        have f2 : Below w.heap.size w w3 := e2.trans (grown_below hgrow3 e2.size (fun g hg => by have := (ownsRow_ge hown.out hg).1; omega))
        have f3 := (hgrow3.block _ (Array.getElem?_eq_some_iff.1 e3).1 (fun e => by have := (ownsRow_ge hown.out e.symm).1; omega)).trans e3
        have f5 := (hgrow3.block _ (Array.getElem?_eq_some_iff.1 e5).1 (fun e => hC.out.2.2.2.2.2.2 e.symm)).trans e5
        refine hK.out _ _ ⟨f2, f3⟩ (fun _ => f5) ?_
        clear hK K hat3 hgrow3 hown3
        try simp only [Act.put, List.setIfInBounds_toArray, List.set_cons_zero, List.set_cons_succ]
        refine Until.wpU_pure (i := 10) (oi := { dst := some 33, op := Op.fieldAddr 28 (Operand.tmp 3) 4, type := 0, pos := "print.go:175", after := #[{ on := 0, ground := Ground.phase }, { on := 1, ground := Ground.phase }, { on := 2, ground := Ground.phase }, { on := 3, ground := Ground.phase }, { on := 4, ground := Ground.phase }, { on := 5, ground := Ground.phase }, { on := 6, ground := Ground.phase }, { on := 7, ground := Ground.phase }, { on := 8, ground := Ground.phase }, { on := 9, ground := Ground.phase }], guard := none }) (v := .pointer (some ⟨bw, 4, none⟩)) rfl (by kernel_rfl) (by kernel_rfl) (by kernel_rfl) (by kernel_rfl) (by kernel_rfl) (fun _ _ _ h => h) (⟨f2, f3⟩) (fun _ => f5) (by rfl) (by intro w'; go_simp) ?_
        try simp only [Act.put, List.setIfInBounds_toArray, List.set_cons_zero, List.set_cons_succ]
        obtain ⟨-, -, -, -, z4, zf⟩ := row_cells f5
        have zf4 := zf 4
        clear zf
        refine Until.wpU_ready (rs := [11]) (by kernel_rfl) (by simp) ?_
        refine (Until.AllU.cons (o := { dst := none, op := Op.store 26 (Operand.tmp 33) (Operand.tmp 32), type := 0, pos := "print.go:175", after := #[{ on := 10, ground := Ground.data }, { on := 9, ground := Ground.data }, { on := 9, ground := Ground.chain }, { on := 0, ground := Ground.phase }, { on := 1, ground := Ground.phase }, { on := 2, ground := Ground.phase }, { on := 3, ground := Ground.phase }, { on := 4, ground := Ground.phase }, { on := 5, ground := Ground.phase }, { on := 6, ground := Ground.phase }, { on := 7, ground := Ground.phase }, { on := 8, ground := Ground.phase }, { on := 9, ground := Ground.phase }], guard := none }) rfl (fun K hK => ?_) Until.AllU.nil)
        go_simp
        obtain ⟨s1, s2, s3⟩ := hstep.out
        replace s1 := hid_e s1
        replace s2 := hid_e s2
        replace s3 := hid_e s3
        refine hK.out _ _ ⟨s1.out.2.1, s1.out.2.2.1⟩ (fun h => absurd h (by decide)) ?_
        clear hK K
        try simp only [Act.put, List.setIfInBounds_toArray, List.set_cons_zero, List.set_cons_succ]
        refine Until.wpU_done (by kernel_rfl) ?_ _
        refine NoPanic.normal ?_
        clear z4 zf4 f5 f3 f2 e5 e3 e2 d5 d3 d2
        go_wp2_with fail
        go_roundw
        case rel => exact ⟨q + 1, _, _, _, by omega, by simp, s1, s2, by rw [List.take_add_one, hu.out]; exact s3⟩
        case measure => simp [intOf]; omega
      · have hd : decide ((q : Int) < (its.length : Int)) = false := by simp; omega
        obtain rfl : q = its.length := by omega
        obtain ⟨z0, z1, z2, z3, z4, zf⟩ := row_cells c4
        have zf0 := zf 0; have zf1 := zf 1; have zf2 := zf 2; have zf3 := zf 3; have zf4 := zf 4
        obtain ⟨v0, v1, v2, v3, v4, -⟩ := row_cells c5
        clear zf hd hlt
        rw [List.take_length] at hS
        go_wp2_with fail
        have hr5 := put5_cells c4 (.int .i64 k) (.int .i64 x) (.string s) (.slice (some ⟨g, 0, none⟩) ns.length cap) (.slice ao its.length ci)
        have r0 := hr5 0; have r1 := hr5 1; have r2 := hr5 2; have r3 := hr5 3; have r4 := hr5 4
        clear hr5
        refine bodyPost_ret (v := .agg #[.int .i64 k, .int .i64 x, .string s, .slice (some ⟨g, 0, none⟩) ns.length cap, .slice ao its.length ci]) (by simp [results, Tryz.results9, go_sem, r0, r1, r2, r3, r4]) rfl ?_
        exact ⟨k, x, s, _, _, cap, ao, its.length, ci, rfl, copy_end hil hC.out hown.out hS.out _ _ _ _ _, c2.trans (put5_below (by omega) _ _ _ _ _)⟩
theorem SmallL.at : {its : List Tr} → {i : Nat} → {u : Tr} → SmallL its → its[i]? = some u → SmallT u
  | [], _, _, _, hu => by simp at hu
  | t :: ts, 0, u, h, hu => by
    unfold SmallL at h
    have : t = u := by simpa using hu
    exact this ▸ h.1
  | t :: ts, i + 1, u, h, hu => by
    unfold SmallL at h
    exact SmallL.at h.2 (by simpa using hu)
/-- Copy of every value. -/
theorem copy_any (t : Tr) (cs : List Value) (w : World) (hV : VRep w t cs) (hS : SmallT t) :
    Calls Tryz.prog 9 #[.agg cs.toArray] w (CopyPost w t) := by
  match t, hV, hS with
  | .node k x s ns its, hV, hS =>
    unfold VRep at hV
    unfold SmallT at hS
    obtain ⟨nm, a, c, rfl, hn, hc, hI⟩ := hV
    obtain ⟨an, cn, rfl, -, -⟩ := id hn
    obtain ⟨_, s2, _, s4, s5⟩ := hS
    refine copy_one k x s an cn ns a c its w (by omega) (by omega) (hid_e hn) (hid_e hI) (hid_e (fun i u hu ds w' h1 => ?_))
    have hlt : SizeOf.sizeOf u < SizeOf.sizeOf its := tr_lt hu
    exact copy_any u ds w' h1 (SmallL.at s5 hu)
termination_by SizeOf.sizeOf t
decreasing_by simp only [Tr.node.sizeOf_spec]; omega
end Go.Proofs.YthgnkhpomhcdkaaGreatDoor
/-! Copy once more: where its own lists lie, and that what stands in its items lies elsewhere. -/
namespace Go.Proofs.YthgnkhpomhcdkaaGreatDoor.Tree
open Go Go.RowKit

/-- What Copy answers: its lists are its own, and what stands in its items lies elsewhere. -/
def CopyTop (w : World) (k x : Int) (s : ByteArray) (ns : List ByteArray) (its : List Tr) (e : Ending) (w' : World) : Prop :=
  ∃ (g cap : Nat) (ao : Option Addr) (ci : Nat) (xs : List Value), e = .returned (.agg #[.int .i64 k, .int .i64 x, .string s, .slice (some ⟨g, 0, none⟩) ns.length cap, .slice ao its.length ci]) ∧ Below w.heap.size w w' ∧
    w'.ownsRow w.heap.size 9 1 (.slice (some ⟨g, 0, none⟩) ns.length cap) ns.length (strs ns) ∧ w'.ownsRow w.heap.size 28 5 (.slice ao its.length ci) its.length xs ∧ (Value.slice ao its.length ci).ownBlock ≠ some g ∧
    ∀ W', Agree (fun j => w.heap.size ≤ j ∧ j ≠ g ∧ (Value.slice ao its.length ci).ownBlock ≠ some j) w' W' → ItemsRep W' its xs
def CopyTp (w : World) (box : Array Value) (k x : Int) (s : ByteArray) (ns : List ByteArray) (bw g cap : Nat) (it : Value) (wx : World) : Prop :=
  w.heap.size + 1 < bw ∧ Below w.heap.size w wx ∧ wx.heap[w.heap.size]? = some (.cells box 28 (0, 0)) ∧ wx.heap[w.heap.size + 1]? = some (.cells #[.int .i64 0, .int .i64 0, .string ⟨#[]⟩, .slice none 0 0, .slice none 0 0] 28 (0, 0)) ∧
  wx.heap[bw]? = some (.cells #[.int .i64 k, .int .i64 x, .string s, .slice (some ⟨g, 0, none⟩) ns.length cap, it] 28 (0, 0)) ∧ (wx.ownsRow (w.heap.size + 2) 9 1 (.slice (some ⟨g, 0, none⟩) ns.length cap) ns.length (strs ns) ∧ g ≠ bw ∧ it.ownBlock ≠ some g) ∧ it.ownBlock ≠ some bw
theorem CopyTp.drew {w wr : World} {box : Array Value} {k x : Int} {s : ByteArray} {ns : List ByteArray} {bw g cap : Nat} {it : Value} (h : CopyTp w box k x s ns bw g cap it wr) : CopyTp w box k x s ns bw g cap it wr.drew := by
  obtain ⟨c1, c2, c3, c4, c5, c6, c7⟩ := h
  exact ⟨c1, below_drew c2, c3, c4, c5, c6, c7⟩
theorem copy_fin3 {w Y : World} {box : Array Value} {k x : Int} {s : ByteArray} {ns : List ByteArray} {bw g cap : Nat} (h1 : w.heap.size + 1 < bw) (h2 : Below w.heap.size w Y) (h3 : Y.heap[w.heap.size]? = some (.cells box 28 (0, 0))) (h4 : Y.heap[w.heap.size + 1]? = some (.cells #[.int .i64 0, .int .i64 0, .string ⟨#[]⟩, .slice none 0 0, .slice none 0 0] 28 (0, 0)))
    (h5 : Y.heap[bw]? = some (.cells #[.int .i64 0, .int .i64 0, .string ⟨#[]⟩, .slice none 0 0, .slice none 0 0] 28 (0, 0))) (h6 : Y.ownsRow (w.heap.size + 2) 9 1 (.slice (some ⟨g, 0, none⟩) ns.length cap) ns.length (strs ns)) (h7 : g ≠ bw) :
    CopyTp w box k x s ns bw g cap (.slice none 0 0) (put5 Y bw (.int .i64 k) (.int .i64 x) (.string s) (.slice (some ⟨g, 0, none⟩) ns.length cap) (.slice none 0 0)) :=
  ⟨h1, h2.trans (put5_below (by omega) _ _ _ _ _), (put5_far _ _ _ _ _ (by omega)).trans h3, (put5_far _ _ _ _ _ (by omega)).trans h4, put5_at h5 _ _ _ _ _,
    ⟨ownsRow_keep h6 (fun g' hg' => by cases hg'; exact put5_far _ _ _ _ _ h7), h7, by simp [Value.ownBlock]⟩, by simp [Value.ownBlock]⟩
def ItemsSeen3 (w : World) (bw g : Nat) (it : Value) (ts : List Tr) (xs : List Value) (wr : World) : Prop := ∀ W', Agree (fun j => w.heap.size + 1 < j ∧ j ≠ bw ∧ j ≠ g ∧ it.ownBlock ≠ some j) wr W' → ItemsRep W' ts xs
theorem copy_end3 {w wr : World} {box : Array Value} {k x : Int} {s : ByteArray} {ns : List ByteArray} {bw g cap : Nat} {ao : Option Addr} {ci : Nat} {its : List Tr} {xs : List Value}
    (hC : CopyTp w box k x s ns bw g cap (.slice ao its.length ci) wr) (hown : wr.ownsRow (w.heap.size + 2) 28 5 (.slice ao its.length ci) its.length xs) (hS : ItemsSeen3 w bw g (.slice ao its.length ci) its xs wr) (c0 c1 c2 c3 c4 : Value) :
    CopyTop w k x s ns its (.returned (.agg #[.int .i64 k, .int .i64 x, .string s, .slice (some ⟨g, 0, none⟩) ns.length cap, .slice ao its.length ci])) (put5 wr (w.heap.size + 1) c0 c1 c2 c3 c4) := by
  obtain ⟨b1, hB, b3, b4, b5, ⟨h6, h7, h8⟩, h9⟩ := hC
  have hg := (ownsRow_ge h6 (g := g) rfl).1
  refine ⟨g, cap, ao, ci, xs, rfl, hB.trans (put5_below (by omega) _ _ _ _ _), ownsRow_lo (ownsRow_keep h6 (fun g' hg' => put5_far _ _ _ _ _ (by have := (ownsRow_ge h6 hg').1; omega))) (by omega), ownsRow_lo (ownsRow_keep hown (fun g' hg' => put5_far _ _ _ _ _ (by have := (ownsRow_ge hown hg').1; omega))) (by omega), h8, fun W' hW => ?_⟩
  refine hS W' ⟨by have := hW.1; rw [put5_size] at this; exact this, fun p v hp hv => hW.2 p v ⟨by omega, hp.2.2.1, hp.2.2.2⟩ ?_⟩
  exact (World.cell?_of_block (w := wr) (a := p) (put5_far _ _ _ _ _ (by omega))).trans hv
/-- One round of Copy. -/
theorem copy_step3 {w wr w2 w3 : World} {box : Array Value} {k x : Int} {s : ByteArray} {ns : List ByteArray} {bw g cap : Nat} {ao : Option Addr} {q ci : Nat} {ts : List Tr} {xs : List Value} {u : Tr} {cs : Array Value} {g4 cap4 : Nat}
    (hC : CopyTp w box k x s ns bw g cap (.slice ao q ci) wr) (hown : wr.ownsRow (w.heap.size + 2) 28 5 (.slice ao q ci) q xs) (hS : ItemsSeen3 w bw g (.slice ao q ci) ts xs wr)
    (hu : Seen w2 (fun j => wr.heap.size ≤ j) u cs.toList) (hcs : cs.toList.length = 5) (hb2 : Below wr.heap.size wr w2)
    (hgrow : (w2.alloc (.cells cs 28)).grownBy w3 (Value.slice ao q ci).ownBlock) (hat : (Value.slice ao q ci).ownBlock = some g4 ∨ g4 = (w2.alloc (.cells cs 28)).heap.size)
    (hown3 : w3.ownsRow (w.heap.size + 2) 28 5 (.slice (some ⟨g4, 0, none⟩) (q + 1) cap4) (q + 1) (xs ++ cs.toList)) :
    let w4 := w3.setCell ⟨bw, 4, none⟩ (.slice (some ⟨g4, 0, none⟩) (q + 1) cap4)
    CopyTp w box k x s ns bw g cap (.slice (some ⟨g4, 0, none⟩) (q + 1) cap4) w4 ∧ w4.ownsRow (w.heap.size + 2) 28 5 (.slice (some ⟨g4, 0, none⟩) (q + 1) cap4) (q + 1) (xs ++ cs.toList) ∧ ItemsSeen3 w bw g (.slice (some ⟨g4, 0, none⟩) (q + 1) cap4) (ts ++ [u]) (xs ++ cs.toList) w4 := by
  intro w4
  obtain ⟨c1, c2, c3, c4, c5, ⟨c6, hgbw, hgit⟩, hbne⟩ := hC
  have hgl : g < wr.heap.size := (ownsRow_ge c6 (g := g) rfl).2
  have hbwl : bw < wr.heap.size := (Array.getElem?_eq_some_iff.1 c5).1
  have hbl : w.heap.size + 1 < wr.heap.size := (Array.getElem?_eq_some_iff.1 c4).1
  have hs2 := hb2.size
  have hs3 := hgrow.size
  rw [World.size_alloc] at hs3 hat
  have own_lt : ∀ j, (Value.slice ao q ci).ownBlock = some j → w.heap.size + 2 ≤ j ∧ j < wr.heap.size := fun j hj => ownsRow_ge hown hj
  have g4ne : g4 ≠ bw := by
    rcases hat with h | h
    · intro e; subst e; exact hbne h
    · omega
  have g4g : ¬ g4 = g := by
    rcases hat with h | h
    · intro e; subst e; exact hgit h
    · omega
  have g4lo : w.heap.size + 2 ≤ g4 := (ownsRow_ge hown3 (g := g4) rfl).1
  -- a block that is not the row's
  have far3 : ∀ j, j < wr.heap.size → (Value.slice ao q ci).ownBlock ≠ some j → w3.heap[j]? = wr.heap[j]? := fun j hj hne =>
    (hgrow.block j (by rw [World.size_alloc]; omega) (fun e => hne e.symm)).trans ((Below.heap_alloc w2 _ j (by omega)).trans (hb2.block j hj))
  have far4 : ∀ j, j ≠ bw → w4.heap[j]? = w3.heap[j]? := fun j hj => Below.heap_setCell _ _ _ _ hj
  have hsz4 : w4.heap.size = w3.heap.size := by simp [w4, World.setCell]
  have hB4 : Below w.heap.size w w4 := by
    refine ⟨?_, ?_, ?_, ?_, fun j hj => ?_⟩
    · exact (show w4.os = w3.os from rfl).trans (hgrow.os.trans (hb2.os.trans c2.os))
    · exact (show w4.tape = w3.tape from rfl).trans (hgrow.tape.trans (hb2.tape.trans c2.tape))
    · exact (show w4.output = w3.output from rfl).trans (hgrow.output.trans (hb2.output.trans c2.output))
    · rw [hsz4]; have := c2.size; omega
    · rw [far4 j (by omega), far3 j (by omega) (fun e => by have := own_lt j e; omega)]
      exact c2.block j hj
  have hsee : ∀ W', Agree (fun j => w.heap.size + 1 < j ∧ j ≠ bw ∧ j ≠ g ∧ (Value.slice (some ⟨g4, 0, none⟩) (q + 1) cap4).ownBlock ≠ some j) w4 W' → Agree (fun j => w.heap.size + 1 < j ∧ j ≠ bw ∧ j ≠ g ∧ (Value.slice ao q ci).ownBlock ≠ some j) wr W' ∧ Agree (fun j => wr.heap.size ≤ j) w2 W' := by
    intro W' hW
    refine ⟨⟨by have := hW.1; omega, fun p v hp hv => hW.2 p v ⟨hp.1, hp.2.1, hp.2.2.1, ?_⟩ ?_⟩, ⟨by have := hW.1; omega, fun p v hp hv => hW.2 p v ⟨by omega, by omega, by omega, ?_⟩ ?_⟩⟩
    · intro e
      have : g4 = p.block := by simpa [Value.ownBlock] using e
      rcases hat with h | h
      · exact hp.2.2.2 (by rw [h, this])
      · have := lt_of_cell hv; omega
    · have hl := lt_of_cell hv
      exact (World.cell?_of_block (w := wr) (a := p) ((far4 _ hp.2.1).trans (far3 _ hl hp.2.2.2))).trans hv
    · intro e
      have : g4 = p.block := by simpa [Value.ownBlock] using e
      have hl := lt_of_cell hv
      rcases hat with h | h
      · have := own_lt _ h; omega
      · omega
    · have hl := lt_of_cell hv
      refine (World.cell?_of_block (w := w2) (a := p) ((far4 _ (by omega)).trans ((hgrow.block _ (by rw [World.size_alloc]; omega) (fun e => ?_)).trans (Below.heap_alloc w2 _ _ hl)))).trans hv
      have := own_lt _ e.symm
      omega
  refine ⟨⟨c1, hB4, ?_, ?_, ?_, ⟨ownsRow_keep c6 (fun j hj => by cases hj; exact (far4 _ hgbw).trans (far3 _ hgl hgit)), hgbw, by simp only [Value.ownBlock, ne_eq, Option.some.injEq]; exact g4g⟩, by simp [Value.ownBlock]; exact g4ne⟩, ownsRow_keep hown3 (fun j hj => ?_), fun W' hW => ItemsRep.snoc hcs (hu W' (hsee W' hW).2) (hS W' (hsee W' hW).1)⟩
  · rw [far4 _ (by omega), far3 _ (by omega) (fun e => by have := own_lt _ e; omega)]; exact c3
  · rw [far4 _ (by omega), far3 _ (by omega) (fun e => by have := own_lt _ e; omega)]; exact c4
  · have h3 : w3.heap[bw]? = _ := (far3 bw hbwl hbne).trans c5
    simp [w4, World.setCell, Array.getElem?_modify, h3]
  · cases hj
    exact far4 _ g4ne
set_option maxHeartbeats 8000000 in
set_option maxRecDepth 100000 in
theorem copy_top1 (k x : Int) (s : ByteArray) (an : Option Addr) (cn : Nat) (ns : List ByteArray) (a : Option Addr) (c : Nat) (its : List Tr) (w : World) (hnl : ns.length * 16 ≤ 140737488355328) (hil : its.length * 80 ≤ 140737488355328)
    (hN : Hid (Reads w (.slice an ns.length cn) ns)) (hL : Hid (ItemsAt' w a its)) (hI : Hid (CopyOk its)) :
    Calls Tryz.prog 9 #[.agg #[.int .i64 k, .int .i64 x, .string s, .slice an ns.length cn, .slice a its.length c]] w (CopyTop w k x s ns its) := by
  go_enter Tryz.func9, Tryz.ntmps9
  go_upto_region 1 with fail
  have hB0 : Below w.heap.size w ((w.alloc (.cells #[.int .i64 k, .int .i64 x, .string s, .slice an ns.length cn, .slice a its.length c] 28)).alloc (.cells #[.int .i64 0, .int .i64 0, .string ⟨#[]⟩, .slice none 0 0, .slice none 0 0] 28)) := ((Below.refl _ w).alloc (Nat.le_refl _) _).alloc (by simp) _
  have n1 := new1 w (.cells #[.int .i64 k, .int .i64 x, .string s, .slice an ns.length cn, .slice a its.length c] 28) (.cells #[.int .i64 0, .int .i64 0, .string ⟨#[]⟩, .slice none 0 0, .slice none 0 0] 28)
  have n2 := new2 w (.cells #[.int .i64 k, .int .i64 x, .string s, .slice an ns.length cn, .slice a its.length c] 28) (.cells #[.int .i64 0, .int .i64 0, .string ⟨#[]⟩, .slice none 0 0, .slice none 0 0] 28)
  have hsz : ((w.alloc (.cells #[.int .i64 k, .int .i64 x, .string s, .slice an ns.length cn, .slice a its.length c] 28)).alloc (.cells #[.int .i64 0, .int .i64 0, .string ⟨#[]⟩, .slice none 0 0, .slice none 0 0] 28)).heap.size = w.heap.size + 2 := by simp only [World.size_alloc]
  generalize (w.alloc (.cells #[.int .i64 k, .int .i64 x, .string s, .slice an ns.length cn, .slice a its.length c] 28)).alloc (.cells #[.int .i64 0, .int .i64 0, .string ⟨#[]⟩, .slice none 0 0, .slice none 0 0] 28) = X0 at hB0 n1 n2 hsz
  go_cut [3] (fun p wx => ∃ (bw g cap : Nat), p = .pointer (some ⟨bw, 0, none⟩) ∧ Hid (CopyTp w #[.int .i64 k, .int .i64 x, .string s, .slice an ns.length cn, .slice a its.length c] k x s ns bw g cap (.slice none 0 0) wx))
  case first =>
    replace hB0 : Below w.heap.size w X0.drew := below_drew hB0
    replace n1 : X0.drew.heap[w.heap.size]? = some (.cells #[.int .i64 k, .int .i64 x, .string s, .slice an ns.length cn, .slice a its.length c] 28 (0, 0)) := n1
    replace n2 : X0.drew.heap[w.heap.size + 1]? = some (.cells #[.int .i64 0, .int .i64 0, .string ⟨#[]⟩, .slice none 0 0, .slice none 0 0] 28 (0, 0)) := n2
    replace hsz : X0.drew.heap.size = w.heap.size + 2 := hsz
    generalize hX : X0.drew = X at hB0 n1 n2 hsz
    replace hsz := hid_e hsz
    refine wp_region_noPanic ?_
    refine Until.wp_region_U (fun w' => w'.heap[w.heap.size]? = some (.cells #[.int .i64 k, .int .i64 x, .string s, .slice an ns.length cn, .slice a its.length c] 28 (0, 0))) (fun _ => True) 12 (by kernel_rfl) ?_
    rw [hX]
    clear hX
    refine Until.wpU_pure (i := 0) (oi := { dst := some 5, op := Op.fieldAddr 28 (Operand.tmp 1) 0, type := 0, pos := "print.go:173", after := #[], guard := none }) (v := .pointer (some ⟨w.heap.size, 0, none⟩)) rfl (by kernel_rfl) (by kernel_rfl) (by kernel_rfl) (by kernel_rfl) (by kernel_rfl) (fun _ _ _ h => h) (n1) (fun _ => trivial) (by rfl) (by intro w'; go_simp) ?_
    try simp only [Act.put, List.setIfInBounds_toArray, List.set_cons_zero, List.set_cons_succ]
    refine Until.wpU_load0 (i := 1) (oi := { dst := some 6, op := Op.load 3 (Operand.tmp 5), type := 3, pos := "print.go:173", after := #[{ on := 0, ground := Ground.data }], guard := none }) (v := .int .i64 k) rfl (by kernel_rfl) (by kernel_rfl) (by kernel_rfl) (by kernel_rfl) (by kernel_rfl) (fun _ _ _ h => h) (n1) (fun _ => trivial) (by rfl) (by intro w' hw'; obtain ⟨t0, t1, t2, t3, t4, -⟩ := row_cells hw'; go_simp) ?_
    try simp only [Act.put, List.setIfInBounds_toArray, List.set_cons_zero, List.set_cons_succ]
    refine Until.wpU_pure (i := 2) (oi := { dst := some 7, op := Op.fieldAddr 28 (Operand.tmp 1) 1, type := 0, pos := "print.go:173", after := #[], guard := none }) (v := .pointer (some ⟨w.heap.size, 1, none⟩)) rfl (by kernel_rfl) (by kernel_rfl) (by kernel_rfl) (by kernel_rfl) (by kernel_rfl) (fun _ _ _ h => h) (n1) (fun _ => trivial) (by rfl) (by intro w'; go_simp) ?_
    try simp only [Act.put, List.setIfInBounds_toArray, List.set_cons_zero, List.set_cons_succ]
    refine Until.wpU_load0 (i := 3) (oi := { dst := some 8, op := Op.load 2 (Operand.tmp 7), type := 2, pos := "print.go:173", after := #[{ on := 2, ground := Ground.data }], guard := none }) (v := .int .i64 x) rfl (by kernel_rfl) (by kernel_rfl) (by kernel_rfl) (by kernel_rfl) (by kernel_rfl) (fun _ _ _ h => h) (n1) (fun _ => trivial) (by rfl) (by intro w' hw'; obtain ⟨t0, t1, t2, t3, t4, -⟩ := row_cells hw'; go_simp) ?_
    try simp only [Act.put, List.setIfInBounds_toArray, List.set_cons_zero, List.set_cons_succ]
    refine Until.wpU_pure (i := 4) (oi := { dst := some 9, op := Op.fieldAddr 28 (Operand.tmp 1) 2, type := 0, pos := "print.go:173", after := #[], guard := none }) (v := .pointer (some ⟨w.heap.size, 2, none⟩)) rfl (by kernel_rfl) (by kernel_rfl) (by kernel_rfl) (by kernel_rfl) (by kernel_rfl) (fun _ _ _ h => h) (n1) (fun _ => trivial) (by rfl) (by intro w'; go_simp) ?_
    try simp only [Act.put, List.setIfInBounds_toArray, List.set_cons_zero, List.set_cons_succ]
    refine Until.wpU_load0 (i := 5) (oi := { dst := some 10, op := Op.load 9 (Operand.tmp 9), type := 9, pos := "print.go:173", after := #[{ on := 4, ground := Ground.data }], guard := none }) (v := .string s) rfl (by kernel_rfl) (by kernel_rfl) (by kernel_rfl) (by kernel_rfl) (by kernel_rfl) (fun _ _ _ h => h) (n1) (fun _ => trivial) (by rfl) (by intro w' hw'; obtain ⟨t0, t1, t2, t3, t4, -⟩ := row_cells hw'; go_simp) ?_
    try simp only [Act.put, List.setIfInBounds_toArray, List.set_cons_zero, List.set_cons_succ]
    refine Until.wpU_pure (i := 7) (oi := { dst := some 12, op := Op.fieldAddr 28 (Operand.tmp 1) 3, type := 0, pos := "print.go:173", after := #[], guard := none }) (v := .pointer (some ⟨w.heap.size, 3, none⟩)) rfl (by kernel_rfl) (by kernel_rfl) (by kernel_rfl) (by kernel_rfl) (by kernel_rfl) (fun _ _ _ h => h) (n1) (fun _ => trivial) (by rfl) (by intro w'; go_simp) ?_
    try simp only [Act.put, List.setIfInBounds_toArray, List.set_cons_zero, List.set_cons_succ]
    refine Until.wpU_load0 (i := 8) (oi := { dst := some 13, op := Op.load 25 (Operand.tmp 12), type := 25, pos := "print.go:173", after := #[{ on := 7, ground := Ground.data }], guard := none }) (v := .slice an ns.length cn) rfl (by kernel_rfl) (by kernel_rfl) (by kernel_rfl) (by kernel_rfl) (by kernel_rfl) (fun _ _ _ h => h) (n1) (fun _ => trivial) (by rfl) (by intro w' hw'; obtain ⟨t0, t1, t2, t3, t4, -⟩ := row_cells hw'; go_simp) ?_
    try simp only [Act.put, List.setIfInBounds_toArray, List.set_cons_zero, List.set_cons_succ]
    refine Until.wpU_ready (rs := [6, 11]) (by kernel_rfl) (by simp) ?_
    refine (Until.AllU.cons (o := { dst := some 11, op := Op.buildSlice 25 0 #[], type := 25, pos := "print.go:173", after := #[], guard := none }) rfl (fun K hK => ?_) (Until.AllU.cons (o := { dst := some 3, op := Op.alloc 28, type := 0, pos := "print.go:173", after := #[], guard := none }) rfl (fun K hK => ?_) Until.AllU.nil))
    · go_simp
      have e1 := (Below.heap_alloc X (.cells #[] 9) w.heap.size (by have := hsz.out; omega)).trans n1
      have e2 := (Below.heap_alloc X (.cells #[] 9) (w.heap.size + 1) (by have := hsz.out; omega)).trans n2
      refine hK.out _ _ e1 (fun _ => trivial) ?_
      clear hK K
      try simp only [Act.put, List.setIfInBounds_toArray, List.set_cons_zero, List.set_cons_succ]
      refine Until.wpU_ready (rs := [9, 11]) (by kernel_rfl) (by simp) ?_
      refine (Until.AllU.cons (o := { dst := some 14, op := Op.call { callee := Callee.builtin Builtin.append, args := #[Operand.tmp 11, Operand.tmp 13], argTypes := #[25, 25] }, type := 25, pos := "print.go:173", after := #[{ on := 6, ground := Ground.data }, { on := 8, ground := Ground.data }], guard := none }) rfl (fun K hK => ?_) (Until.AllU.cons (o := { dst := some 3, op := Op.alloc 28, type := 0, pos := "print.go:173", after := #[], guard := none }) rfl (fun K hK => ?_) Until.AllU.nil))
      · refine step_append_texts _ (by rfl) _ _ (by rfl) X.heap.size X.heap.size (owns_empty X) (by rfl) _ ns (by rfl) (hN.out.keep (hB0.alloc (by have := hsz.out; omega) _)) hnl (by simp only [World.size_alloc]; omega) ?_
        intro g cap Y hown hgrow hat
        have f1 := (hgrow.block w.heap.size (by simp only [World.size_alloc]; have := hsz.out; omega) (by have := hsz.out; simp; omega)).trans e1
        have f2 := (hgrow.block (w.heap.size + 1) (by simp only [World.size_alloc]; have := hsz.out; omega) (by have := hsz.out; simp; omega)).trans e2
        have hYs : w.heap.size + 3 ≤ Y.heap.size := by have := hgrow.size; simp only [World.size_alloc] at this; have := hsz.out; omega
        have hBY : Below w.heap.size w Y := (hB0.alloc (by have := hsz.out; omega) _).trans (grown_below hgrow (by simp only [World.size_alloc]; have := hsz.out; omega) (fun g hg => by cases hg; have := hsz.out; omega))
        replace hown := ownsRow_lo hown (show w.heap.size + 2 ≤ X.heap.size by have := hsz.out; omega)
        clear hat hgrow
        refine hK.out _ _ f1 (fun _ => trivial) ?_
        clear hK K
        try simp only [Act.put, List.setIfInBounds_toArray, List.set_cons_zero, List.set_cons_succ]
        refine Until.wpU_pure (i := 10) (oi := { dst := some 15, op := Op.build 28 #[(0, Operand.tmp 6), (1, Operand.tmp 8), (2, Operand.tmp 10), (3, Operand.tmp 14)], type := 28, pos := "print.go:173", after := #[{ on := 1, ground := Ground.data }, { on := 3, ground := Ground.data }, { on := 5, ground := Ground.data }, { on := 9, ground := Ground.data }], guard := none }) (v := .agg #[.int .i64 k, .int .i64 x, .string s, .slice (some ⟨g, 0, none⟩) ns.length cap, .slice none 0 0]) rfl (by kernel_rfl) (by kernel_rfl) (by kernel_rfl) (by kernel_rfl) (by kernel_rfl) (fun _ _ _ h => h) (f1) (fun _ => trivial) (by rfl) (by intro w'; go_simp) ?_
        try simp only [Act.put, List.setIfInBounds_toArray, List.set_cons_zero, List.set_cons_succ]
        refine Until.wpU_ready (rs := [11]) (by kernel_rfl) (by simp) ?_
        refine (Until.AllU.cons (o := { dst := some 3, op := Op.alloc 28, type := 0, pos := "print.go:173", after := #[], guard := none }) rfl (fun K hK => ?_) Until.AllU.nil)
        go_simp
        have q1 := (Below.heap_alloc Y (.cells #[.int .i64 0, .int .i64 0, .string ⟨#[]⟩, .slice none 0 0, .slice none 0 0] 28) w.heap.size (by omega)).trans f1
        have q2 := (Below.heap_alloc Y (.cells #[.int .i64 0, .int .i64 0, .string ⟨#[]⟩, .slice none 0 0, .slice none 0 0] 28) (w.heap.size + 1) (by omega)).trans f2
        have q3 := heap_alloc_new Y (.cells #[.int .i64 0, .int .i64 0, .string ⟨#[]⟩, .slice none 0 0, .slice none 0 0] 28)
        have hgY := (ownsRow_ge hown (g := g) rfl).2
        have hBZ : Below w.heap.size w (Y.alloc (.cells #[.int .i64 0, .int .i64 0, .string ⟨#[]⟩, .slice none 0 0, .slice none 0 0] 28)) := hBY.alloc (by omega) _
        have hfin := fun (_ : Unit) => copy_fin3 (w := w) (Y := Y.alloc (.cells #[.int .i64 0, .int .i64 0, .string ⟨#[]⟩, .slice none 0 0, .slice none 0 0] 28)) (bw := Y.heap.size) (k := k) (x := x) (s := s) (by omega) hBZ q1 q2 q3 (hown.alloc _) (by omega)
        refine hK.out _ _ q1 (fun _ => trivial) ?_
        clear hK K
        try simp only [Act.put, List.setIfInBounds_toArray, List.set_cons_zero, List.set_cons_succ]
        generalize Y.alloc (.cells #[.int .i64 0, .int .i64 0, .string ⟨#[]⟩, .slice none 0 0, .slice none 0 0] 28) = Z at q1 q2 q3 hBZ hfin ⊢
        obtain ⟨z0, z1, z2, z3, z4, zf⟩ := row_cells q3
        have zf0 := zf 0; have zf1 := zf 1; have zf2 := zf 2; have zf3 := zf 3; have zf4 := zf 4
        clear zf
        refine Until.wpU_ready (rs := [12]) (by kernel_rfl) (by simp) ?_
        refine (Until.AllU.cons (o := { dst := none, op := Op.store 28 (Operand.tmp 3) (Operand.tmp 15), type := 0, pos := "print.go:173", after := #[{ on := 11, ground := Ground.data }, { on := 10, ground := Ground.data }, { on := 9, ground := Ground.chain }, { on := 0, ground := Ground.phase }, { on := 1, ground := Ground.phase }, { on := 2, ground := Ground.phase }, { on := 3, ground := Ground.phase }, { on := 4, ground := Ground.phase }, { on := 5, ground := Ground.phase }, { on := 6, ground := Ground.phase }, { on := 7, ground := Ground.phase }, { on := 8, ground := Ground.phase }, { on := 9, ground := Ground.phase }, { on := 10, ground := Ground.phase }, { on := 11, ground := Ground.phase }], guard := none }) rfl (fun K hK => ?_) Until.AllU.nil)
        go_simp
        have hp := (put5_far (w := Z) (g := Y.heap.size) (.int .i64 k) (.int .i64 x) (.string s) (.slice (some ⟨g, 0, none⟩) ns.length cap) (.slice none 0 0) (show w.heap.size ≠ Y.heap.size by have := hsz.out; omega)).trans q1
        refine hK.out _ _ hp (fun _ => trivial) ?_
        clear hK K z0 z1 z2 z3 z4 zf0 zf1 zf2 zf3 zf4
        try simp only [Act.put, List.setIfInBounds_toArray, List.set_cons_zero, List.set_cons_succ]
        refine Until.wpU_done (by kernel_rfl) ?_ _
        refine NoPanic.normal ?_
        go_wp2_with fail
        go_meet
        exact ⟨_, g, cap, rfl, hid_e (hfin ())⟩
      · go_simp
        have q1 := (Below.heap_alloc (X.alloc (.cells #[] 9)) (.cells #[.int .i64 0, .int .i64 0, .string ⟨#[]⟩, .slice none 0 0, .slice none 0 0] 28) w.heap.size (by simp only [World.size_alloc]; have := hsz.out; omega)).trans e1
        have q2 := (Below.heap_alloc (X.alloc (.cells #[] 9)) (.cells #[.int .i64 0, .int .i64 0, .string ⟨#[]⟩, .slice none 0 0, .slice none 0 0] 28) (w.heap.size + 1) (by simp only [World.size_alloc]; have := hsz.out; omega)).trans e2
        refine hK.out _ _ q1 (fun _ => trivial) ?_
        clear hK K
        try simp only [Act.put, List.setIfInBounds_toArray, List.set_cons_zero, List.set_cons_succ]
        refine Until.wpU_ready (rs := [9]) (by kernel_rfl) (by simp) ?_
        refine (Until.AllU.cons (o := { dst := some 14, op := Op.call { callee := Callee.builtin Builtin.append, args := #[Operand.tmp 11, Operand.tmp 13], argTypes := #[25, 25] }, type := 25, pos := "print.go:173", after := #[{ on := 6, ground := Ground.data }, { on := 8, ground := Ground.data }], guard := none }) rfl (fun K hK => ?_) Until.AllU.nil)
        refine step_append_texts _ (by rfl) _ _ (by rfl) X.heap.size X.heap.size ((owns_empty X).alloc _) (by rfl) _ ns (by rfl) (hN.out.keep ((hB0.alloc (by have := hsz.out; omega) _).alloc (by simp only [World.size_alloc]; have := hsz.out; omega) _)) hnl (by simp only [World.size_alloc]; omega) ?_
        intro g cap Y hown hgrow hat
        have f1 := (hgrow.block w.heap.size (by simp only [World.size_alloc]; have := hsz.out; omega) (by have := hsz.out; simp; omega)).trans q1
        have f2 := (hgrow.block (w.heap.size + 1) (by simp only [World.size_alloc]; have := hsz.out; omega) (by have := hsz.out; simp; omega)).trans q2
        have f3 := (hgrow.block (X.alloc (.cells #[] 9)).heap.size (by simp only [World.size_alloc]; omega) (by simp only [World.size_alloc]; simp)).trans (heap_alloc_new (X.alloc (.cells #[] 9)) (.cells #[.int .i64 0, .int .i64 0, .string ⟨#[]⟩, .slice none 0 0, .slice none 0 0] 28))
        have hBY : Below w.heap.size w Y := ((hB0.alloc (by have := hsz.out; omega) _).alloc (by simp only [World.size_alloc]; have := hsz.out; omega) _).trans (grown_below hgrow (by simp only [World.size_alloc]; have := hsz.out; omega) (fun g hg => by cases hg; have := hsz.out; omega))
        replace hown := ownsRow_lo hown (show w.heap.size + 2 ≤ X.heap.size by have := hsz.out; omega)
        rw [World.size_alloc] at f3
        have hfin := fun (_ : Unit) => copy_fin3 (w := w) (Y := Y) (bw := X.heap.size + 1) (k := k) (x := x) (s := s) (by have := hsz.out; omega) hBY f1 f2 f3 hown (by simp only [World.size_alloc] at hat; omega)
        have q3 := f3
        clear hat hgrow
        refine hK.out _ _ f1 (fun _ => trivial) ?_
        clear hK K
        try simp only [Act.put, List.setIfInBounds_toArray, List.set_cons_zero, List.set_cons_succ]
        refine Until.wpU_pure (i := 10) (oi := { dst := some 15, op := Op.build 28 #[(0, Operand.tmp 6), (1, Operand.tmp 8), (2, Operand.tmp 10), (3, Operand.tmp 14)], type := 28, pos := "print.go:173", after := #[{ on := 1, ground := Ground.data }, { on := 3, ground := Ground.data }, { on := 5, ground := Ground.data }, { on := 9, ground := Ground.data }], guard := none }) (v := .agg #[.int .i64 k, .int .i64 x, .string s, .slice (some ⟨g, 0, none⟩) ns.length cap, .slice none 0 0]) rfl (by kernel_rfl) (by kernel_rfl) (by kernel_rfl) (by kernel_rfl) (by kernel_rfl) (fun _ _ _ h => h) (f1) (fun _ => trivial) (by rfl) (by intro w'; go_simp) ?_
        try simp only [Act.put, List.setIfInBounds_toArray, List.set_cons_zero, List.set_cons_succ]
        obtain ⟨z0, z1, z2, z3, z4, zf⟩ := row_cells q3
        have zf0 := zf 0; have zf1 := zf 1; have zf2 := zf 2; have zf3 := zf 3; have zf4 := zf 4
        clear zf
        refine Until.wpU_ready (rs := [12]) (by kernel_rfl) (by simp) ?_
        refine (Until.AllU.cons (o := { dst := none, op := Op.store 28 (Operand.tmp 3) (Operand.tmp 15), type := 0, pos := "print.go:173", after := #[{ on := 11, ground := Ground.data }, { on := 10, ground := Ground.data }, { on := 9, ground := Ground.chain }, { on := 0, ground := Ground.phase }, { on := 1, ground := Ground.phase }, { on := 2, ground := Ground.phase }, { on := 3, ground := Ground.phase }, { on := 4, ground := Ground.phase }, { on := 5, ground := Ground.phase }, { on := 6, ground := Ground.phase }, { on := 7, ground := Ground.phase }, { on := 8, ground := Ground.phase }, { on := 9, ground := Ground.phase }, { on := 10, ground := Ground.phase }, { on := 11, ground := Ground.phase }], guard := none }) rfl (fun K hK => ?_) Until.AllU.nil)
        go_simp
        have hp := (put5_far (w := Y) (g := (X.heap.size + 1)) (.int .i64 k) (.int .i64 x) (.string s) (.slice (some ⟨g, 0, none⟩) ns.length cap) (.slice none 0 0) (show w.heap.size ≠ (X.heap.size + 1) by have := hsz.out; omega)).trans f1
        refine hK.out _ _ hp (fun _ => trivial) ?_
        clear hK K z0 z1 z2 z3 z4 zf0 zf1 zf2 zf3 zf4
        try simp only [Act.put, List.setIfInBounds_toArray, List.set_cons_zero, List.set_cons_succ]
        refine Until.wpU_done (by kernel_rfl) ?_ _
        refine NoPanic.normal ?_
        go_wp2_with fail
        go_meet
        exact ⟨_, g, cap, rfl, hid_e (hfin ())⟩
    · go_simp
      have e1 := (Below.heap_alloc X (.cells #[.int .i64 0, .int .i64 0, .string ⟨#[]⟩, .slice none 0 0, .slice none 0 0] 28) w.heap.size (by have := hsz.out; omega)).trans n1
      have e2 := (Below.heap_alloc X (.cells #[.int .i64 0, .int .i64 0, .string ⟨#[]⟩, .slice none 0 0, .slice none 0 0] 28) (w.heap.size + 1) (by have := hsz.out; omega)).trans n2
      refine hK.out _ _ e1 (fun _ => trivial) ?_
      clear hK K
      try simp only [Act.put, List.setIfInBounds_toArray, List.set_cons_zero, List.set_cons_succ]
      refine Until.wpU_ready (rs := [6]) (by kernel_rfl) (by simp) ?_
      refine (Until.AllU.cons (o := { dst := some 11, op := Op.buildSlice 25 0 #[], type := 25, pos := "print.go:173", after := #[], guard := none }) rfl (fun K hK => ?_) Until.AllU.nil)
      go_simp
      have q1 := (Below.heap_alloc (X.alloc (.cells #[.int .i64 0, .int .i64 0, .string ⟨#[]⟩, .slice none 0 0, .slice none 0 0] 28)) (.cells #[] 9) w.heap.size (by simp only [World.size_alloc]; have := hsz.out; omega)).trans e1
      have q2 := (Below.heap_alloc (X.alloc (.cells #[.int .i64 0, .int .i64 0, .string ⟨#[]⟩, .slice none 0 0, .slice none 0 0] 28)) (.cells #[] 9) (w.heap.size + 1) (by simp only [World.size_alloc]; have := hsz.out; omega)).trans e2
      refine hK.out _ _ q1 (fun _ => trivial) ?_
      clear hK K
      try simp only [Act.put, List.setIfInBounds_toArray, List.set_cons_zero, List.set_cons_succ]
      refine Until.wpU_ready (rs := [9]) (by kernel_rfl) (by simp) ?_
      refine (Until.AllU.cons (o := { dst := some 14, op := Op.call { callee := Callee.builtin Builtin.append, args := #[Operand.tmp 11, Operand.tmp 13], argTypes := #[25, 25] }, type := 25, pos := "print.go:173", after := #[{ on := 6, ground := Ground.data }, { on := 8, ground := Ground.data }], guard := none }) rfl (fun K hK => ?_) Until.AllU.nil)
      refine step_append_texts _ (by rfl) _ _ (by rfl) (X.heap.size + 1) (X.heap.size + 1) (by have := owns_empty (X.alloc (.cells #[.int .i64 0, .int .i64 0, .string ⟨#[]⟩, .slice none 0 0, .slice none 0 0] 28)); rw [World.size_alloc] at this; exact this) (by rfl) _ ns (by rfl) (hN.out.keep ((hB0.alloc (by have := hsz.out; omega) _).alloc (by simp only [World.size_alloc]; have := hsz.out; omega) _)) hnl (by simp only [World.size_alloc]; omega) ?_
      intro g cap Y hown hgrow hat
      have f1 := (hgrow.block w.heap.size (by simp only [World.size_alloc]; have := hsz.out; omega) (by have := hsz.out; simp; omega)).trans q1
      have f2 := (hgrow.block (w.heap.size + 1) (by simp only [World.size_alloc]; have := hsz.out; omega) (by have := hsz.out; simp; omega)).trans q2
      have f3 := (hgrow.block X.heap.size (by simp only [World.size_alloc]; omega) (by simp)).trans ((Below.heap_alloc (X.alloc (.cells #[.int .i64 0, .int .i64 0, .string ⟨#[]⟩, .slice none 0 0, .slice none 0 0] 28)) (.cells #[] 9) X.heap.size (by simp only [World.size_alloc]; omega)).trans (heap_alloc_new X (.cells #[.int .i64 0, .int .i64 0, .string ⟨#[]⟩, .slice none 0 0, .slice none 0 0] 28)))
      have hBY : Below w.heap.size w Y := ((hB0.alloc (by have := hsz.out; omega) _).alloc (by simp only [World.size_alloc]; have := hsz.out; omega) _).trans (grown_below hgrow (by simp only [World.size_alloc]; have := hsz.out; omega) (fun g hg => by cases hg; have := hsz.out; omega))
      replace hown := ownsRow_lo hown (show w.heap.size + 2 ≤ X.heap.size + 1 by have := hsz.out; omega)
      have hfin := fun (_ : Unit) => copy_fin3 (w := w) (Y := Y) (bw := X.heap.size) (k := k) (x := x) (s := s) (by have := hsz.out; omega) hBY f1 f2 f3 hown (by simp only [World.size_alloc] at hat; omega)
      have q3 := f3
      clear hat hgrow
      refine hK.out _ _ f1 (fun _ => trivial) ?_
      clear hK K
      try simp only [Act.put, List.setIfInBounds_toArray, List.set_cons_zero, List.set_cons_succ]
      refine Until.wpU_pure (i := 10) (oi := { dst := some 15, op := Op.build 28 #[(0, Operand.tmp 6), (1, Operand.tmp 8), (2, Operand.tmp 10), (3, Operand.tmp 14)], type := 28, pos := "print.go:173", after := #[{ on := 1, ground := Ground.data }, { on := 3, ground := Ground.data }, { on := 5, ground := Ground.data }, { on := 9, ground := Ground.data }], guard := none }) (v := .agg #[.int .i64 k, .int .i64 x, .string s, .slice (some ⟨g, 0, none⟩) ns.length cap, .slice none 0 0]) rfl (by kernel_rfl) (by kernel_rfl) (by kernel_rfl) (by kernel_rfl) (by kernel_rfl) (fun _ _ _ h => h) (f1) (fun _ => trivial) (by rfl) (by intro w'; go_simp) ?_
      try simp only [Act.put, List.setIfInBounds_toArray, List.set_cons_zero, List.set_cons_succ]
      obtain ⟨z0, z1, z2, z3, z4, zf⟩ := row_cells q3
      have zf0 := zf 0; have zf1 := zf 1; have zf2 := zf 2; have zf3 := zf 3; have zf4 := zf 4
      clear zf
      refine Until.wpU_ready (rs := [12]) (by kernel_rfl) (by simp) ?_
      refine (Until.AllU.cons (o := { dst := none, op := Op.store 28 (Operand.tmp 3) (Operand.tmp 15), type := 0, pos := "print.go:173", after := #[{ on := 11, ground := Ground.data }, { on := 10, ground := Ground.data }, { on := 9, ground := Ground.chain }, { on := 0, ground := Ground.phase }, { on := 1, ground := Ground.phase }, { on := 2, ground := Ground.phase }, { on := 3, ground := Ground.phase }, { on := 4, ground := Ground.phase }, { on := 5, ground := Ground.phase }, { on := 6, ground := Ground.phase }, { on := 7, ground := Ground.phase }, { on := 8, ground := Ground.phase }, { on := 9, ground := Ground.phase }, { on := 10, ground := Ground.phase }, { on := 11, ground := Ground.phase }], guard := none }) rfl (fun K hK => ?_) Until.AllU.nil)
      go_simp
      have hp := (put5_far (w := Y) (g := X.heap.size) (.int .i64 k) (.int .i64 x) (.string s) (.slice (some ⟨g, 0, none⟩) ns.length cap) (.slice none 0 0) (show w.heap.size ≠ X.heap.size by have := hsz.out; omega)).trans f1
      refine hK.out _ _ hp (fun _ => trivial) ?_
      clear hK K z0 z1 z2 z3 z4 zf0 zf1 zf2 zf3 zf4
      try simp only [Act.put, List.setIfInBounds_toArray, List.set_cons_zero, List.set_cons_succ]
      refine Until.wpU_done (by kernel_rfl) ?_ _
      refine NoPanic.normal ?_
      go_wp2_with fail
      go_meet
      exact ⟨_, g, cap, rfl, hid_e (hfin ())⟩
  case rest =>
    clear hB0 n1 n2 hsz
    obtain ⟨bw, g, cap, rfl, hC0⟩ := hcut
    obtain ⟨i0, hi, hz0, hz1, hz2⟩ := info_parts AV
    go_wp2_with fail
    go_loopw [4] (fun i wr => ∃ (q : Nat) (ao : Option Addr) (ci : Nat) (xs : List Value), q ≤ its.length ∧ i = .int .i64 q ∧ Hid (CopyTp w #[.int .i64 k, .int .i64 x, .string s, .slice an ns.length cn, .slice a its.length c] k x s ns bw g cap (.slice ao q ci) wr) ∧ Hid (wr.ownsRow (w.heap.size + 2) 28 5 (.slice ao q ci) q xs) ∧ Hid (ItemsSeen3 w bw g (.slice ao q ci) (its.take q) xs wr)) (fun i _ => its.length - (intOf i).toNat)
    case atStart => exact ⟨0, none, 0, [], Nat.zero_le _, rfl, hC0, World.ownsRow_nil _ _ _ _, fun _ _ => by simp [ItemsRep]⟩
    case round =>
      clear hC0
      obtain ⟨q, ao, ci, xs, hq, rfl, hC, hown, hS⟩ := hrel
      obtain ⟨c1, c2, c3, c4, c5, c6, c7⟩ := hC.out
      clear c6
      obtain ⟨-, -, -, -, y4, -⟩ := row_cells c3
      by_cases hlt : q < its.length
      · have hd : decide ((q : Int) < (its.length : Int)) = true := by simp; omega
        obtain ⟨u, hu⟩ : ∃ u, Hid (its[q]? = some u) := ⟨_, List.getElem?_eq_getElem hlt⟩
        obtain ⟨b, o, rfl, hb, hV⟩ := hL.out.resolve_left (by intro e; subst e; simp at hlt)
        obtain ⟨cs, hCs, h2⟩ := VRepL.at its o q u hV hu.out
        obtain ⟨k2, x2, s2, an2, ln2, cn2, ai2, li2, ci2, rfl⟩ := vrep_five h2
        have m0 := hCs 0 _ rfl
        have m1 := hCs 1 _ rfl
        have m2 := hCs 2 _ rfl
        have m3 := hCs 3 _ rfl
        have m4 := hCs 4 _ rfl
        simp only [Nat.add_zero] at m0
        have hcall := hid_e (fun W (hW : Below w.heap.size w W) => hI.out q u hu.out _ W (VRep.keep hW _ _ h2))
        clear hV hCs h2
        go_wp2_with fail
        clear y4
        have i1 : (q : Int) < (its.length : Int) := by omega
        have i2 : (0 : Int) ≤ (q : Int) := by omega
        have hbl : Hid (w.heap.size + 1 < wr.heap.size) := (Array.getElem?_eq_some_iff.1 c4).1
        replace c2 : Below w.heap.size w wr.drew := below_drew c2
        replace c3 : wr.drew.heap[w.heap.size]? = some (.cells #[.int .i64 k, .int .i64 x, .string s, .slice an ns.length cn, .slice (some ⟨b, o, none⟩) its.length c] 28 (0, 0)) := c3
        replace c5 : wr.drew.heap[bw]? = some (.cells #[.int .i64 k, .int .i64 x, .string s, .slice (some ⟨g, 0, none⟩) ns.length cap, .slice ao q ci] 28 (0, 0)) := c5
        replace hC : Hid (CopyTp w #[.int .i64 k, .int .i64 x, .string s, .slice an ns.length cn, .slice (some ⟨b, o, none⟩) its.length c] k x s ns bw g cap (.slice ao q ci) wr.drew) := CopyTp.drew hC.out
        replace hown : Hid (wr.drew.ownsRow (w.heap.size + 2) 28 5 (.slice ao q ci) q xs) := hown
        replace hS : Hid (ItemsSeen3 w bw g (.slice ao q ci) (its.take q) xs wr.drew) := hS
        replace hbl : Hid (w.heap.size + 1 < wr.drew.heap.size) := hbl
        clear c4 c7
        generalize hX : wr.drew = X at c2 c3 c5 hC hown hS hbl
        refine wp_region_noPanic ?_
        refine Until.wp_region_U (fun w' => Below w.heap.size w w' ∧ w'.heap[w.heap.size]? = some (.cells #[.int .i64 k, .int .i64 x, .string s, .slice an ns.length cn, .slice (some ⟨b, o, none⟩) its.length c] 28 (0, 0))) (fun w' => w'.heap[bw]? = some (.cells #[.int .i64 k, .int .i64 x, .string s, .slice (some ⟨g, 0, none⟩) ns.length cap, .slice ao q ci] 28 (0, 0))) 11 (by kernel_rfl) ?_
        rw [hX]
        clear hX
        refine Until.wpU_pure (i := 0) (oi := { dst := some 23, op := Op.fieldAddr 28 (Operand.tmp 3) 4, type := 0, pos := "print.go:175", after := #[], guard := none }) (v := .pointer (some ⟨bw, 4, none⟩)) rfl (by kernel_rfl) (by kernel_rfl) (by kernel_rfl) (by kernel_rfl) (by kernel_rfl) (fun _ _ _ h => h) (⟨c2, c3⟩) (fun _ => c5) (by rfl) (by intro w'; go_simp) ?_
        try simp only [Act.put, List.setIfInBounds_toArray, List.set_cons_zero, List.set_cons_succ]
        refine Until.wpU_load1 (i := 1) (oi := { dst := some 24, op := Op.load 26 (Operand.tmp 23), type := 26, pos := "print.go:175", after := #[{ on := 0, ground := Ground.data }], guard := none }) (v := .slice ao q ci) rfl (by kernel_rfl) (by kernel_rfl) (by kernel_rfl) (by kernel_rfl) (by kernel_rfl) (by kernel_rfl) (fun _ _ _ h => h) (⟨c2, c3⟩) (c5) (by rfl) (by intro w' hw'; obtain ⟨t0, t1, t2, t3, t4, -⟩ := row_cells hw'; go_simp) ?_
        try simp only [Act.put, List.setIfInBounds_toArray, List.set_cons_zero, List.set_cons_succ]
        refine Until.wpU_pure (i := 2) (oi := { dst := some 25, op := Op.fieldAddr 28 (Operand.tmp 1) 4, type := 0, pos := "print.go:175", after := #[], guard := none }) (v := .pointer (some ⟨w.heap.size, 4, none⟩)) rfl (by kernel_rfl) (by kernel_rfl) (by kernel_rfl) (by kernel_rfl) (by kernel_rfl) (fun _ _ _ h => h) (⟨c2, c3⟩) (fun _ => c5) (by rfl) (by intro w'; go_simp) ?_
        try simp only [Act.put, List.setIfInBounds_toArray, List.set_cons_zero, List.set_cons_succ]
        refine Until.wpU_load0 (i := 3) (oi := { dst := some 26, op := Op.load 26 (Operand.tmp 25), type := 26, pos := "print.go:175", after := #[{ on := 2, ground := Ground.data }], guard := none }) (v := .slice (some ⟨b, o, none⟩) its.length c) rfl (by kernel_rfl) (by kernel_rfl) (by kernel_rfl) (by kernel_rfl) (by kernel_rfl) (fun _ _ _ h => h) (⟨c2, c3⟩) (fun _ => c5) (by rfl) (by intro w' hw'; obtain ⟨t0, t1, t2, t3, t4, -⟩ := row_cells hw'.2; go_simp) ?_
        try simp only [Act.put, List.setIfInBounds_toArray, List.set_cons_zero, List.set_cons_succ]
        refine Until.wpU_pure (i := 4) (oi := { dst := some 27, op := Op.move (Operand.tmp 4), type := 3, pos := "print.go:175", after := #[], guard := none }) (v := .int .i64 q) rfl (by kernel_rfl) (by kernel_rfl) (by kernel_rfl) (by kernel_rfl) (by kernel_rfl) (fun _ _ _ h => h) (⟨c2, c3⟩) (fun _ => c5) (by rfl) (by intro w'; go_simp) ?_
        try simp only [Act.put, List.setIfInBounds_toArray, List.set_cons_zero, List.set_cons_succ]
        refine Until.wpU_pure (i := 5) (oi := { dst := some 28, op := Op.indexAddr 26 (Operand.tmp 26) (Operand.tmp 27), type := 0, pos := "print.go:175", after := #[{ on := 3, ground := Ground.data }, { on := 4, ground := Ground.data }], guard := none }) (v := .pointer (some ⟨b, o + q * 5, none⟩)) rfl (by kernel_rfl) (by kernel_rfl) (by kernel_rfl) (by kernel_rfl) (by kernel_rfl) (fun _ _ _ h => h) (⟨c2, c3⟩) (fun _ => c5) (by rfl) (by intro w'; go_simp) ?_
        try simp only [Act.put, List.setIfInBounds_toArray, List.set_cons_zero, List.set_cons_succ]
        refine Until.wpU_load0 (i := 6) (oi := { dst := some 29, op := Op.load 28 (Operand.tmp 28), type := 28, pos := "print.go:175", after := #[{ on := 5, ground := Ground.data }], guard := none }) (v := .agg #[.int .i64 k2, .int .i64 x2, .string s2, .slice an2 ln2 cn2, .slice ai2 li2 ci2]) rfl (by kernel_rfl) (by kernel_rfl) (by kernel_rfl) (by kernel_rfl) (by kernel_rfl) (fun _ _ _ h => h) (⟨c2, c3⟩) (fun _ => c5) (by rfl) (by intro w' hw'; have t0 := (hw'.1.cell (p := ⟨b, o + q * 5, none⟩) hb).trans m0; have t1 := (hw'.1.cell (p := ⟨b, o + q * 5 + 1, none⟩) hb).trans m1; have t2 := (hw'.1.cell (p := ⟨b, o + q * 5 + 2, none⟩) hb).trans m2; have t3 := (hw'.1.cell (p := ⟨b, o + q * 5 + 3, none⟩) hb).trans m3; have t4 := (hw'.1.cell (p := ⟨b, o + q * 5 + 4, none⟩) hb).trans m4; clear hw'; go_simp) ?_
        try simp only [Act.put, List.setIfInBounds_toArray, List.set_cons_zero, List.set_cons_succ]
        refine Until.wpU_ready (rs := [7]) (by kernel_rfl) (by simp) ?_
        refine (Until.AllU.cons (o := { dst := some 30, op := Op.call { callee := Callee.value (Operand.func 9), args := #[Operand.tmp 29], argTypes := #[28] }, type := 28, pos := "print.go:175", after := #[{ on := 6, ground := Ground.data }], guard := none }) rfl (fun K hK => ?_) Until.AllU.nil)
        go_simp
        refine (hcall.out X c2).mono ?_
        rintro e w2 ⟨k3, x3, s3, an3, ln3, cn3, ai3, li3, ci3, rfl, hu3, hb2⟩
        have d2 : Below w.heap.size w w2 := c2.trans (hb2.mono c2.size)
        have d3 := (hb2.block _ (Array.getElem?_eq_some_iff.1 c3).1).trans c3
        have d5 := (hb2.block _ (Array.getElem?_eq_some_iff.1 c5).1).trans c5
        replace hu3 := hid_e hu3
        refine hK.out _ _ ⟨d2, d3⟩ (fun _ => d5) ?_
        clear hK K
        try simp only [Act.put, List.setIfInBounds_toArray, List.set_cons_zero, List.set_cons_succ]
        refine Until.wpU_ready (rs := [8]) (by kernel_rfl) (by simp) ?_
        refine (Until.AllU.cons (o := { dst := some 31, op := Op.buildSlice 26 1 #[(0, Operand.tmp 30)], type := 26, pos := "print.go:175", after := #[{ on := 7, ground := Ground.data }], guard := none }) rfl (fun K hK => ?_) Until.AllU.nil)
        go_simp
        have e2 : Below w.heap.size w (w2.alloc (.cells #[.int .i64 k3, .int .i64 x3, .string s3, .slice an3 ln3 cn3, .slice ai3 li3 ci3] 28)) := d2.alloc d2.size _
        have e3 := (Below.heap_alloc w2 (.cells #[.int .i64 k3, .int .i64 x3, .string s3, .slice an3 ln3 cn3, .slice ai3 li3 ci3] 28) _ (Array.getElem?_eq_some_iff.1 d3).1).trans d3
        have e5 := (Below.heap_alloc w2 (.cells #[.int .i64 k3, .int .i64 x3, .string s3, .slice an3 ln3 cn3, .slice ai3 li3 ci3] 28) _ (Array.getElem?_eq_some_iff.1 d5).1).trans d5
        refine hK.out _ _ ⟨e2, e3⟩ (fun _ => e5) ?_
        clear hK K
        try simp only [Act.put, List.setIfInBounds_toArray, List.set_cons_zero, List.set_cons_succ]
        refine Until.wpU_ready (rs := [9]) (by kernel_rfl) (by simp) ?_
        refine (Until.AllU.cons (o := { dst := some 32, op := Op.call { callee := Callee.builtin Builtin.append, args := #[Operand.tmp 24, Operand.tmp 31], argTypes := #[26, 26] }, type := 26, pos := "print.go:175", after := #[{ on := 1, ground := Ground.data }, { on := 8, ground := Ground.data }, { on := 7, ground := Ground.chain }], guard := none }) rfl (fun K hK => ?_) Until.AllU.nil)
        refine step_append_lies _ (by rfl) _ _ 26 (by rfl) (w.heap.size + 2) 28 i0 _ 5 80 Tryz.underlying26 hi hz0 hz1 hz2 (by rfl) (by omega) _ q xs (by rfl) ((ownsRow_below hown.out hb2).alloc _) _ 1 1 [.int .i64 k3, .int .i64 x3, .string s3, .slice an3 ln3 cn3, .slice ai3 li3 ci3] (by rfl) (by rfl) (World.news_of_block (heap_alloc_new w2 _)) (five_one _ _ _ _ _ _ _ _ _) (by omega) (by unfold maxLen; omega) (by omega) (by have := e2.size; simp only [World.size_alloc] at *; have := hbl.out; have := hb2.size; omega) _ rfl ?_
        intro g4 cap4 w3 hown3 hgrow3 hat3 hlt3
        replace hgrow3 : (w2.alloc (.cells #[.int .i64 k3, .int .i64 x3, .string s3, .slice an3 ln3 cn3, .slice ai3 li3 ci3] 28)).grownBy w3 (Value.slice ao q ci).ownBlock := hgrow3
        have hstep := hid_e (copy_step3 hC.out hown.out hS.out hu3.out rfl hb2 hgrow3 hat3 hown3)
        have f2 : Below w.heap.size w w3 := e2.trans (grown_below hgrow3 e2.size (fun g hg => by have := (ownsRow_ge hown.out hg).1; omega))
        have f3 := (hgrow3.block _ (Array.getElem?_eq_some_iff.1 e3).1 (fun e => by have := (ownsRow_ge hown.out e.symm).1; omega)).trans e3
        have f5 := (hgrow3.block _ (Array.getElem?_eq_some_iff.1 e5).1 (fun e => hC.out.2.2.2.2.2.2 e.symm)).trans e5
        refine hK.out _ _ ⟨f2, f3⟩ (fun _ => f5) ?_
        clear hK K hat3 hgrow3 hown3
        try simp only [Act.put, List.setIfInBounds_toArray, List.set_cons_zero, List.set_cons_succ]
        refine Until.wpU_pure (i := 10) (oi := { dst := some 33, op := Op.fieldAddr 28 (Operand.tmp 3) 4, type := 0, pos := "print.go:175", after := #[{ on := 0, ground := Ground.phase }, { on := 1, ground := Ground.phase }, { on := 2, ground := Ground.phase }, { on := 3, ground := Ground.phase }, { on := 4, ground := Ground.phase }, { on := 5, ground := Ground.phase }, { on := 6, ground := Ground.phase }, { on := 7, ground := Ground.phase }, { on := 8, ground := Ground.phase }, { on := 9, ground := Ground.phase }], guard := none }) (v := .pointer (some ⟨bw, 4, none⟩)) rfl (by kernel_rfl) (by kernel_rfl) (by kernel_rfl) (by kernel_rfl) (by kernel_rfl) (fun _ _ _ h => h) (⟨f2, f3⟩) (fun _ => f5) (by rfl) (by intro w'; go_simp) ?_
        try simp only [Act.put, List.setIfInBounds_toArray, List.set_cons_zero, List.set_cons_succ]
        obtain ⟨-, -, -, -, z4, zf⟩ := row_cells f5
        have zf4 := zf 4
        clear zf
        refine Until.wpU_ready (rs := [11]) (by kernel_rfl) (by simp) ?_
        refine (Until.AllU.cons (o := { dst := none, op := Op.store 26 (Operand.tmp 33) (Operand.tmp 32), type := 0, pos := "print.go:175", after := #[{ on := 10, ground := Ground.data }, { on := 9, ground := Ground.data }, { on := 9, ground := Ground.chain }, { on := 0, ground := Ground.phase }, { on := 1, ground := Ground.phase }, { on := 2, ground := Ground.phase }, { on := 3, ground := Ground.phase }, { on := 4, ground := Ground.phase }, { on := 5, ground := Ground.phase }, { on := 6, ground := Ground.phase }, { on := 7, ground := Ground.phase }, { on := 8, ground := Ground.phase }, { on := 9, ground := Ground.phase }], guard := none }) rfl (fun K hK => ?_) Until.AllU.nil)
        go_simp
        obtain ⟨s1, s2, s3⟩ := hstep.out
        replace s1 := hid_e s1
        replace s2 := hid_e s2
        replace s3 := hid_e s3
        refine hK.out _ _ ⟨s1.out.2.1, s1.out.2.2.1⟩ (fun h => absurd h (by decide)) ?_
        clear hK K
        try simp only [Act.put, List.setIfInBounds_toArray, List.set_cons_zero, List.set_cons_succ]
        refine Until.wpU_done (by kernel_rfl) ?_ _
        refine NoPanic.normal ?_
        clear z4 zf4 f5 f3 f2 e5 e3 e2 d5 d3 d2
        go_wp2_with fail
        go_roundw
        case rel => exact ⟨q + 1, _, _, _, by omega, by simp, s1, s2, by rw [List.take_add_one, hu.out]; exact s3⟩
        case measure => simp [intOf]; omega
      · have hd : decide ((q : Int) < (its.length : Int)) = false := by simp; omega
        obtain rfl : q = its.length := by omega
        obtain ⟨z0, z1, z2, z3, z4, zf⟩ := row_cells c4
        have zf0 := zf 0; have zf1 := zf 1; have zf2 := zf 2; have zf3 := zf 3; have zf4 := zf 4
        obtain ⟨v0, v1, v2, v3, v4, -⟩ := row_cells c5
        clear zf hd hlt
        rw [List.take_length] at hS
        go_wp2_with fail
        have hr5 := put5_cells c4 (.int .i64 k) (.int .i64 x) (.string s) (.slice (some ⟨g, 0, none⟩) ns.length cap) (.slice ao its.length ci)
        have r0 := hr5 0; have r1 := hr5 1; have r2 := hr5 2; have r3 := hr5 3; have r4 := hr5 4
        clear hr5
        refine bodyPost_ret (v := .agg #[.int .i64 k, .int .i64 x, .string s, .slice (some ⟨g, 0, none⟩) ns.length cap, .slice ao its.length ci]) (by simp [results, Tryz.results9, go_sem, r0, r1, r2, r3, r4]) rfl ?_
        exact copy_end3 hC.out hown.out hS.out _ _ _ _ _
theorem copy_top (k x : Int) (s : ByteArray) (an : Option Addr) (cn : Nat) (ns : List ByteArray) (a : Option Addr) (c : Nat) (its : List Tr) (w : World) (hV : VRep w (.node k x s ns its) (five k x s (.slice an ns.length cn) (.slice a its.length c))) (hS : SmallT (.node k x s ns its)) :
    Calls Tryz.prog 9 #[.agg #[.int .i64 k, .int .i64 x, .string s, .slice an ns.length cn, .slice a its.length c]] w (CopyTop w k x s ns its) := by
  unfold VRep at hV
  unfold SmallT at hS
  obtain ⟨nm, a', c', e, hn, hc, hI⟩ := hV
  simp only [five, List.cons.injEq, Value.slice.injEq, true_and, and_true] at e
  obtain ⟨rfl, rfl, rfl⟩ := e
  obtain ⟨_, s2, _, s4, s5⟩ := hS
  exact copy_top1 k x s an cn ns a c its w (by omega) (by omega) (hid_e hn) (hid_e hI) (hid_e (fun i u hu ds w' h1 => copy_any u ds w' h1 (SmallL.at s5 hu)))
end Go.Proofs.YthgnkhpomhcdkaaGreatDoor.Tree
