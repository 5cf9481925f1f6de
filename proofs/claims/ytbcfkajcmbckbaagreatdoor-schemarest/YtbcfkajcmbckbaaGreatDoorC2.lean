import Derived.Test.YtbcfkajcmbckbaaGreatDoorV2
import Derived.Test.YtbcfkajcmbckbaaGreatDoorV4
import Derived.Test.YtbcfkajcmbckbaaGreatDoorV5
import Derived.Test.YtbcfkajcmbckbaaGreatDoorU1
import Derived.Deep.RegionHeld3
import Derived.Deep.DeepCutAuto
/-! What Copy leans on: what is read in certain blocks only; a list of texts appended to an empty one. -/
namespace Go.Proofs.YtbcfkajcmbckbaaGreatDoor
open Go Go.RowKit

def Agree (S : Nat → Prop) (W W' : World) : Prop := W.heap.size ≤ W'.heap.size ∧ ∀ p u, S p.block → W.cell? p = some u → W'.cell? p = some u
/-- t is read off these cells, whatever the other blocks hold. -/
def Seen (W : World) (S : Nat → Prop) (t : Tr) (cs : List Value) : Prop := ∀ W', Agree S W W' → VRep W' t cs
theorem cell_lt {W : World} {p : Addr} {v : Value} (h : W.cell? p = some v) : p.block < W.heap.size := by
  rcases Nat.lt_or_ge p.block W.heap.size with h' | h'
  · exact h'
  · simp [World.cell?, Array.getElem?_eq_none h'] at h
theorem Reads.mono {W W' : World} {v : Value} {l : List ByteArray} (hk : ∀ p u, W.cell? p = some u → W'.cell? p = some u) (hs : W.heap.size ≤ W'.heap.size) (h : Reads W v l) : Reads W' v l := by
  obtain ⟨a, c, rfl, hc, h | ⟨b, o, rfl, hlt, h⟩⟩ := h
  · exact ⟨a, c, rfl, hc, .inl h⟩
  · exact ⟨_, c, rfl, hc, .inr ⟨b, o, rfl, Nat.lt_of_lt_of_le hlt hs, fun j s hj => hk _ _ (h j s hj)⟩⟩
mutual
theorem VRep.mono {W W' : World} (hk : ∀ p u, W.cell? p = some u → W'.cell? p = some u) (hs : W.heap.size ≤ W'.heap.size) : (t : Tr) → (cs : List Value) → VRep W t cs → VRep W' t cs
  | .node k x s ns its, cs, h => by
    unfold VRep at *
    obtain ⟨nm, a, c, h1, h2, h3, h4⟩ := h
    refine ⟨nm, a, c, h1, h2.mono hk hs, h3, ?_⟩
    rcases h4 with h4 | ⟨b, o, h5, h6, h7⟩
    · exact .inl h4
    · exact .inr ⟨b, o, h5, Nat.lt_of_lt_of_le h6 hs, VRepL.mono hk hs _ its h7⟩
theorem VRepL.mono {W W' : World} (hk : ∀ p u, W.cell? p = some u → W'.cell? p = some u) (hs : W.heap.size ≤ W'.heap.size) {b : Nat} : (o : Nat) → (its : List Tr) → VRepL W b o its → VRepL W' b o its
  | _, [], _ => by unfold VRepL; trivial
  | _, t :: ts, h => by
    unfold VRepL at *
    obtain ⟨cs, h1, h2, h3⟩ := h
    exact ⟨cs, fun j u hj => hk _ _ (h1 j u hj), VRep.mono hk hs t cs h2, VRepL.mono hk hs _ ts h3⟩
end
theorem seen_rep {w : World} {t : Tr} {cs : List Value} (h : VRep w t cs) : Seen w (· < w.heap.size) t cs := fun _ a => VRep.mono (fun p u hp => a.2 p u (cell_lt hp) hp) a.1 t cs h
theorem Seen.rep {W : World} {S : Nat → Prop} {t : Tr} {cs : List Value} (h : Seen W S t cs) : VRep W t cs := h W ⟨Nat.le_refl _, fun _ _ _ h => h⟩
theorem seen_next {w w' W' : World} {S S' : Nat → Prop} {t : Tr} {cs : List Value} (hV : Seen w S t cs) (hB : Below w.heap.size w w') (hS : ∀ k, S k → S' k) (h : Agree S' w' W') : VRep W' t cs :=
  hV W' ⟨Nat.le_trans hB.size h.1, fun p u hp hc => h.2 p u (hS _ hp) ((hB.cell (cell_lt hc)).trans hc)⟩
theorem Seen.keep {w w' : World} {S : Nat → Prop} {t : Tr} {cs : List Value} (hV : Seen w S t cs) (hB : Below w.heap.size w w') : Seen w' S t cs := fun _ h => seen_next hV hB (fun _ h => h) h
/-- An object of one member. -/
theorem run_append_none {P : Program} (w : World) (t ty e : TypeId) (i : TypeInfo) (ht : P.underlying t = some (.slice e)) (hi : P.info? e = some i) (g n cap : Nat) (hn : n ≤ cap) (ax : Option Addr) (c : Nat) :
    (Builtin.append_ #[t, t] ty #[.slice (some ⟨g, 0, none⟩) n cap, .slice ax 0 c]).run P w = .ok (.slice (some ⟨g, 0, none⟩) n cap) w := by
  have hs : Src P i.size t (.slice ax 0 c) 0 [] w := by
    cases ax with
    | none => exact Src.ofNil w ht c
    | some a => exact Src.ofSlice w ht a 0 c [] (by simp) (fun j u h => by simp at h) (fun u h => by cases h)
  have := run_append_room_src (P := P) w t t ty e i ht hi g 0 n cap _ 0 [] hs (by omega) (fun j h => by simp at h) (fun j h => by simp at h)
  rw [this]
  rfl

theorem step_append_texts {ops : Array Oper} {o : Oper} {a : Act} {K : Act → World → Prop} {Q : Exit → Act → World → Prop} {E : Prop} (w : World) (hgd : o.guard = none) (s x : Operand)
    (ho : o.op = .call { callee := .builtin .append, args := #[s, x], argTypes := #[22, 22] }) (base g : Nat) (hrow : w.ownsRow base 9 1 (.slice (some ⟨g, 0, none⟩) 0 0) 0 [])
    (hs : a.eval s = .slice (some ⟨g, 0, none⟩) 0 0) (vx : Value) (l : List ByteArray) (hx : a.eval x = vx) (hR : Reads w vx l) (hl : l.length * 16 ≤ 140737488355328) (hbase : base ≤ w.heap.size)
    (h : ∀ g' cap w', w'.ownsRow base 9 1 (.slice (some ⟨g', 0, none⟩) l.length cap) l.length (strs l) → w.grownBy w' (some g) → (g' = g ∨ g' = w.heap.size) → K (a.put o.dst (.slice (some ⟨g', 0, none⟩) l.length cap)) w') :
    if Region.wanted o (yielded ops a.tmps) = true then Oper.wp Tryz.prog o a w K Q else E := by
  obtain ⟨i9, hi9, hz0, hz1, hz2⟩ := info_parts A9
  obtain ⟨ax, c, rfl, hc, hA⟩ := hR
  by_cases h0 : l = []
  · subst h0
    have hw : Region.wanted o (yielded ops a.tmps) = true := by simp [Region.wanted, hgd]
    rw [if_pos hw]
    have hr := run_append_none (P := Tryz.prog) w 22 o.type 9 i9 Tryz.underlying22 hi9 g 0 0 (Nat.le_refl _) ax c
    unfold Oper.wp execOp
    have hx' : a.eval x = .slice ax 0 c := hx
    simp only [ho, resolve, invoke, builtin, Sem.run_bind, Sem.run_pure, Result.andThen_ok, List.map_toArray, List.map_cons, List.map_nil, hs, hx', hr]
    exact h g 0 w hrow (World.grownBy.refl w _) (.inl rfl)
  · obtain ⟨b, oo, rfl, hb, hA⟩ := hA.resolve_left h0
    refine step_append_lies w hgd s x 22 ho base 9 i9 _ 1 16 Tryz.underlying22 hi9 hz0 hz1 hz2 rfl (by decide) _ 0 [] hs hrow _ l.length c (strs l) hx (by rw [strs_length]; omega) (fun j u hu => ?_) (strs1 l) (List.length_pos_iff.2 h0) (by unfold maxLen; omega) (by omega) hbase _ rfl ?_
    · unfold strs at hu
      rw [List.getElem?_map] at hu
      cases hy : l[j]? with
      | none => rw [hy] at hu; cases hu
      | some y =>
        rw [hy] at hu
        cases hu
        rw [add_off]
        exact hA j y hy
    · intro g' cap w' h1 h2 h3 _
      simp only [Nat.zero_add, List.nil_append] at h1 ⊢
      exact h g' cap w' h1 h2 (h3.elim (fun e => .inl (by simpa [Value.ownBlock] using e.symm)) .inr)
theorem owns_empty (w : World) : (w.alloc (.cells #[] 9)).ownsRow w.heap.size 9 1 (.slice (some ⟨w.heap.size, 0, none⟩) 0 0) 0 [] :=
  ⟨rfl, .inr ⟨w.heap.size, 0, #[], rfl, Nat.le_refl _, heap_alloc_new w _, Nat.le_refl _, Nat.zero_le _, rfl, rfl⟩⟩
/-- Texts that lie in certain blocks. -/
def SeenR (W : World) (S : Nat → Prop) (v : Value) (l : List ByteArray) : Prop := ∀ W', Agree S W W' → Reads W' v l
theorem own_reads {W W' : World} {lo : Nat} {S : Nat → Prop} {g cap : Nat} {l : List ByteArray} (h : W.ownsRow lo 9 1 (.slice (some ⟨g, 0, none⟩) l.length cap) l.length (strs l)) (hS : S g) (ha : Agree S W W') : Reads W' (.slice (some ⟨g, 0, none⟩) l.length cap) l := by
  obtain ⟨h1, h2⟩ := h
  rcases h2 with ⟨hv, _⟩ | ⟨g', cap', cur, hv, hg, hh, hc, hm, hs, hr⟩
  · cases hv
  · cases hv
    refine ⟨_, cap, rfl, ⟨hc, by unfold maxLen at hm; omega⟩, .inr ⟨g, 0, rfl, Nat.lt_of_lt_of_le (Array.getElem?_eq_some_iff.1 hh).1 ha.1, fun j s hj => ha.2 _ _ hS ?_⟩⟩
    have hlt : j < l.length := (List.getElem?_eq_some_iff.1 hj).1
    have : (strs l)[j]? = some (.string s) := by unfold strs; rw [List.getElem?_map, hj]; rfl
    rw [← hr, List.getElem?_take_of_lt (by omega), Array.getElem?_toList] at this
    simp [World.cell?, hh, this]
end Go.Proofs.YtbcfkajcmbckbaaGreatDoor
/-! Copy: its first statement. -/
namespace Go.Proofs.YtbcfkajcmbckbaaGreatDoor
open Go Go.RowKit


/-- Behind Copy's first statement. -/
def CopyAt (w : World) (box : Array Value) (k x : Int) (s : ByteArray) (ns : List ByteArray) (bw g cap : Nat) (it : Value) (wx : World) : Prop :=
  w.heap.size + 1 < bw ∧ Below w.heap.size w wx ∧ wx.heap[w.heap.size]? = some (.cells box 25 (0, 0)) ∧ wx.heap[w.heap.size + 1]? = some (.cells #[.int .i64 0, .int .i64 0, .string ⟨#[]⟩, .slice none 0 0, .slice none 0 0] 25 (0, 0)) ∧
  wx.heap[bw]? = some (.cells #[.int .i64 k, .int .i64 x, .string s, .slice (some ⟨g, 0, none⟩) ns.length cap, it] 25 (0, 0)) ∧ SeenR wx (fun j => w.heap.size + 1 < j ∧ j ≠ bw ∧ it.ownBlock ≠ some j) (.slice (some ⟨g, 0, none⟩) ns.length cap) ns ∧ it.ownBlock ≠ some bw
theorem copy_fin {w Y : World} {box : Array Value} {k x : Int} {s : ByteArray} {ns : List ByteArray} {bw g cap : Nat} (h1 : w.heap.size + 1 < bw) (h2 : Below w.heap.size w Y) (h3 : Y.heap[w.heap.size]? = some (.cells box 25 (0, 0))) (h4 : Y.heap[w.heap.size + 1]? = some (.cells #[.int .i64 0, .int .i64 0, .string ⟨#[]⟩, .slice none 0 0, .slice none 0 0] 25 (0, 0)))
    (h5 : Y.heap[bw]? = some (.cells #[.int .i64 0, .int .i64 0, .string ⟨#[]⟩, .slice none 0 0, .slice none 0 0] 25 (0, 0))) (h6 : Y.ownsRow (w.heap.size + 2) 9 1 (.slice (some ⟨g, 0, none⟩) ns.length cap) ns.length (strs ns)) (h7 : g ≠ bw) :
    CopyAt w box k x s ns bw g cap (.slice none 0 0) (put5 Y bw (.int .i64 k) (.int .i64 x) (.string s) (.slice (some ⟨g, 0, none⟩) ns.length cap) (.slice none 0 0)) := by
  have hg := (ownsRow_ge h6 (g := g) rfl).1
  refine ⟨h1, h2.trans (put5_below (by omega) _ _ _ _ _), (put5_far _ _ _ _ _ (by omega)).trans h3, (put5_far _ _ _ _ _ (by omega)).trans h4, put5_at h5 _ _ _ _ _, fun W' hW' => ?_, by simp [Value.ownBlock]⟩
  refine own_reads (ownsRow_keep h6 (fun g' hg' => ?_)) (show w.heap.size + 1 < g ∧ g ≠ bw ∧ (Value.slice none 0 0).ownBlock ≠ some g from ⟨by omega, h7, by simp [Value.ownBlock]⟩) hW'
  cases hg'
  exact put5_far _ _ _ _ _ h7

/-- Items, one behind the other, as cells. -/
def ItemsRep (W : World) : List Tr → List Value → Prop
  | [], xs => xs = []
  | t :: ts, xs => ∃ cs rest, xs = cs ++ rest ∧ cs.length = 5 ∧ VRep W t cs ∧ ItemsRep W ts rest
theorem ItemsRep.snoc {W : World} {u : Tr} {cs : List Value} (hl : cs.length = 5) (hu : VRep W u cs) : {ts : List Tr} → {xs : List Value} → ItemsRep W ts xs → ItemsRep W (ts ++ [u]) (xs ++ cs)
  | [], xs, h => by
    unfold ItemsRep at h
    subst h
    show ItemsRep W [u] ([] ++ cs)
    unfold ItemsRep
    exact ⟨cs, [], by simp, hl, hu, by unfold ItemsRep; rfl⟩
  | t :: ts, xs, h => by
    unfold ItemsRep at h
    obtain ⟨c1, r, rfl, h1, h2, h3⟩ := h
    show ItemsRep W (t :: (ts ++ [u])) _
    unfold ItemsRep
    exact ⟨c1, r ++ cs, by simp, h1, h2, ItemsRep.snoc hl hu h3⟩
theorem ItemsRep.list {W : World} {b : Nat} : (ts : List Tr) → (xs : List Value) → (o : Nat) → ItemsRep W ts xs → (∀ j u, xs[j]? = some u → W.cell? ⟨b, o + j, none⟩ = some u) → VRepL W b o ts
  | [], _, _, _, _ => by unfold VRepL; trivial
  | t :: ts, xs, o, h, hc => by
    unfold ItemsRep at h
    obtain ⟨cs, r, rfl, h1, h2, h3⟩ := h
    unfold VRepL
    refine ⟨cs, fun j u hj => hc j u (by rw [List.getElem?_append_left (List.getElem?_eq_some_iff.1 hj).1]; exact hj), h2, ItemsRep.list ts r (o + 5) h3 (fun j u hj => ?_)⟩
    have := hc (5 + j) u (by rw [List.getElem?_append_right (by omega), h1, Nat.add_sub_cancel_left]; exact hj)
    rwa [show o + 5 + j = o + (5 + j) by omega]
/-- The items that were copied. -/
def ItemsSeen (w : World) (bw : Nat) (it : Value) (ts : List Tr) (xs : List Value) (wr : World) : Prop := ∀ W', Agree (fun j => w.heap.size + 1 < j ∧ j ≠ bw ∧ it.ownBlock ≠ some j) wr W' → ItemsRep W' ts xs
theorem row_cell {w : World} {lo : Nat} {e : TypeId} {size g n cap : Nat} {xs : List Value} (h : w.ownsRow lo e size (.slice (some ⟨g, 0, none⟩) n cap) n xs) : ∀ j u, xs[j]? = some u → w.cell? ⟨g, j, none⟩ = some u := by
  intro j u hj
  obtain ⟨h1, h2⟩ := h
  rcases h2 with ⟨hv, _⟩ | ⟨g', cap', cur, hv, hg, hh, hc, hm, hs, hr⟩
  · cases hv
  · cases hv
    have hlt := (List.getElem?_eq_some_iff.1 hj).1
    rw [← hr, List.getElem?_take_of_lt (by rw [← h1]; exact hlt), Array.getElem?_toList] at hj
    simp [World.cell?, hh, hj]
theorem row_cap {w : World} {lo : Nat} {e : TypeId} {size g n cap : Nat} {xs : List Value} (h : w.ownsRow lo e size (.slice (some ⟨g, 0, none⟩) n cap) n xs) : n ≤ cap ∧ cap ≤ 9223372036854775807 := by
  rcases h.2 with ⟨hv, _⟩ | ⟨g', cap', cur, hv, hg, hh, hc, hm, hs, hr⟩
  · cases hv
  · cases hv
    exact ⟨hc, by unfold maxLen at hm; omega⟩
theorem CopyAt.drew {w wr : World} {box : Array Value} {k x : Int} {s : ByteArray} {ns : List ByteArray} {bw g cap : Nat} {it : Value} (h : CopyAt w box k x s ns bw g cap it wr) : CopyAt w box k x s ns bw g cap it wr.drew := by
  obtain ⟨c1, c2, c3, c4, c5, c6, c7⟩ := h
  exact ⟨c1, below_drew c2, c3, c4, c5, c6, c7⟩
theorem five_one (k x : Int) (s : ByteArray) (a : Option Addr) (l c : Nat) (a' : Option Addr) (l' c' : Nat) : ∀ u ∈ [Value.int .i64 k, .int .i64 x, .string s, .slice a l c, .slice a' l' c'], u.oneCell' = true := by
  intro u hu
  simp only [List.mem_cons, List.not_mem_nil, or_false] at hu
  rcases hu with rfl | rfl | rfl | rfl | rfl <;> rfl
/-- The end of Copy. -/
theorem copy_end {w wr : World} {box : Array Value} {k x : Int} {s : ByteArray} {ns : List ByteArray} {bw g cap : Nat} {ao : Option Addr} {ci : Nat} {its : List Tr} {xs : List Value} (hil : its.length * 80 ≤ 140737488355328)
    (hC : CopyAt w box k x s ns bw g cap (.slice ao its.length ci) wr) (hown : wr.ownsRow (w.heap.size + 2) 25 5 (.slice ao its.length ci) its.length xs) (hS : ItemsSeen w bw (.slice ao its.length ci) its xs wr) (c0 c1 c2 c3 c4 : Value) :
    Seen (put5 wr (w.heap.size + 1) c0 c1 c2 c3 c4) (fun j => w.heap.size ≤ j) (.node k x s ns its) (five k x s (.slice (some ⟨g, 0, none⟩) ns.length cap) (.slice ao its.length ci)) := by
  intro W' hW
  obtain ⟨_, hB, _, _, _, h6, _⟩ := hC
  have hAll : ∀ p v, w.heap.size + 1 < p.block → wr.cell? p = some v → W'.cell? p = some v := fun p v hp hv =>
    hW.2 p v (by omega) ((World.cell?_of_block (w := wr) (a := p) (put5_far _ _ _ _ _ (by omega))).trans hv)
  have hsz : wr.heap.size ≤ W'.heap.size := by have := hW.1; rw [put5_size] at this; exact this
  have hA : Agree (fun j => w.heap.size + 1 < j ∧ j ≠ bw ∧ (Value.slice ao its.length ci).ownBlock ≠ some j) wr W' := ⟨hsz, fun p v hp hv => hAll p v hp.1 hv⟩
  have hN := h6 W' hA
  have hI := hS W' hA
  unfold VRep
  rcases hown.2 with ⟨hv, h0⟩ | ⟨gi, ci', cur, hv, hg, hh, hc, hm, r⟩
  · have e := List.eq_nil_of_length_eq_zero h0
    subst e
    exact ⟨_, ao, ci, rfl, hN, ⟨Nat.zero_le _, by injection hv with _ _ h3; omega⟩, .inl rfl⟩
  · cases hv
    refine ⟨_, _, ci, rfl, hN, ⟨hc, by unfold maxLen at hm; omega⟩, .inr ⟨gi, 0, rfl, Nat.lt_of_lt_of_le (Array.getElem?_eq_some_iff.1 hh).1 hsz, ?_⟩⟩
    refine ItemsRep.list its xs 0 hI (fun j u hj => ?_)
    rw [Nat.zero_add]
    exact hAll ⟨gi, j, none⟩ u (by show w.heap.size + 1 < gi; omega) (row_cell hown j u hj)
/-- One round of Copy. -/
theorem copy_step {w wr w2 w3 : World} {box : Array Value} {k x : Int} {s : ByteArray} {ns : List ByteArray} {bw g cap : Nat} {ao : Option Addr} {q ci : Nat} {ts : List Tr} {xs : List Value} {u : Tr} {cs : Array Value} {g4 cap4 : Nat}
    (hC : CopyAt w box k x s ns bw g cap (.slice ao q ci) wr) (hown : wr.ownsRow (w.heap.size + 2) 25 5 (.slice ao q ci) q xs) (hS : ItemsSeen w bw (.slice ao q ci) ts xs wr)
    (hu : Seen w2 (fun j => wr.heap.size ≤ j) u cs.toList) (hcs : cs.toList.length = 5) (hb2 : Below wr.heap.size wr w2)
    (hgrow : (w2.alloc (.cells cs 25)).grownBy w3 (Value.slice ao q ci).ownBlock) (hat : (Value.slice ao q ci).ownBlock = some g4 ∨ g4 = (w2.alloc (.cells cs 25)).heap.size)
    (hown3 : w3.ownsRow (w.heap.size + 2) 25 5 (.slice (some ⟨g4, 0, none⟩) (q + 1) cap4) (q + 1) (xs ++ cs.toList)) :
    let w4 := w3.setCell ⟨bw, 4, none⟩ (.slice (some ⟨g4, 0, none⟩) (q + 1) cap4)
    CopyAt w box k x s ns bw g cap (.slice (some ⟨g4, 0, none⟩) (q + 1) cap4) w4 ∧ w4.ownsRow (w.heap.size + 2) 25 5 (.slice (some ⟨g4, 0, none⟩) (q + 1) cap4) (q + 1) (xs ++ cs.toList) ∧ ItemsSeen w bw (.slice (some ⟨g4, 0, none⟩) (q + 1) cap4) (ts ++ [u]) (xs ++ cs.toList) w4 := by
  intro w4
  obtain ⟨c1, c2, c3, c4, c5, c6, hbne⟩ := hC
  have hbwl : bw < wr.heap.size := (Array.getElem?_eq_some_iff.1 c5).1
  have hbl : w.heap.size + 1 < wr.heap.size := (Array.getElem?_eq_some_iff.1 c4).1
  have hs2 := hb2.size
  have hs3 := hgrow.size
  rw [World.size_alloc] at hs3 hat
  have own_lt : ∀ j, (Value.slice ao q ci).ownBlock = some j → w.heap.size + 2 ≤ j ∧ j < wr.heap.size := fun j hj => ownsRow_ge hown hj
  have g4ne : g4 ≠ bw := by
    rcases hat with h | h
    · intro e; subst e; exact hbne h
    · omega
  have g4lo : w.heap.size + 2 ≤ g4 := (ownsRow_ge hown3 (g := g4) rfl).1
  -- a block that is not the row's
  have far3 : ∀ j, j < wr.heap.size → (Value.slice ao q ci).ownBlock ≠ some j → w3.heap[j]? = wr.heap[j]? := fun j hj hne =>
    (hgrow.block j (by rw [World.size_alloc]; omega) (fun e => hne e.symm)).trans ((Below.heap_alloc w2 _ j (by omega)).trans (hb2.block j hj))
  have far4 : ∀ j, j ≠ bw → w4.heap[j]? = w3.heap[j]? := fun j hj => Below.heap_setCell _ _ _ _ hj
  have hsz4 : w4.heap.size = w3.heap.size := by simp [w4, World.setCell]
  have hB4 : Below w.heap.size w w4 := by
    refine ⟨?_, ?_, ?_, ?_, fun j hj => ?_⟩
    · exact (show w4.os = w3.os from rfl).trans (hgrow.os.trans (hb2.os.trans c2.os))
    · exact (show w4.tape = w3.tape from rfl).trans (hgrow.tape.trans (hb2.tape.trans c2.tape))
    · exact (show w4.output = w3.output from rfl).trans (hgrow.output.trans (hb2.output.trans c2.output))
    · rw [hsz4]; have := c2.size; omega
    · rw [far4 j (by omega), far3 j (by omega) (fun e => by have := own_lt j e; omega)]
      exact c2.block j hj
  have hsee : ∀ W', Agree (fun j => w.heap.size + 1 < j ∧ j ≠ bw ∧ (Value.slice (some ⟨g4, 0, none⟩) (q + 1) cap4).ownBlock ≠ some j) w4 W' → Agree (fun j => w.heap.size + 1 < j ∧ j ≠ bw ∧ (Value.slice ao q ci).ownBlock ≠ some j) wr W' ∧ Agree (fun j => wr.heap.size ≤ j) w2 W' := by
    intro W' hW
    refine ⟨⟨by have := hW.1; omega, fun p v hp hv => hW.2 p v ⟨hp.1, hp.2.1, ?_⟩ ?_⟩, ⟨by have := hW.1; omega, fun p v hp hv => hW.2 p v ⟨by omega, by omega, ?_⟩ ?_⟩⟩
    · intro e
      have : g4 = p.block := by simpa [Value.ownBlock] using e
      rcases hat with h | h
      · exact hp.2.2 (by rw [h, this])
      · have := lt_of_cell hv; omega
    · have hl := lt_of_cell hv
      exact (World.cell?_of_block (w := wr) (a := p) ((far4 _ hp.2.1).trans (far3 _ hl hp.2.2))).trans hv
    · intro e
      have : g4 = p.block := by simpa [Value.ownBlock] using e
      have hl := lt_of_cell hv
      rcases hat with h | h
      · have := own_lt _ h; omega
      · omega
    · have hl := lt_of_cell hv
      refine (World.cell?_of_block (w := w2) (a := p) ((far4 _ (by omega)).trans ((hgrow.block _ (by rw [World.size_alloc]; omega) (fun e => ?_)).trans (Below.heap_alloc w2 _ _ hl)))).trans hv
      have := own_lt _ e.symm
      omega
  refine ⟨⟨c1, hB4, ?_, ?_, ?_, fun W' hW => c6 W' (hsee W' hW).1, by simp [Value.ownBlock]; exact g4ne⟩, ownsRow_keep hown3 (fun j hj => ?_), fun W' hW => ItemsRep.snoc hcs (hu W' (hsee W' hW).2) (hS W' (hsee W' hW).1)⟩
  · rw [far4 _ (by omega), far3 _ (by omega) (fun e => by have := own_lt _ e; omega)]; exact c3
  · rw [far4 _ (by omega), far3 _ (by omega) (fun e => by have := own_lt _ e; omega)]; exact c4
  · have h3 : w3.heap[bw]? = _ := (far3 bw hbwl hbne).trans c5
    simp [w4, World.setCell, Array.getElem?_modify, h3]
  · cases hj
    exact far4 _ g4ne
/-- Items, in memory. -/
def ItemsAt' (w : World) (a : Option Addr) (its : List Tr) : Prop := its = [] ∨ ∃ b o, a = some ⟨b, o, none⟩ ∧ b < w.heap.size ∧ VRepL w b o its
theorem SmallL.at : {its : List Tr} → {i : Nat} → {u : Tr} → SmallL its → its[i]? = some u → SmallT u
  | [], _, _, _, hu => by simp at hu
  | t :: ts, 0, u, h, hu => by
    unfold SmallL at h
    have : t = u := by simpa using hu
    exact this ▸ h.1
  | t :: ts, i + 1, u, h, hu => by
    unfold SmallL at h
    exact SmallL.at h.2 (by simpa using hu)
end Go.Proofs.YtbcfkajcmbckbaaGreatDoor
