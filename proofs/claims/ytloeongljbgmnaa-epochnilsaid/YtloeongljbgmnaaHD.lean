import Derived.Test.YtloeongljbgmnaaHC
import Derived.Laws.CopyOwn
import Derived.Deep.DeepMust
import Derived.Deep.Cut
import Derived.Deep.RegionWith
import Derived.Laws.MakeOwn
/-! heap: the pool. -/
namespace Go.Proofs.Ytloeongljbgmnaa
open Go Go.RowKit
/-- Numbers in a row. -/
structure Chunk (lo : Nat) (w : World) (c : List Int) (sa : Option Addr) : Prop where
  max : c.length ≤ 32
  cel : c ≠ [] → ∃ g cs, sa = some ⟨g, 0, none⟩ ∧ lo ≤ g ∧ w.heap[g]? = some (.cells cs 3 (0, 0)) ∧ ∀ (i : Nat) x, c[i]? = some x → cs[i]? = some (.int .i64 x)
/-- A pool: the last numbers, and those ahead of them. -/
def PoolRep (lo : Nat) (w : World) : List Int → List (List Int) → Int → Option Addr → Option Addr → Prop
  | c, [], cnt, sa, rest => cnt = c.length ∧ Chunk lo w c sa ∧ rest = none
  | c, d :: cs, cnt, sa, rest => c ≠ [] ∧ Chunk lo w c sa ∧ ∃ b cnt' sa' rest', rest = some ⟨b, 0, none⟩ ∧ lo ≤ b ∧ w.heap[b]? = some (.cells #[.int .i64 cnt', .slice sa' d.length d.length, .pointer rest'] 162 (0, 0)) ∧ cnt = c.length + cnt' ∧ PoolRep lo w d cs cnt' sa' rest'
/-- The numbers, the last one first. -/
def stackP (c : List Int) (cs : List (List Int)) : List Int := c.reverse ++ (cs.map List.reverse).flatten
/-- Blocks of these types are never written again. -/
def Still (w w' : World) : Prop := ∀ (b : Nat) cs, w.heap[b]? = some (.cells cs 3 (0, 0)) ∨ w.heap[b]? = some (.cells cs 162 (0, 0)) → w'.heap[b]? = w.heap[b]?
theorem Still.of_below {w w' : World} (h : Below w.heap.size w w') : Still w w' := fun b _ hb => h.block b (hb.elim (fun e => (Array.getElem?_eq_some_iff.1 e).1) (fun e => (Array.getElem?_eq_some_iff.1 e).1))
theorem Chunk.keep {lo : Nat} {w w' : World} {c : List Int} {sa : Option Addr} (h : Chunk lo w c sa) (hs : Still w w') : Chunk lo w' c sa :=
  ⟨h.max, fun hc => by
    obtain ⟨g, cs, e1, e2, e3, e4⟩ := h.cel hc
    exact ⟨g, cs, e1, e2, (hs g cs (.inl e3)).trans e3, e4⟩⟩
theorem PoolRep.keep {lo : Nat} {w w' : World} (hs : Still w w') : {cs : List (List Int)} → {c : List Int} → {cnt : Int} → {sa rest : Option Addr} → PoolRep lo w c cs cnt sa rest → PoolRep lo w' c cs cnt sa rest
  | [], _, _, _, _, ⟨h1, h2, h3⟩ => ⟨h1, h2.keep hs, h3⟩
  | _ :: _, _, _, _, _, ⟨h1, h2, b, cnt', sa', rest', e1, e2, e3, e4, e5⟩ => ⟨h1, h2.keep hs, b, cnt', sa', rest', e1, e2, (hs b _ (.inr e3)).trans e3, e4, PoolRep.keep hs e5⟩
theorem PoolRep.chunk {lo : Nat} {w : World} : {cs : List (List Int)} → {c : List Int} → {cnt : Int} → {sa rest : Option Addr} → PoolRep lo w c cs cnt sa rest → Chunk lo w c sa
  | [], _, _, _, _, h => h.2.1
  | _ :: _, _, _, _, _, h => h.2.1
theorem PoolRep.count {lo : Nat} {w : World} : {cs : List (List Int)} → {c : List Int} → {cnt : Int} → {sa rest : Option Addr} → PoolRep lo w c cs cnt sa rest → cnt = ((stackP c cs).length : Nat)
  | [], c, _, _, _, h => by simp [stackP, h.1]
  | d :: cs, c, _, _, _, ⟨_, _, b, cnt', sa', rest', _, _, _, e4, e5⟩ => by
    have := PoolRep.count e5
    rw [e4, this]
    simp [stackP]
theorem PoolRep.more {lo : Nat} {w : World} : {cs : List (List Int)} → {c : List Int} → {cnt : Int} → {sa rest : Option Addr} → PoolRep lo w c cs cnt sa rest → {c' : List Int} → {sa' : Option Addr} → {cnt' : Int} → c' ≠ [] → Chunk lo w c' sa' → cnt' - c'.length = cnt - c.length → PoolRep lo w c' cs cnt' sa' rest
  | [], c, cnt, sa, rest, ⟨h1, h2, h3⟩, c', sa', cnt', hc', hC, hn => ⟨by omega, hC, h3⟩
  | d :: cs, c, cnt, sa, rest, ⟨_, _, b, cnt2, sa2, rest2, e1, e2, e3, e4, e5⟩, c', sa', cnt', hc', hC, hn => ⟨hc', hC, b, cnt2, sa2, rest2, e1, e2, e3, by omega, e5⟩
theorem PoolRep.less {lo : Nat} {w : World} : {cs : List (List Int)} → {c : List Int} → {cnt : Int} → {sa rest : Option Addr} → PoolRep lo w c cs cnt sa rest → {c' : List Int} → {sa' : Option Addr} → {cnt' : Int} → (c' ≠ [] ∨ cs = []) → Chunk lo w c' sa' → cnt' - c'.length = cnt - c.length → PoolRep lo w c' cs cnt' sa' rest
  | [], c, cnt, sa, rest, ⟨h1, h2, h3⟩, c', sa', cnt', hc', hC, hn => ⟨by omega, hC, h3⟩
  | d :: cs, c, cnt, sa, rest, ⟨_, _, b, cnt2, sa2, rest2, e1, e2, e3, e4, e5⟩, c', sa', cnt', hc', hC, hn => ⟨hc'.elim id (fun e => by cases e), hC, b, cnt2, sa2, rest2, e1, e2, e3, by omega, e5⟩
theorem int_info : (Try.prog.info? 3).map (fun i => (i.zero, i.size, i.bytes)) = some (some (.int .i64 0), 1, 8) := by kernel_rfl
theorem int_one : (Try.prog.info? 3).map (·.size) = some 1 := by kernel_rfl
/-- What 'with' answers. -/
def WithPost (lo : Nat) (c : List Int) (cs : List (List Int)) (cnt num : Int) (w : World) (e : Ending) (w' : World) : Prop :=
  ∃ c' cs' sa' rest', e = .returned (.agg #[.int .i64 (cnt + 1), .slice sa' c'.length c'.length, .pointer rest']) ∧ PoolRep lo w' c' cs' (cnt + 1) sa' rest' ∧ stackP c' cs' = num :: stackP c cs ∧ Below w.heap.size w w'
set_option maxRecDepth 100000 in
set_option maxHeartbeats 2000000 in
theorem with_full (lo : Nat) (c : List Int) (cs : List (List Int)) (cnt : Int) (sa rest : Option Addr) (num : Int) (w : World) (hlo : lo ≤ w.heap.size) (hP : PoolRep lo w c cs cnt sa rest) (h32 : c.length = 32) (hcnt : cnt ≤ 4611686018427387904) :
    Calls Try.prog 65 #[.agg #[.int .i64 cnt, .slice sa c.length c.length, .pointer rest], .int .i64 num] w (WithPost lo c cs cnt num w) := by
  have h0 : 0 ≤ cnt := by rw [hP.count]; omega
  obtain ⟨W2, hW2⟩ : ∃ W2, Hid ((w.alloc (.cells #[.int .i64 cnt, .slice sa c.length c.length, .pointer rest] 162)).alloc (.cells #[.int .i64 0, .slice none 0 0, .pointer none] 162) = W2) := ⟨_, rfl⟩
  have z0 := heap_alloc2_old w (.cells #[.int .i64 cnt, .slice sa c.length c.length, .pointer rest] 162) (.cells #[.int .i64 0, .slice none 0 0, .pointer none] 162)
  have z1 := heap_alloc2_new w (.cells #[.int .i64 cnt, .slice sa c.length c.length, .pointer rest] 162) (.cells #[.int .i64 0, .slice none 0 0, .pointer none] 162)
  have hB : Below w.heap.size w W2 := by rw [← hW2.out]; exact ((Below.refl _ w).alloc (Nat.le_refl _) _).alloc (by simp) _
  rw [hW2.out] at z0 z1
  have hs2 : Hid (W2.heap.size = w.heap.size + 2) := by unfold Hid; rw [← hW2.out]; simp
  have hB3 : Below w.heap.size w (W2.alloc (.cells #[.int .i64 num] 3)) := hB.alloc hB.size _
  obtain ⟨W3, hW3⟩ : ∃ W3, Hid (W2.alloc (.cells #[.int .i64 num] 3) = W3) := ⟨_, rfl⟩
  have z3 := heap_alloc_new W2 (.cells #[.int .i64 num] 3)
  have hB23 : Below W2.heap.size W2 W3 := by rw [← hW3.out]; exact (Below.refl _ W2).alloc (Nat.le_refl _) _
  rw [hW3.out] at z3 hB3
  have k0 := (hB23.block _ (Array.getElem?_eq_some_iff.1 z0).1).trans z0
  have k1 := (hB23.block _ (Array.getElem?_eq_some_iff.1 z1).1).trans z1
  obtain ⟨y0, y1, y2⟩ := cells3 z0
  obtain ⟨x0, x1, x2⟩ := cells3 k0
  have k4 := setRow_heap W3 (w.heap.size + 1) _ #[.int .i64 (cnt + 1), .slice (some ⟨W2.heap.size, 0, none⟩) 1 1, .pointer (some ⟨w.heap.size, 0, none⟩)] _ _ k1
  obtain ⟨v0, v1, v2⟩ := cells3 k4
  have hfin : Hid (WithPost lo c cs cnt num w (.returned (.agg #[.int .i64 (cnt + 1), .slice (some ⟨W2.heap.size, 0, none⟩) 1 1, .pointer (some ⟨w.heap.size, 0, none⟩)])) (W3.setRow (w.heap.size + 1) #[.int .i64 (cnt + 1), .slice (some ⟨W2.heap.size, 0, none⟩) 1 1, .pointer (some ⟨w.heap.size, 0, none⟩)])) := by
    have hB4 : Below w.heap.size w (W3.setRow (w.heap.size + 1) #[.int .i64 (cnt + 1), .slice (some ⟨W2.heap.size, 0, none⟩) 1 1, .pointer (some ⟨w.heap.size, 0, none⟩)]) := below_setRow' hB3 (by omega) _
    have h2 := hs2.out
    refine ⟨[num], c :: cs, some ⟨W2.heap.size, 0, none⟩, some ⟨w.heap.size, 0, none⟩, rfl, ⟨by simp, ⟨by simp, fun _ => ⟨_, _, rfl, by omega, (setRow_other _ _ _ _ (by omega)).trans z3, fun i x hx => ?_⟩⟩, w.heap.size, cnt, sa, rest, rfl, hlo, (setRow_other _ _ _ _ (by omega)).trans k0, by simp; omega, hP.keep (Still.of_below hB4)⟩, by simp [stackP], hB4⟩
    rcases i with _ | i
    · simp at hx; subst hx; rfl
    · simp at hx
  have hnv : (((c.length : Nat) : Int) == 32) = true := by simp [h32]
  clear z0 z1 hB hB3 z3 hB23 k0 k4 hP hs2
  replace h32 := hid_of h32
  go_enter Try.func65, Try.ntmps65
  go_wp2_with (first | rw [hW2.out] | rw [hW3.out] | (refine wpList_store_row rfl 162 _ _ rfl (w.heap.size + 1) _ rfl rfl _ _ k1 p_i rfl (p_one _ _ _ _ _) ?_))
  go_wp2_with fail
  exact bodyPost_ret (v := .agg #[.int .i64 (cnt + 1), .slice (some ⟨W2.heap.size, 0, none⟩) 1 1, .pointer (some ⟨w.heap.size, 0, none⟩)]) (by simp [results, Try.results65, go_sem, v0, v1, v2]) rfl hfin.out
theorem splice_get {α : Type} (L cs : List α) {i : Nat} (h : i < cs.length) : (splice L 0 cs)[i]? = cs[i]? := by
  unfold splice
  rw [List.take_zero, List.nil_append, List.getElem?_append_left h]
theorem chunk_src {lo : Nat} {w : World} {c : List Int} {sa : Option Addr} (h : Chunk lo w c sa) (b : Nat) : 0 < (c.map (fun x => Value.int .i64 x)).length → (some ⟨b, 0, none⟩ : Option Addr) = some ⟨b, 0, none⟩ ∧ ∃ ad, sa = some ad ∧ ∀ j v, (c.map (fun x => Value.int .i64 x))[j]? = some v → w.cell? (ad.add j) = some v := fun hl => by
  refine ⟨rfl, ?_⟩
  obtain ⟨g, cc, e1, e2, e3, e4⟩ := h.cel (fun e => by subst e; simp at hl)
  refine ⟨_, e1, fun j v hv => ?_⟩
  rw [List.getElem?_map] at hv
  obtain ⟨x, hx, rfl⟩ := Option.map_eq_some_iff.1 hv
  rw [Addr.add_mid, Nat.zero_add]
  exact cell_of e3 (e4 j x hx)
theorem made_len (n : Nat) : (madeCells #[Value.int .i64 0] n).size = n := by
  exact size_madeCells _ n
set_option maxRecDepth 100000 in
set_option maxHeartbeats 4000000 in
theorem with_room (lo : Nat) (c : List Int) (cs : List (List Int)) (cnt : Int) (sa rest : Option Addr) (num : Int) (w : World) (hlo : lo ≤ w.heap.size) (hP : PoolRep lo w c cs cnt sa rest) (h32 : c.length < 32) (hcnt : cnt ≤ 4611686018427387904) :
    Calls Try.prog 65 #[.agg #[.int .i64 cnt, .slice sa c.length c.length, .pointer rest], .int .i64 num] w (WithPost lo c cs cnt num w) := by
  have h0 : 0 ≤ cnt := by rw [hP.count]; omega
  obtain ⟨n, hn⟩ : ∃ n, Hid (c.length = n) := ⟨_, rfl⟩
  have hC := hP.chunk
  rw [hn.out] at h32 ⊢
  obtain ⟨W2, hW2⟩ : ∃ W2, Hid ((w.alloc (.cells #[.int .i64 cnt, .slice sa n n, .pointer rest] 162)).alloc (.cells #[.int .i64 0, .slice none 0 0, .pointer none] 162) = W2) := ⟨_, rfl⟩
  have z0 := heap_alloc2_old w (.cells #[.int .i64 cnt, .slice sa n n, .pointer rest] 162) (.cells #[.int .i64 0, .slice none 0 0, .pointer none] 162)
  have z1 := heap_alloc2_new w (.cells #[.int .i64 cnt, .slice sa n n, .pointer rest] 162) (.cells #[.int .i64 0, .slice none 0 0, .pointer none] 162)
  have hB : Below w.heap.size w W2 := by rw [← hW2.out]; exact ((Below.refl _ w).alloc (Nat.le_refl _) _).alloc (by simp) _
  rw [hW2.out] at z0 z1
  have hs2 : Hid (W2.heap.size = w.heap.size + 2) := by unfold Hid; rw [← hW2.out]; simp
  have hmk := fun w => run_make_row' (P := Try.prog) 76 3 (.int .i64 0) 8 Try.underlying76 int_info rfl .i64 .i64 (n + 1) (by omega) (by omega) w
  rw [show (((n + 1 : Nat)) : Int) = (n : Int) + 1 from by omega] at hmk
  obtain ⟨W3, hW3⟩ : ∃ W3, Hid (W2.alloc (.cells (madeCells #[.int .i64 0] (n + 1)) 3) = W3) := ⟨_, rfl⟩
  have z3 := heap_alloc_new W2 (.cells (madeCells #[.int .i64 0] (n + 1)) 3)
  have hB23 : Below W2.heap.size W2 W3 := by rw [← hW3.out]; exact (Below.refl _ W2).alloc (Nat.le_refl _) _
  rw [hW3.out] at z3
  have hB3 : Below w.heap.size w W3 := hB.trans (hB23.mono hB.size)
  have k0 := (hB23.block _ (Array.getElem?_eq_some_iff.1 z0).1).trans z0
  have k1 := (hB23.block _ (Array.getElem?_eq_some_iff.1 z1).1).trans z1
  have m0 := hid_of z0
  have m1 := hid_of z1
  have z3' : W3.heap[W2.heap.size]? = some (.cells (madeCells #[.int .i64 0] (n + 1)).toList.toArray 3 (0, 0)) := by rw [Array.toArray_toList]; exact z3
  replace z3' := hid_of z3'
  obtain ⟨y0, y1, y2⟩ := cells3 z0
  obtain ⟨x0, x1, x2⟩ := cells3 k0
  have hC3 := hC.keep (Still.of_below hB3)
  have q1 : Hid ((c.map (fun x => Value.int .i64 x)).length = Nat.min n (n + 1)) := by
    unfold Hid
    rw [List.length_map, hn.out]
    exact (Nat.min_eq_left (by omega)).symm
  have q2 : Hid (0 + (c.map (fun x => Value.int .i64 x)).length ≤ (madeCells #[Value.int .i64 0] (n + 1)).toList.length) := by
    unfold Hid
    rw [List.length_map, hn.out, Array.length_toList, made_len]
    omega
  have q3 : Hid (∀ v ∈ c.map (fun x => Value.int .i64 x), v.oneCell' = true) := fun v hv => by
    obtain ⟨x, -, rfl⟩ := List.mem_map.1 hv
    rfl
  clear z0 z1 hC
  replace hC3 := hid_of hC3
  replace hP := hid_of hP
  have hnv : (((n : Nat) : Int) == 32) = false := by simp; omega
  replace hB := hid_of hB
  replace k0 := hid_of k0
  replace k1 := hid_of k1
  go_enter Try.func65, Try.ntmps65
  go_upto_region 5 with (first | rw [hW2.out] | rw [hW3.out])
  go_upto_region 6 with ((refine wpList_copy_splice rfl _ _ 76 76 rfl 3 Try.underlying76 int_one _ _ _ _ _ _ rfl rfl W2.heap.size 0 (madeCells #[.int .i64 0] (n + 1)).toList 3 z3'.out (c.map (fun x => Value.int .i64 x)) q1.out (chunk_src hC3.out _) q2.out q3.out W2.heap.size W2 hB23 (Nat.le_refl _) ?_; intro W4 hg4 hB4))
  have hc4 : Hid ((splice (madeCells #[Value.int .i64 0] (n + 1)).toList 0 (c.map (fun x => Value.int .i64 x))).toArray.size = n + 1) := by
    unfold Hid
    rw [List.size_toArray, length_splice _ _ _ q2.out, Array.length_toList, made_len]
  obtain ⟨R, hR⟩ : ∃ R, Hid ((splice (madeCells #[Value.int .i64 0] (n + 1)).toList 0 (c.map (fun x => Value.int .i64 x))).toArray = R) := ⟨_, rfl⟩
  have hRc : Hid (∀ (i : Nat) x, c[i]? = some x → R[i]? = some (.int .i64 x)) := fun i x hx => by
    have hi := (List.getElem?_eq_some_iff.1 hx).1
    rw [← hR.out, List.getElem?_toArray, splice_get _ _ (by simpa using hi), List.getElem?_map, hx]
    rfl
  rw [hR.out] at hg4 hc4
  have c4 : W4.cell? ⟨W2.heap.size, n, none⟩ = some R[n]! := by
    have hlt : n < R.size := by rw [hc4.out]; omega
    exact cell_of hg4.out (by simp [hlt])
  have f4 : W4.frozen? ⟨W2.heap.size, n, none⟩ = false := warm hg4.out
  obtain ⟨W5, hW5⟩ : ∃ W5, Hid (W4.setCell ⟨W2.heap.size, n, none⟩ (.int .i64 num) = W5) := ⟨_, rfl⟩
  have g5 : W5.heap[W2.heap.size]? = some (.cells (R.setIfInBounds n (.int .i64 num)) 3 (0, 0)) := by rw [← hW5.out]; exact heap_setCell_same _ _ _ _ _ _ hg4.out
  have hB25 : Below W2.heap.size W2 W5 := by
    rw [← hW5.out]
    exact hB4.setCell (p := ⟨W2.heap.size, n, none⟩) (Nat.le_refl _) _
  have hB5 : Below w.heap.size w W5 := hB.out.trans (hB25.mono hB.out.size)
  have j0 : W5.heap[w.heap.size]? = some (.cells #[.int .i64 cnt, .slice sa n n, .pointer rest] 162 (0, 0)) := (hB25.block _ (by have := hs2.out; omega)).trans m0.out
  have j1 : W5.heap[w.heap.size + 1]? = some (.cells #[.int .i64 0, .slice none 0 0, .pointer none] 162 (0, 0)) := (hB25.block _ (by have := hs2.out; omega)).trans m1.out
  obtain ⟨u0, u1, u2⟩ := cells3 j0
  have j4 := setRow_heap W5 (w.heap.size + 1) _ #[.int .i64 (cnt + 1), .slice (some ⟨W2.heap.size, 0, none⟩) (n + 1) (n + 1), .pointer rest] _ _ j1
  obtain ⟨v0, v1, v2⟩ := cells3 j4
  have hfin : Hid (WithPost lo c cs cnt num w (.returned (.agg #[.int .i64 (cnt + 1), .slice (some ⟨W2.heap.size, 0, none⟩) (n + 1) (n + 1), .pointer rest])) (W5.setRow (w.heap.size + 1) #[.int .i64 (cnt + 1), .slice (some ⟨W2.heap.size, 0, none⟩) (n + 1) (n + 1), .pointer rest])) := by
    have hB6 : Below w.heap.size w (W5.setRow (w.heap.size + 1) #[.int .i64 (cnt + 1), .slice (some ⟨W2.heap.size, 0, none⟩) (n + 1) (n + 1), .pointer rest]) := below_setRow' hB5 (by omega) _
    have h2 := hs2.out
    have hl : (c ++ [num]).length = n + 1 := by rw [List.length_append, hn.out]; rfl
    refine ⟨c ++ [num], cs, some ⟨W2.heap.size, 0, none⟩, rest, by rw [hl], (hP.out.keep (Still.of_below hB6)).more (by simp) ⟨by omega, fun _ => ⟨_, _, rfl, by omega, (setRow_other _ _ _ _ (by omega)).trans g5, fun i x hx => ?_⟩⟩ (by rw [hl, hn.out]; omega), by simp [stackP], hB6⟩
    have hi := (List.getElem?_eq_some_iff.1 hx).1
    by_cases e : i = n
    · subst e
      rw [← hn.out, List.getElem?_append_right (Nat.le_refl _)] at hx
      simp at hx
      subst hx
      rw [Array.getElem?_setIfInBounds_self_of_lt (by rw [hc4.out]; omega)]
    · rw [List.getElem?_append_left (by have := hn.out; omega)] at hx
      rw [Array.getElem?_setIfInBounds_ne (fun h => e h.symm)]
      exact hRc.out i x hx
  clear hg4 hB4 hc4 hR hRc g5 hB25 hB5 j0 j4 q1 q2 q3 x0 x1 x2 y0 y1 y2 z3 z3'
  go_wp2_with (first | rw [hW5.out] | (refine wpList_store_row rfl 162 _ _ rfl (w.heap.size + 1) _ rfl rfl _ _ j1 p_i rfl (p_one _ _ _ _ _) ?_))
  go_wp2_with fail
  exact bodyPost_ret (v := .agg #[.int .i64 (cnt + 1), .slice (some ⟨W2.heap.size, 0, none⟩) (n + 1) (n + 1), .pointer rest]) (by simp [results, Try.results65, go_sem, v0, v1, v2]) rfl hfin.out
theorem with_any (lo : Nat) (c : List Int) (cs : List (List Int)) (cnt : Int) (sa rest : Option Addr) (num : Int) (w : World) (hlo : lo ≤ w.heap.size) (hP : PoolRep lo w c cs cnt sa rest) (hcnt : cnt ≤ 4611686018427387904) :
    Calls Try.prog 65 #[.agg #[.int .i64 cnt, .slice sa c.length c.length, .pointer rest], .int .i64 num] w (WithPost lo c cs cnt num w) := by
  have := hP.chunk.max
  by_cases h : c.length = 32
  · exact with_full lo c cs cnt sa rest num w hlo hP h hcnt
  · exact with_room lo c cs cnt sa rest num w hlo hP (by omega) hcnt
/-- What 'taken' answers. -/
def TakenPost (lo : Nat) (c : List Int) (cs : List (List Int)) (cnt : Int) (w : World) (e : Ending) (w' : World) : Prop :=
  ∃ x c' cs' sa' rest', e = .returned (.tuple #[.int .i64 x, .agg #[.int .i64 (cnt - 1), .slice sa' c'.length c'.length, .pointer rest']]) ∧ PoolRep lo w' c' cs' (cnt - 1) sa' rest' ∧ stackP c cs = x :: stackP c' cs' ∧ Below w.heap.size w w'
theorem pool_u : Try.prog.underlying 76 = some (.slice 3) := by kernel_rfl
set_option maxRecDepth 100000 in
set_option maxHeartbeats 4000000 in
/-- The last but one of a list: the one ahead is told. -/
theorem taken_one (lo : Nat) (x : Int) (d : List Int) (cs : List (List Int)) (cnt : Int) (sa rest : Option Addr) (w : World) (hP : PoolRep lo w [x] (d :: cs) cnt sa rest) :
    Calls Try.prog 80 #[.agg #[.int .i64 cnt, .slice sa 1 1, .pointer rest]] w (TakenPost lo [x] (d :: cs) cnt w) := by
  have hP' := hid_of hP
  obtain ⟨-, hC, b, cnt', sa', rest', rfl, e2, e3, e4, e5⟩ := hP
  obtain ⟨g, cc, rfl, g2, g3, g4⟩ := hC.cel (by simp)
  have gx := g4 0 x rfl
  obtain ⟨W1, hW1⟩ : ∃ W1, Hid (w.alloc (.cells #[.int .i64 cnt, .slice (some ⟨g, 0, none⟩) 1 1, .pointer (some ⟨b, 0, none⟩)] 162) = W1) := ⟨_, rfl⟩
  have z0 := heap_alloc_new w (.cells #[.int .i64 cnt, .slice (some ⟨g, 0, none⟩) 1 1, .pointer (some ⟨b, 0, none⟩)] 162)
  have hB : Below w.heap.size w W1 := by rw [← hW1.out]; exact (Below.refl _ w).alloc (Nat.le_refl _) _
  rw [hW1.out] at z0
  have hs1 : Hid (W1.heap.size = w.heap.size + 1) := by unfold Hid; rw [← hW1.out]; simp
  have hB1 : Below W1.heap.size W1 (W1.alloc (.cells #[.int .i64 0, .slice none 0 0, .pointer none] 162)) := (Below.refl _ W1).alloc (Nat.le_refl _) _
  obtain ⟨y0, y1, y2⟩ := cells3 z0
  have k3 := (hB.block _ (Array.getElem?_eq_some_iff.1 e3).1).trans e3
  obtain ⟨x0, x1, x2⟩ := cells3 k3
  have cx := stay hB1 (stay hB (cell_of g3 gx))
  replace y0 := stay hB1 y0
  replace y1 := stay hB1 y1
  replace y2 := stay hB1 y2
  replace x0 := stay hB1 x0
  replace x1 := stay hB1 x1
  replace x2 := stay hB1 x2
  have hfin : Hid (TakenPost lo [x] (d :: cs) cnt w (.returned (.tuple #[.int .i64 x, .agg #[.int .i64 cnt', .slice sa' d.length d.length, .pointer rest']])) (W1.alloc (.cells #[.int .i64 cnt', .slice sa' d.length d.length, .pointer rest'] 162)).drew) := by
    have hB6 : Below w.heap.size w (W1.alloc (.cells #[.int .i64 cnt', .slice sa' d.length d.length, .pointer rest'] 162)).drew := below_drew (hB.alloc hB.size _)
    have ec : cnt' = cnt - 1 := by simp at e4; omega
    exact ⟨x, d, cs, sa', rest', by rw [ec], by rw [← ec]; exact e5.keep (Still.of_below hB6), by simp [stackP], hB6⟩
  clear e3 e4 e5 g3 g4 gx hC z0 k3 hP' hB hB1
  go_enter Try.func80, Try.ntmps80
  go_upto_region 4 with (rw [hW1.out])
  go_region
  go_wp2_with fail
  exact bodyPost_ret (v := .tuple #[.int .i64 x, .agg #[.int .i64 cnt', .slice sa' d.length d.length, .pointer rest']]) (by simp [results, Try.results80, go_sem]) rfl hfin.out
set_option maxRecDepth 100000 in
set_option maxHeartbeats 4000000 in
/-- Else the list without its last one. -/
theorem taken_cut (lo n : Nat) (q : List Int) (x : Int) (cs : List (List Int)) (cnt : Int) (sa rest : Option Addr) (w : World) (hn : Hid (q.length = n)) (hP : PoolRep lo w (q ++ [x]) cs cnt sa rest) (hq : q ≠ [] ∨ cs = []) (hcnt : cnt ≤ 4611686018427387904) :
    Calls Try.prog 80 #[.agg #[.int .i64 cnt, .slice sa (n + 1) (n + 1), .pointer rest]] w (TakenPost lo (q ++ [x]) cs cnt w) := by
  have h0 : 0 < cnt := by rw [hP.count]; simp [stackP]; omega
  have hq' : Hid (n = 0 → rest = none) := fun h => by
    rw [← hn.out] at h
    rcases hq with hq | rfl
    · exact absurd (List.eq_nil_of_length_eq_zero h) hq
    · exact hP.2.2
  have hC := hP.chunk
  have hmax : n + 1 ≤ 32 := by
    have := hC.max
    rw [List.length_append, hn.out] at this
    exact this
  obtain ⟨g, cc, rfl, g2, g3, g4⟩ := hC.cel (by simp)
  have gx := g4 n x (by rw [← hn.out]; simp)
  obtain ⟨W1, hW1⟩ : ∃ W1, Hid (w.alloc (.cells #[.int .i64 cnt, .slice (some ⟨g, 0, none⟩) (n + 1) (n + 1), .pointer rest] 162) = W1) := ⟨_, rfl⟩
  have z0 := heap_alloc_new w (.cells #[.int .i64 cnt, .slice (some ⟨g, 0, none⟩) (n + 1) (n + 1), .pointer rest] 162)
  have hB : Below w.heap.size w W1 := by rw [← hW1.out]; exact (Below.refl _ w).alloc (Nat.le_refl _) _
  rw [hW1.out] at z0
  have hB1 : Below W1.heap.size W1 (W1.alloc (.cells #[.int .i64 0, .slice none 0 0, .pointer none] 162)) := (Below.refl _ W1).alloc (Nat.le_refl _) _
  obtain ⟨y0, y1, y2⟩ := cells3 z0
  have cx := stay hB1 (stay hB (cell_of g3 gx))
  replace y0 := stay hB1 y0
  replace y1 := stay hB1 y1
  replace y2 := stay hB1 y2
  have hfin : Hid (TakenPost lo (q ++ [x]) cs cnt w (.returned (.tuple #[.int .i64 x, .agg #[.int .i64 (cnt - 1), .slice (some ⟨g, 0, none⟩) n n, .pointer rest]])) (W1.alloc (.cells #[.int .i64 (cnt - 1), .slice (some ⟨g, 0, none⟩) n n, .pointer rest] 162)).drew) := by
    have hB6 : Below w.heap.size w (W1.alloc (.cells #[.int .i64 (cnt - 1), .slice (some ⟨g, 0, none⟩) n n, .pointer rest] 162)).drew := below_drew (hB.alloc hB.size _)
    have hC' : Chunk lo w q (some ⟨g, 0, none⟩) := ⟨by have := hn.out; omega, fun _ => ⟨g, cc, rfl, g2, g3, fun i y hy => g4 i y (by rw [List.getElem?_append_left (List.getElem?_eq_some_iff.1 hy).1]; exact hy)⟩⟩
    exact ⟨x, q, cs, _, rest, by rw [hn.out], (hP.less hq hC' (by simp; omega)).keep (Still.of_below hB6), by simp [stackP], hB6⟩
  clear g3 g4 gx hC z0 hB hB1 hP hq
  go_enter Try.func80, Try.ntmps80
  by_cases hz : n = 0
  · obtain rfl := hq'.out hz
    subst hz
    simp only [Nat.zero_add] at *
    go_upto_region 5 with (rw [hW1.out])
    go_region
    go_wp2_with fail
    exact bodyPost_ret (v := .tuple #[.int .i64 x, .agg #[.int .i64 (cnt - 1), .slice (some ⟨g, 0, none⟩) 0 0, .pointer none]]) (by simp [results, Try.results80, go_sem]) rfl hfin.out
  · have hnz : (((n : Nat) : Int) == 0) = false := by simp; omega
    have hlt : n < n + 1 := by omega
    go_upto_region 5 with (rw [hW1.out])
    go_region
    go_wp2_with fail
    exact bodyPost_ret (v := .tuple #[.int .i64 x, .agg #[.int .i64 (cnt - 1), .slice (some ⟨g, 0, none⟩) n n, .pointer rest]]) (by simp [results, Try.results80, go_sem]) rfl hfin.out
theorem taken_any (lo : Nat) (c : List Int) (cs : List (List Int)) (cnt : Int) (sa rest : Option Addr) (w : World) (hP : PoolRep lo w c cs cnt sa rest) (hc : c ≠ []) (hcnt : cnt ≤ 4611686018427387904) :
    Calls Try.prog 80 #[.agg #[.int .i64 cnt, .slice sa c.length c.length, .pointer rest]] w (TakenPost lo c cs cnt w) := by
  obtain ⟨q, x, rfl⟩ : ∃ q x, c = q ++ [x] := ⟨c.dropLast, c.getLast hc, (List.dropLast_concat_getLast hc).symm⟩
  have hl : (q ++ [x]).length = q.length + 1 := by simp
  rw [hl]
  by_cases hq : q ≠ [] ∨ cs = []
  · exact taken_cut lo q.length q x cs cnt sa rest w (hid_of rfl) hP hq hcnt
  · obtain rfl : q = [] := by
      by_cases e : q = []
      · exact e
      · exact absurd (.inl e) hq
    cases cs with
    | nil => exact absurd (.inr rfl) hq
    | cons d cs => exact taken_one lo x d cs cnt sa rest w hP
end Go.Proofs.Ytloeongljbgmnaa
