import Derived.Test.YtbhjbicbgmeboaaC3
/-! A range over slices.Backward of one turn: up. -/
namespace Go.Proofs.Ytbhjbicbgmeboaa
open Go Go.RowKit Go.Shelf
attribute [local go_sem] Oper.semAt_some

theorem ne_of {S : Nat → Prop} {n m hi k : Nat} (hS : ∀ k, S k → k < n) (hp : S k ∨ hi ≤ k) (e : k = m) (h : n ≤ m ∧ m < hi) : False := by
  rcases hp with hp | hp
  · have := hS _ hp; omega
  · omega
theorem keepsOthers_below {W W' : World} (h : Below W.heap.size W W') : KeepsOthers W W' := ⟨h.size, fun k _ hk _ => (h.block k (Array.getElem?_eq_some_iff.1 hk).1).trans hk⟩

set_option maxHeartbeats 1000000 in
theorem back_t_in (F : Fence) (n : Nat) (hf : F.fn 38) (hro : F.round = none) (a : Option Addr) (len cap : Nat) (w : World) :
    CallsIn F n Try.prog 38 #[.slice a len cap] w fun e w' => e = .returned (.func (.func 51) #[] #[.pointer (some ⟨w.heap.size, 0, none⟩)]) ∧ w' = w.alloc (.cells #[.slice a len cap] 50) := by
  refine callsIn_of_wp Try.func38 rfl hf ?_ hro
  simp only [Try.ntmps38, List.size_toArray, List.length_cons, List.length_nil, Nat.reduceAdd, Nat.reduceSub, Array.replicate_succ, Array.replicate_zero, List.push_toArray, List.append_toArray, List.nil_append, List.cons_append]
  gi_wp2
  go_ret
  exact ⟨rfl, rfl⟩

set_option maxRecDepth 100000 in
set_option maxHeartbeats 2000000 in
theorem back_t_stops (F : Fence) (n : Nat) (hf : F.fn 51) (hro : F.round = none) (hn : 1 ≤ n) (Bs g c : Nat) (k x : Int) (tx : ByteArray) (an : Option Addr) (ln cn : Nat) (ai : Option Addr) (li ci : Nat) (sg : ByteArray) (m : Int) (w : World) (hBs : Bs < w.heap.size) (hb : g < w.heap.size)
    (hc : w.cell? ⟨Bs, 0, none⟩ = some (.slice (some ⟨g, 0, none⟩) 1 c)) (hs : CellsAt w g 0 [.int .i64 k, .int .i64 x, .string tx, .slice an ln cn, .slice ai li ci, .string sg, .int .i64 m]) :
    SeqStopsK F n Try.prog 51 #[.pointer (some ⟨Bs, 0, none⟩)] (fun _ : Unit => #[Value.int .i64 0, Value.agg #[.int .i64 k, .int .i64 x, .string tx, .slice an ln cn, .slice ai li ci, .string sg, .int .i64 m]]) (fun _ _ => True) (fun ys => ys = [()]) (fun pre => pre = [()]) 1 w := fun l J Jx W hW _ _ hY h0 => by
  have hc' := (hW.cell (p := ⟨Bs, 0, none⟩) hBs).trans hc
  have hs' := hs.keep hW hb
  have t0 : W.cell? ⟨g, 0, none⟩ = _ := hs' 0 _ rfl
  have t1 : W.cell? ⟨g, 1, none⟩ = _ := hs' 1 _ rfl
  have t2 : W.cell? ⟨g, 2, none⟩ = _ := hs' 2 _ rfl
  have t3 : W.cell? ⟨g, 3, none⟩ = _ := hs' 3 _ rfl
  have t4 : W.cell? ⟨g, 4, none⟩ = _ := hs' 4 _ rfl
  have t5 : W.cell? ⟨g, 5, none⟩ = _ := hs' 5 _ rfl
  have t6 : W.cell? ⟨g, 6, none⟩ = _ := hs' 6 _ rfl
  refine callsIn_of_wp Try.func51 rfl hf ?_ hro
  simp only [Try.ntmps51, List.size_toArray, List.length_cons, List.length_nil, Nat.reduceAdd, Nat.reduceSub, Array.replicate_succ, Array.replicate_zero, List.push_toArray, List.append_toArray, List.nil_append, List.cons_append]
  gi_wp2
  obtain ⟨fn, tmps, assign, body, hy, hR⟩ := hY [] () W h0 (by simp)
  refine wpIn_loop_rounds 2 ?_
  rw [roundsIn_succ]
  gi_wp2
  refine hR.mono ?_
  rintro e W3 (⟨rfl, hJ3, hk3⟩ | ⟨rfl, hJx3⟩)
  · gi_wp2
    rw [roundsIn_succ]
    gi_wp2
    go_end0
    exact ⟨⟨_, rfl⟩, .inl ⟨_, rfl, hJ3⟩⟩
  · gi_wp2
    refine bodyPost_ret (results_none rfl _ _ _) rfl ?_
    exact ⟨⟨_, rfl⟩, .inr ⟨_, rfl, hJx3⟩⟩

set_option maxRecDepth 100000 in
set_option maxHeartbeats 4000000 in
theorem up_one (w : World) (k x : Int) (tx : ByteArray) (an : Option Addr) (ln cn : Nat) (ai : Option Addr) (li ci : Nat) (sg : ByteArray) (m : Int) (k1 x1 : Int) (s1 : ByteArray) (an1 : Option Addr) (ln1 cn1 : Nat) (ai1 : Option Addr) (li1 ci1 : Nat) (R : Tr) (S : Nat → Prop) (hS : ∀ k, S k → k < w.heap.size) (g c : Nat) (hg : g < w.heap.size) (hs : CellsAt w g 0 [.int .i64 k, .int .i64 x, .string tx, .slice an ln cn, .slice ai li ci, .string sg, .int .i64 m])
    (hw : ∀ W, Below w.heap.size w W → Calls Try.prog 39 #[.agg #[.int .i64 k, .int .i64 x, .string tx, .slice an ln cn, .slice ai li ci, .string sg, .int .i64 m], .agg #[.int .i64 k1, .int .i64 x1, .string s1, .slice an1 ln1 cn1, .slice ai1 li1 ci1]] W fun e w' => Below W.heap.size W w' ∧ ∃ cs k9 x9 s9 a9 l9 d9 i9 j9 e9, e = .returned (.agg cs.toArray) ∧ cs = five k9 x9 s9 (.slice a9 l9 d9) (.slice i9 j9 e9) ∧ Seen w' (fun k => S k ∨ W.heap.size ≤ k) R cs) :
    Calls Try.prog 24 #[.slice (some ⟨g, 0, none⟩) 1 c, .agg #[.int .i64 k1, .int .i64 x1, .string s1, .slice an1 ln1 cn1, .slice ai1 li1 ci1]] w fun e w' => Below w.heap.size w w' ∧ ∃ cs, e = .returned (.agg cs.toArray) ∧ Seen w' (fun k => S k ∨ w.heap.size + 1 < k) R cs := by
  refine (callsIn_wide (n := 5)).1 ?_
  have hro : Fence.wide.round = none := rfl
  refine callsIn_of_wp_marks Try.func24 rfl trivial ?_ hro
  simp only [Try.ntmps24, List.size_toArray, List.length_cons, List.length_nil, Nat.reduceAdd, Nat.reduceSub, Array.replicate_succ, Array.replicate_zero, List.push_toArray, List.append_toArray, List.nil_append, List.cons_append]
  gi_wp2_with (refine ⟨trivial, ?_⟩; gi_at_call 38; refine (back_t_in Fence.wide _ trivial hro _ _ _ _).mono ?_; rintro e w' ⟨rfl, rfl⟩)
  have hB0 : ∀ o1 o2 o3, Below w.heap.size w (((w.alloc o1).alloc o2).alloc o3) := fun o1 o2 o3 => (((Below.refl _ w).alloc (Nat.le_refl _) o1).alloc (by simp) o2).alloc (by simp; omega) o3
  have hn1 : ∀ o1 o2 o3, (((w.alloc o1).alloc o2).alloc o3).heap[w.heap.size]? = some o1 := fun o1 o2 o3 => by
    rw [Below.heap_alloc _ _ _ (by simp; omega)]; exact new1 w o1 o2
  have hn2 : ∀ o1 o2 o3, (((w.alloc o1).alloc o2).alloc o3).heap[w.heap.size + 1]? = some o2 := fun o1 o2 o3 => by
    rw [Below.heap_alloc _ _ _ (by simp)]; exact new2 w o1 o2
  have hn3 : ∀ o1 o2 o3, (((w.alloc o1).alloc o2).alloc o3).heap[w.heap.size + 1 + 1]? = some o3 := fun o1 o2 o3 => by
    have := heap_alloc_new ((w.alloc o1).alloc o2) o3
    rw [World.size_alloc, World.size_alloc] at this
    exact this
  obtain ⟨W0, hW0⟩ : ∃ W0, (((w.alloc (.cells #[.int .i64 k1, .int .i64 x1, .string s1, .slice an1 ln1 cn1, .slice ai1 li1 ci1] 25)).alloc (.cells #[.int .i64 0, .int .i64 0, .string ⟨#[]⟩, .slice none 0 0, .slice none 0 0] 25)).alloc (.cells #[.slice (some ⟨g, 0, none⟩) 1 c] 50)) = W0 := ⟨_, rfl⟩
  have r0 := hn1 (.cells #[.int .i64 k1, .int .i64 x1, .string s1, .slice an1 ln1 cn1, .slice ai1 li1 ci1] 25) (.cells #[.int .i64 0, .int .i64 0, .string ⟨#[]⟩, .slice none 0 0, .slice none 0 0] 25) (.cells #[.slice (some ⟨g, 0, none⟩) 1 c] 50)
  have r1 := hn2 (.cells #[.int .i64 k1, .int .i64 x1, .string s1, .slice an1 ln1 cn1, .slice ai1 li1 ci1] 25) (.cells #[.int .i64 0, .int .i64 0, .string ⟨#[]⟩, .slice none 0 0, .slice none 0 0] 25) (.cells #[.slice (some ⟨g, 0, none⟩) 1 c] 50)
  have r2 := hn3 (.cells #[.int .i64 k1, .int .i64 x1, .string s1, .slice an1 ln1 cn1, .slice ai1 li1 ci1] 25) (.cells #[.int .i64 0, .int .i64 0, .string ⟨#[]⟩, .slice none 0 0, .slice none 0 0] 25) (.cells #[.slice (some ⟨g, 0, none⟩) 1 c] 50)
  have hb0 := hB0 (.cells #[.int .i64 k1, .int .i64 x1, .string s1, .slice an1 ln1 cn1, .slice ai1 li1 ci1] 25) (.cells #[.int .i64 0, .int .i64 0, .string ⟨#[]⟩, .slice none 0 0, .slice none 0 0] 25) (.cells #[.slice (some ⟨g, 0, none⟩) 1 c] 50)
  have hsz : W0.heap.size = w.heap.size + 3 := by rw [← hW0]; simp
  clear hB0 hn1 hn2 hn3
  rw [hW0] at r0 r1 r2 hb0
  rw [hW0]
  clear hW0
  have sB : W0.cell? ⟨w.heap.size + 1 + 1, 0, none⟩ = some (.slice (some ⟨g, 0, none⟩) 1 c) := by simp [World.cell?, r2]
  refine wpIn_rangeFunc_ownH hro (by decide) (gf := 51) (lb := #[.pointer (some ⟨w.heap.size + 1 + 1, 0, none⟩)]) rfl trivial (enters_of Try.func51 (by kernel_rfl) rfl)
    (back_t_stops Fence.wide _ trivial hro (by decide) (w.heap.size + 1 + 1) g c k x tx an ln cn ai li ci sg m W0 (by omega) (by omega) sB (hs.keep hb0 hg)) (fun _ _ => trivial) (fun _ _ _ _ _ _ _ _ => trivial) (Below.refl _ _) (fun _ => rfl)
    (fun pre W => (∃ k9 x9 s9 a9 l9 d9 i9 j9 e9, Row5 W w.heap.size (.int .i64 k9) (.int .i64 x9) (.string s9) (.slice a9 l9 d9) (.slice i9 j9 e9) ∧ Row5 W (w.heap.size + 1) (.int .i64 0) (.int .i64 0) (.string ⟨#[]⟩) (.slice none 0 0) (.slice none 0 0) ∧
      ((pre = [] ∧ k9 = k1 ∧ x9 = x1 ∧ s9 = s1 ∧ a9 = an1 ∧ l9 = ln1 ∧ d9 = cn1 ∧ i9 = ai1 ∧ j9 = li1 ∧ e9 = ci1) ∨
       (pre = [()] ∧ ∃ Wv hi, w.heap.size + 1 < hi ∧ Seen Wv (fun k => S k ∨ hi ≤ k) R (five k9 x9 s9 (.slice a9 l9 d9) (.slice i9 j9 e9)) ∧ Agree (fun k => S k ∨ hi ≤ k) Wv W))) ∧ Below w.heap.size w W)
    (fun _ _ _ => False) ?own (fun _ _ _ _ _ hs _ _ => hs) ?start
    (fun _ a' W => ∃ Bx, w.heap.size + 1 < Bx ∧ W.heap[Bx]? = some (.cells #[.int .i64 k, .int .i64 x, .string tx, .slice an ln cn, .slice ai li ci, .string sg, .int .i64 m] 64 (0, 0)) ∧ a' = { tmps := #[.slice (some ⟨g, 0, none⟩) 1 c, .agg #[.int .i64 k1, .int .i64 x1, .string s1, .slice an1 ln1 cn1, .slice ai1 li1 ci1], undef, .pointer (some ⟨w.heap.size, 0, none⟩), .pointer (some ⟨w.heap.size + 1, 0, none⟩), undef, .pointer (some ⟨Bx, 0, none⟩), .slice (some ⟨g, 0, none⟩) 1 c, .func (.func 51) #[] #[.pointer (some ⟨w.heap.size + 1 + 1, 0, none⟩)], .int .i64 0, .agg #[.int .i64 k, .int .i64 x, .string tx, .slice an ln cn, .slice ai li ci, .string sg, .int .i64 m], undef, undef, undef, undef], defers := [] })
    ?ownA ?assign ?body ?done ?stop
  case own =>
    refine OwnFrom.and (Own.from (fun pre A B row hs hg hr => ?_) _) (ownFrom_below (Nat.le_refl _) (by omega))
    obtain ⟨k9, x9, s9, a9, l9, d9, i9, j9, e9, h1, h2, h3⟩ := hs
    refine ⟨k9, x9, s9, a9, l9, d9, i9, j9, e9, h1.own hg hr, h2.own hg hr, ?_⟩
    rcases h3 with h3 | ⟨e, Wv, hi, e1, e2, e3, e4⟩
    · exact .inl h3
    · exact .inr ⟨e, Wv, hi, e1, e2, Nat.le_trans e3 hg.size, fun p u hp hc => cell_kept (e4 p u hp hc) hg hr⟩
  case start => exact ⟨⟨_, _, _, _, _, _, _, _, _, row5_of r0, row5_of r1, .inl ⟨rfl, rfl, rfl, rfl, rfl, rfl, rfl, rfl, rfl, rfl⟩⟩, hb0⟩
  case ownA =>
    rintro ⟨⟩ a' _ A B row ⟨Bx, h1, h2, h3⟩ hg hr
    refine ⟨Bx, h1, (hg.block Bx (Array.getElem?_eq_some_iff.1 h2).1 (fun e => ?_)).trans h2, h3⟩
    obtain ⟨_, o, ho, hc⟩ := hr Bx e.symm
    rw [h2] at ho; cases ho; cases hc
  case assign =>
    rintro l pre ⟨⟩ W K hI hK
    gi_wp2
    obtain ⟨⟨k9, x9, s9, a9, l9, d9, i9, j9, e9, h1, h2, h3⟩, hB⟩ := hI
    refine hK _ _ ((KeepsOthers.alloc _ _).from _) trivial ⟨⟨k9, x9, s9, a9, l9, d9, i9, j9, e9, h1.alloc _, h2.alloc _, ?_⟩, hB.alloc hB.size _⟩ ⟨W.heap.size, h2.lt, heap_alloc_new W _, rfl⟩
    rcases h3 with h3 | ⟨e, Wv, hi, e1, e2, e3, e4⟩
    · exact .inl h3
    · exact .inr ⟨e, Wv, hi, e1, e2, by rw [World.size_alloc]; omega, fun p u hp hc => cell_alloc' (e4 p u hp hc) _⟩
  case body =>
    rintro l pre ⟨⟩ a' W hl ⟨r, hr⟩ ⟨⟨k9, x9, s9, a9, l9, d9, i9, j9, e9, h1, h2, ⟨rfl, rfl, rfl, rfl, rfl, rfl, rfl, rfl, rfl, rfl⟩ | ⟨rfl, _⟩⟩, hB⟩ ⟨Bx, hBx, bX, rfl⟩ hlt
    · have hcw := hw W hB
      obtain ⟨⟨y0, f0⟩, ⟨y1, f1⟩, ⟨y2, f2⟩, ⟨y3, f3⟩, ⟨y4, f4⟩⟩ := id h1
      have q0 : W.cell? ⟨Bx, 0, none⟩ = some (.int .i64 k) := by simp [World.cell?, bX]
      have q1 : W.cell? ⟨Bx, 1, none⟩ = some (.int .i64 x) := by simp [World.cell?, bX]
      have q2 : W.cell? ⟨Bx, 2, none⟩ = some (.string tx) := by simp [World.cell?, bX]
      have q3 : W.cell? ⟨Bx, 3, none⟩ = some (.slice an ln cn) := by simp [World.cell?, bX]
      have q4 : W.cell? ⟨Bx, 4, none⟩ = some (.slice ai li ci) := by simp [World.cell?, bX]
      have q5 : W.cell? ⟨Bx, 5, none⟩ = some (.string sg) := by simp [World.cell?, bX]
      have q6 : W.cell? ⟨Bx, 6, none⟩ = some (.int .i64 m) := by simp [World.cell?, bX]
      gi_wp2_with (refine ⟨trivial, ?_⟩; gi_at_call 39; refine (CallsIn.inRound l (callsIn_wide.2 hcw)).mono ?_; rintro e w2 ⟨hb2, cs, k9, x9, s9, a9, l9, d9, i9, j9, e9, rfl, hcs, hS2⟩; subst hcs; simp only [five]; replace hS2 := (show Hid _ from hS2); have h1b := h1.far (hb2.block _ h1.lt); obtain ⟨⟨v0, u0⟩, ⟨v1, u1⟩, ⟨v2, u2⟩, ⟨v3, u3⟩, ⟨v4, u4⟩⟩ := id h1b)
      have hlt1 := h1.lt
      have hlt2 := h2.lt
      have h2b := h2.far (hb2.block _ hlt2)
      refine ⟨((keepsOthers_below hb2).trans (KeepsOthers.put5 _ _ _ _ _ _ _)).from _, trivial, ⟨k9, x9, s9, a9, l9, d9, i9, j9, e9, h1b.put _ _ _ _ _, h2b.far (put5_far _ _ _ _ _ (by omega)), .inr ⟨rfl, w2, W.heap.size, by omega, hS2, ?_⟩⟩, (hB.trans (hb2.mono hB.size)).trans (put5_below (Nat.le_refl _) _ _ _ _ _)⟩
      refine ⟨by have := put5_size w2 w.heap.size (.int .i64 k9) (.int .i64 x9) (.string s9) (.slice a9 l9 d9) (.slice i9 j9 e9); exact Nat.le_of_eq this.symm, fun p u hp hc => ?_⟩
      exact (World.cell?_of_block (w := w2) (put5_far _ _ _ _ _ (show p.block ≠ w.heap.size from fun e => by exact ne_of hS hp e ⟨by omega, by omega⟩))).trans hc
    · simp at hlt
  case done =>
    rintro D ys W hD rfl ⟨⟨k9, x9, s9, a9, l9, d9, i9, j9, e9, h1, h2, ⟨h, _⟩ | ⟨_, Wv, hi, e1, e2, e3, e4⟩⟩, hB⟩ hK
    · cases h
    obtain ⟨⟨y0, f0⟩, ⟨y1, f1⟩, ⟨y2, f2⟩, ⟨y3, f3⟩, ⟨y4, f4⟩⟩ := h1
    obtain ⟨⟨z0, n0⟩, ⟨z1, n1⟩, ⟨z2, n2⟩, ⟨z3, n3⟩, ⟨z4, n4⟩⟩ := id h2
    replace e4 : Hid (∀ p u, (S p.block ∨ hi ≤ p.block) → Wv.cell? p = some u → W.cell? p = some u) := e4
    replace e2 : Hid (Seen Wv (fun k => S k ∨ hi ≤ k) R (five k9 x9 s9 (.slice a9 l9 d9) (.slice i9 j9 e9))) := e2
    gi_wp2
    obtain ⟨Wp, hWp⟩ : ∃ Wp, put5 W (w.heap.size + 1) (.int .i64 k9) (.int .i64 x9) (.string s9) (.slice a9 l9 d9) (.slice i9 j9 e9) = Wp := ⟨_, rfl⟩
    have hWc := hWp
    unfold put5 at hWc
    rw [hWc]
    clear hWc
    have hK' : Wp.heap[D]? = some (.deferred (some [])) := by rw [← hWp]; exact (KeepsOthers.put5 _ _ _ _ _ _ _).same D _ hK rfl
    have hBp : Below w.heap.size w Wp := by rw [← hWp]; exact hB.trans (put5_below (by omega) _ _ _ _ _)
    have hr2 : Row5 Wp (w.heap.size + 1) (.int .i64 k9) (.int .i64 x9) (.string s9) (.slice a9 l9 d9) (.slice i9 j9 e9) := by rw [← hWp]; exact h2.put _ _ _ _ _
    have hag : Hid (Agree (fun k => S k ∨ hi ≤ k) Wv Wp) := by
      rw [← hWp]
      exact ⟨by rw [put5_size]; exact e3, fun p u hp hc => (World.cell?_of_block (w := W) (put5_far _ _ _ _ _ (show p.block ≠ w.heap.size + 1 from fun e => by exact ne_of hS hp e ⟨by omega, by omega⟩))).trans (e4.out p u hp hc)⟩
    clear hWp h2 z0 z1 z2 z3 z4 n0 n1 n2 n3 n4 y0 y1 y2 y3 y4 f0 f1 f2 f3 f4 e4 hB hK
    have hkp : ∀ r, some D = some r → ∃ o, Wp.heap[r]? = some o ∧ o.isCells = false := fun r e => by cases e; exact ⟨_, hK', rfl⟩
    refine ⟨by simp, .inl ⟨_, _, rfl, run_takeDeferred hK', ?_⟩⟩
    replace hr2 := hr2.own (grownBy_putObj' _ D (.deferred none)) hkp
    have hV : Seen (Wp.putObj D (.deferred none)) (fun k => S k ∨ w.heap.size + 1 < k) R (five k9 x9 s9 (.slice a9 l9 d9) (.slice i9 j9 e9)) := fun W' ha => e2.out W' ⟨Nat.le_trans (Nat.le_trans hag.out.1 (grownBy_putObj' Wp D (.deferred none)).size) ha.1, fun p u hp hc => ha.2 p u (hp.imp id (fun h => by omega)) (cell_kept (hag.out.2 p u hp hc) (grownBy_putObj' _ D (.deferred none)) hkp)⟩
    have hBf := hBp.trans (belowK_b (w := w) (Nat.le_refl _) _ D _ (.deferred none) (by omega) hK' rfl rfl)
    clear hK' hkp hBp hag e2
    generalize Wp.putObj D (.deferred none) = Wf at *
    obtain ⟨⟨r0, -⟩, ⟨r1, -⟩, ⟨r2, -⟩, ⟨r3, -⟩, ⟨r4, -⟩⟩ := hr2
    exact ⟨.agg #[.int .i64 k9, .int .i64 x9, .string s9, .slice a9 l9 d9, .slice i9 j9 e9], by simp [results, Try.results24, go_sem, r0, r1, r2, r3, r4], hBf, five k9 x9 s9 (.slice a9 l9 d9) (.slice i9 j9 e9), rfl, hV⟩
  case stop =>
    rintro D c pre W _ _ h _
    exact h.elim
end Go.Proofs.Ytbhjbicbgmeboaa
