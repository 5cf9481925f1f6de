import Derived.Test.YtmlbofbnklmedaaT2
import Derived.Test.YtmlbofbnklmedaaS6
import Derived.Test.YtmlbofbnklmedaaO3
/-! The document's Set. -/
namespace Go.Proofs.Ytmlbofbnklmedaa
open Go Go.RowKit

/-- Three boxes: what was handed in, twice, and what will be answered. -/
structure Tri (w : World) (b1 b2 : Array Value) (W : World) : Prop where
  below : Below w.heap.size w W
  one : W.heap[w.heap.size]? = some (.cells b1 25 (0, 0))
  two : W.heap[w.heap.size + 1]? = some (.cells b2 25 (0, 0))
  three : W.heap[w.heap.size + 2]? = some (.cells #[.int .i64 0, .int .i64 0, .string ⟨#[]⟩, .slice none 0 0, .slice none 0 0] 25 (0, 0))
theorem Tri.lt {w W : World} {b1 b2 : Array Value} (h : Tri w b1 b2 W) : w.heap.size + 3 ≤ W.heap.size := (Array.getElem?_eq_some_iff.1 h.three).1
theorem Tri.keep {w W W' : World} {b1 b2 : Array Value} (h : Tri w b1 b2 W) (hb : Below W.heap.size W W') : Tri w b1 b2 W' :=
  ⟨h.below.trans (hb.mono h.below.size), (hb.block _ (Array.getElem?_eq_some_iff.1 h.one).1).trans h.one, (hb.block _ (Array.getElem?_eq_some_iff.1 h.two).1).trans h.two, (hb.block _ (Array.getElem?_eq_some_iff.1 h.three).1).trans h.three⟩
theorem Tri.alloc {w W : World} {b1 b2 : Array Value} (h : Tri w b1 b2 W) (o : Obj) : Tri w b1 b2 (W.alloc o) := h.keep ((Below.refl _ _).alloc (Nat.le_refl _) _)
theorem Tri.drew {w W : World} {b1 b2 : Array Value} (h : Tri w b1 b2 W) : Tri w b1 b2 W.drew := h.keep ⟨rfl, rfl, rfl, Nat.le_refl _, fun _ _ => rfl⟩
theorem Tri.put {w W : World} {b1 b2 : Array Value} (h : Tri w b1 b2 W) {g : Nat} (hg : w.heap.size + 3 ≤ g) (a0 a1 a2 a3 a4 : Value) : Tri w b1 b2 (put5 W g a0 a1 a2 a3 a4) :=
  ⟨h.below.trans (put5_below (by omega) _ _ _ _ _), (put5_far _ _ _ _ _ (by omega)).trans h.one, (put5_far _ _ _ _ _ (by omega)).trans h.two, (put5_far _ _ _ _ _ (by omega)).trans h.three⟩
theorem tri_three (w : World) (o p q : Obj) : (((w.alloc o).alloc p).alloc q).heap[w.heap.size + 2]? = some q := by
  have := heap_alloc_new ((w.alloc o).alloc p) q
  rw [World.size_alloc, World.size_alloc] at this
  exact this
theorem tri_new (w : World) (b1 b2 : Array Value) : Tri w b1 b2 (((w.alloc (.cells b1 25)).alloc (.cells b2 25)).alloc (.cells #[.int .i64 0, .int .i64 0, .string ⟨#[]⟩, .slice none 0 0, .slice none 0 0] 25)) :=
  ⟨(((Below.refl _ w).alloc (Nat.le_refl _) _).alloc (by simp) _).alloc (by simp; omega) _, (Below.heap_alloc _ _ _ (by simp; omega)).trans (new1 w _ _), (Below.heap_alloc _ _ _ (by simp)).trans (new2 w _ _), tri_three w _ _ _⟩
/-- What Set answers: the error, and a value that lies in what was handed in and in what is new. -/
def RS (w0 w : World) (d : Int) (R : Tr) (e : Ending) (w' : World) : Prop := ∃ k x s an ln cn ai li ci, e = .returned (.tuple #[.agg #[.int .i64 k, .int .i64 x, .string s, .slice an ln cn, .slice ai li ci], .int .i64 d]) ∧ Seen w' (fun j => j < w0.heap.size ∨ w.heap.size ≤ j) R (five k x s (.slice an ln cn) (.slice ai li ci)) ∧ Below w.heap.size w w'
theorem rs_end {w0 w W : World} {b1 b2 : Array Value} {R : Tr} {cs : List Value} (hT : Tri w b1 b2 W) (h0 : w0.heap.size ≤ w.heap.size) (hS : Seen W (fun j => j < w0.heap.size ∨ w.heap.size + 3 ≤ j) R cs) (a0 a1 a2 a3 a4 : Value) :
    Seen (put5 W (w.heap.size + 2) a0 a1 a2 a3 a4) (fun j => j < w0.heap.size ∨ w.heap.size ≤ j) R cs ∧ Below w.heap.size w (put5 W (w.heap.size + 2) a0 a1 a2 a3 a4) :=
  ⟨fun W' ha => hS W' ⟨by have := ha.1; rw [put5_size] at this; exact this, fun p u hp hc => ha.2 p u (hp.elim .inl (fun h => .inr (by omega))) ((World.cell?_of_block (w := W) (put5_far _ _ _ _ _ (by omega))).trans hc)⟩, hT.below.trans (put5_below (by omega) _ _ _ _ _)⟩
theorem zero_seen (W : World) (S : Nat → Prop) : Seen W S zeroT (five 0 0 ⟨#[]⟩ (.slice none 0 0) (.slice none 0 0)) := fun W' _ => zero_rep W'
theorem idx_v {s : ByteArray} {N : Nat} {bs : Bool} (h1 : (idx s).getD 0 = N) (h2 : (idx s).isSome = bs) : idxV s = .tuple #[.int .i64 (N : Int), .bool bs] := by unfold idxV; rw [h1, h2]
theorem ranew_any (k x : Int) (tx : ByteArray) (ns : List ByteArray) (its : List Tr) (cs : List Value) (hk : k = 5 ∨ k = 6) (hb : (its.length + 1) * 80 ≤ 140737488355328) (w0 w : World) (h0 : Below w0.heap.size w0 w) (hV : VRep w0 (.node k x tx ns its) cs) :
    ∃ xs, ItemsRep w0 (keepIts k ns its) xs ∧ Calls Try.prog 37 #[.agg cs.toArray] w (RAnew w k (keepNs k ns its) (keepIts k ns its).length xs) := by
  obtain ⟨an, cn, ai, ci, xs, rfl, hcn, hci, hN, hI, hR⟩ := hV.parts
  have hN' := hN.keep h0
  have hI' := hI.keep h0
  rcases hk with rfl | rfl
  · exact ⟨xs, hR, ranew5 x tx an ns.length cn ai its.length ci xs hR.length hb (hid_e hR.ones) w (hid_e hI')⟩
  · have hl : (its.take (min ns.length its.length)).length = min ns.length its.length := by rw [List.length_take]; omega
    refine ⟨xs.take (min ns.length its.length * 5), hR.take _, ?_⟩
    have := ranew6 x tx an ns.length cn ai its.length ci (min ns.length its.length) (ns.take (min ns.length its.length)) (xs.take (min ns.length its.length * 5)) rfl hcn.1 hci.1 (by rw [List.length_take]; omega) (by rw [List.length_take, hR.length]; omega) (by omega) (hid_e (fun v hv => hR.ones v (List.mem_of_mem_take hv))) w (hid_e (by rw [← strs_take]; exact hN'.take _)) (hid_e (hI'.take _))
    unfold keepIts keepNs
    rw [if_pos rfl, if_pos rfl, hl]
    exact this
/-- Behind the call of itself. -/
structure HitAt (w0 w : World) (b1 b2 : Array Value) (R : Tr) (g : Nat) (y : Array Value) (W : World) : Prop where
  tri : Tri w b1 b2 W
  box : W.heap[g]? = some (.cells y 25 (0, 0))
  gt : w.heap.size + 3 ≤ g
  seen : Seen W (fun j => j < w0.heap.size ∨ (w.heap.size + 3 ≤ j ∧ j ≠ g)) R y.toList
theorem hit_put {w0 w W : World} {b1 b2 : Array Value} {R : Tr} {c0 c1 c2 c3 c4 : Value} {g : Nat} (hT : Tri w b1 b2 W) (hg : w.heap.size + 3 ≤ g) (h0 : w0.heap.size ≤ w.heap.size) (hbx : W.heap[g]? = some (.cells #[.int .i64 0, .int .i64 0, .string ⟨#[]⟩, .slice none 0 0, .slice none 0 0] 25 (0, 0))) (hs : Seen W (fun j => j < w0.heap.size ∨ (w.heap.size + 3 ≤ j ∧ j ≠ g)) R [c0, c1, c2, c3, c4]) :
    HitAt w0 w b1 b2 R g #[c0, c1, c2, c3, c4] (put5 W g c0 c1 c2 c3 c4) :=
  ⟨hT.put hg _ _ _ _ _, put5_at hbx _ _ _ _ _, hg, fun W' ha => hs W' ⟨by have := ha.1; rw [put5_size] at this; exact this, fun p u hp hc => ha.2 p u hp ((World.cell?_of_block (w := W) (put5_far _ _ _ _ _ (hp.elim (fun h => by omega) (fun h => h.2)))).trans hc)⟩⟩
theorem seen_new {w0 w Y : World} {R : Tr} {cs : List Value} {lo : Nat} (hlo : w.heap.size + 3 ≤ lo) (hs : Seen Y (fun j => j < w0.heap.size ∨ lo ≤ j) R cs) (o : Obj) : Seen (Y.alloc o) (fun j => j < w0.heap.size ∨ (w.heap.size + 3 ≤ j ∧ j ≠ Y.heap.size)) R cs :=
  fun W' ha => hs W' ⟨by have := ha.1; rw [World.size_alloc] at this; omega, fun p u hp hc => ha.2 p u (hp.elim .inl (fun h => .inr ⟨by omega, by have := cell_lt hc; omega⟩)) (cell_alloc' hc _)⟩
theorem seen_behind {w0 w Y : World} {R : Tr} {cs : List Value} {g lo : Nat} (hg : w.heap.size + 3 ≤ g) (hlo : g < lo) (hs : Seen Y (fun j => j < w0.heap.size ∨ lo ≤ j) R cs) : Seen Y (fun j => j < w0.heap.size ∨ (w.heap.size + 3 ≤ j ∧ j ≠ g)) R cs :=
  fun W' ha => hs W' ⟨ha.1, fun p u hp hc => ha.2 p u (hp.elim .inl (fun h => .inr ⟨by omega, by omega⟩)) hc⟩
theorem seenR_row {W : World} {lo : Nat} {nv : Value} {l : List ByteArray} (h : W.ownsRow lo 9 1 nv l.length (strs l)) : SeenR W (fun k => lo ≤ k) nv l := fun W' ha => by
  rcases id h.2 with ⟨rfl, h0⟩ | ⟨g, cap, cur, rfl, -⟩
  · obtain rfl := List.eq_nil_of_length_eq_zero h0
    exact ⟨none, 0, rfl, ⟨Nat.le_refl _, by decide⟩, .inl rfl⟩
  · exact own_reads h (ownsRow_ge h (g := g) rfl).1 ha
theorem rows_keep {W W' : World} {lo lo' gi m c n : Nat} {nv : Value} {xs ys : List Value} (hN : W.ownsRow lo 9 1 nv n xs) (hI : W.ownsRow lo' 25 5 (.slice (some ⟨gi, 0, none⟩) m c) m ys) (hk : ∀ j, j ≠ gi → W'.heap[j]? = W.heap[j]?) : W'.ownsRow lo 9 1 nv n xs :=
  ownsRow_keep hN (fun j hj => hk j (fun e => by
    rcases rows_apart hN hI (by decide) with h | h
    · rw [h] at hj; cases hj
    · exact h (by rw [hj, e]; rfl)))
theorem seen_less {w0 w W : World} {R : Tr} {cs : List Value} {g n : Nat} (hn : w.heap.size + 3 ≤ n) (h : Seen W (fun k => (k < w0.heap.size ∨ (w.heap.size + 3 ≤ k ∧ k ≠ g)) ∨ n ≤ k) R cs) : Seen W (fun j => j < w0.heap.size ∨ w.heap.size + 3 ≤ j) R cs :=
  fun W' ha => h W' ⟨ha.1, fun p u hp hc => ha.2 p u (hp.elim (fun h => h.elim .inl (fun h => .inr h.1)) (fun h => .inr (by omega))) hc⟩
theorem Tri.grown {w W W' : World} {b1 b2 : Array Value} {g : Nat} (h : Tri w b1 b2 W) (hg : W.grownBy W' (some g)) (hgt : w.heap.size + 3 ≤ g) : Tri w b1 b2 W' :=
  ⟨h.below.trans (grown_below hg h.below.size (fun j hj => by cases hj; omega)), (hg.block _ (Array.getElem?_eq_some_iff.1 h.one).1 (fun e => by cases e; omega)).trans h.one, (hg.block _ (Array.getElem?_eq_some_iff.1 h.two).1 (fun e => by cases e; omega)).trans h.two, (hg.block _ (Array.getElem?_eq_some_iff.1 h.three).1 (fun e => by cases e; omega)).trans h.three⟩
theorem Tri.set {w W : World} {b1 b2 : Array Value} (h : Tri w b1 b2 W) {g : Nat} (hg : w.heap.size + 3 ≤ g) (j : Nat) (u : Value) : Tri w b1 b2 (W.setCell ⟨g, j, none⟩ u) :=
  h.grown (g := g) ⟨rfl, rfl, rfl, by simp, fun k _ hk => Below.heap_setCell _ _ _ _ (fun e => hk (by rw [e]))⟩ hg
theorem Tri.grownO {w W W' : World} {b1 b2 : Array Value} {r : Option Nat} (h : Tri w b1 b2 W) (hg : W.grownBy W' r) (hr : ∀ j, r = some j → w.heap.size + 3 ≤ j) : Tri w b1 b2 W' :=
  ⟨h.below.trans (grown_below hg h.below.size (fun j hj => by have := hr j hj; omega)), (hg.block _ (Array.getElem?_eq_some_iff.1 h.one).1 (fun e => by have := hr _ e.symm; omega)).trans h.one, (hg.block _ (Array.getElem?_eq_some_iff.1 h.two).1 (fun e => by have := hr _ e.symm; omega)).trans h.two, (hg.block _ (Array.getElem?_eq_some_iff.1 h.three).1 (fun e => by have := hr _ e.symm; omega)).trans h.three⟩
theorem box_set {W : World} {g j : Nat} {cs : Array Value} {t : TypeId} (h : W.heap[g]? = some (.cells cs t (0, 0))) (u : Value) : (W.setCell ⟨g, j, none⟩ u).heap[g]? = some (.cells (cs.setIfInBounds j u) t (0, 0)) := by
  simp [World.setCell, Array.getElem?_modify, h]
theorem keep_len (k : Int) (ns : List ByteArray) (its : List Tr) : (keepIts k ns its).length ≤ its.length := by
  unfold keepIts
  split
  · rw [List.length_take]; omega
  · exact Nat.le_refl _
theorem keepN_len (k : Int) (ns : List ByteArray) (its : List Tr) : (keepNs k ns its).length ≤ its.length := by
  unfold keepNs
  split
  · rw [List.length_take]; omega
  · exact Nat.zero_le _
theorem row_box {w : World} {lo : Nat} {v : Value} {n B : Nat} {xs : List Value} {b : Array Value} (h : w.ownsRow lo 9 1 v n xs) (hx : w.heap[B]? = some (.cells b 25 (0, 0))) : ∀ j, v.ownBlock = some j → j ≠ B := by
  intro j hj e
  subst e
  rcases h.2 with ⟨rfl, _⟩ | ⟨g', cap', cur, rfl, hg, hh, _⟩
  · cases hj
  · cases hj
    rw [hx] at hh
    simp at hh
set_option maxHeartbeats 16000000 in
set_option maxRecDepth 100000 in
theorem rset_cross (k : Int) (x : Int) (tx : ByteArray) (an : Option Addr) (cn : Nat) (ns : List ByteArray) (ai : Option Addr) (ci : Nat) (its : List Tr) (kx xx : Int) (sx : ByteArray) (anx : Option Addr) (lnx cnx : Nat) (aix : Option Addr) (lix cix : Nat) (b o c : Nat) (s : ByteArray) (r : List ByteArray) (w0 w : World) (h0 : Below w0.heap.size w0 w) (hs : s.size ≤ 9223372036854775806) (hp : w0.cell? ⟨b, o, none⟩ = some (.string s)) (h6 : k ≠ 6) (h5 : k ≠ 5 ∨ (idx s).isSome = false) :
    Calls Try.prog 20 #[.agg #[.int .i64 k, .int .i64 x, .string tx, .slice an ns.length cn, .slice ai its.length ci], .slice (some ⟨b, o, none⟩) (r.length + 1) c, .agg #[.int .i64 kx, .int .i64 xx, .string sx, .slice anx lnx cnx, .slice aix lix cix]] w (RS w0 w 21 zeroT) := by
  obtain ⟨N, hi1⟩ : ∃ N, (idx s).getD 0 = N := ⟨_, rfl⟩
  obtain ⟨bs, hi2⟩ : ∃ bs, (idx s).isSome = bs := ⟨_, rfl⟩
  rw [hi2] at h5
  have h6b : (k != 6) = true := by simpa using h6
  have h6c : (k == 6) = false := by simpa using h6
  have hidx := idx_v (s := s) (N := N) (bs := bs) hi1 hi2
  have hT := tri_new w #[.int .i64 k, .int .i64 x, .string tx, .slice an ns.length cn, .slice ai its.length ci] #[.int .i64 kx, .int .i64 xx, .string sx, .slice anx lnx cnx, .slice aix lix cix]
  have hne : ((((r.length + 1 : Nat) : Int)) == 0) = false := by simp; omega
  have hne2 : (((r.length : Int) + 1) == 0) = false := by simp; omega
  have i0 : (0 : Int) < ((r.length + 1 : Nat) : Int) := by omega
  have i00 : (0 : Int) < (r.length : Int) + 1 := by omega
  go_enter Try.func20, Try.ntmps20
  go_upto_region 1 with fail
  generalize ((w.alloc (.cells #[.int .i64 k, .int .i64 x, .string tx, .slice an ns.length cn, .slice ai its.length ci] 25)).alloc (.cells #[.int .i64 kx, .int .i64 xx, .string sx, .slice anx lnx cnx, .slice aix lix cix] 25)).alloc (.cells #[.int .i64 0, .int .i64 0, .string ⟨#[]⟩, .slice none 0 0, .slice none 0 0] 25) = X0 at hT ⊢
  have c0 : X0.cell? ⟨b, o, none⟩ = some (.string s) := ((h0.trans (hT.below.mono h0.size)).cell (cell_lt hp)).trans hp
  obtain ⟨y0, y1, y2, y3, y4, -⟩ := row_cells hT.one
  go_wp2_with fail
  go_fit (rindex_any s hs X0)
  rintro e w1 ⟨rfl, hw⟩
  subst hw
  rw [hidx]
  clear hidx
  by_cases h5c : k = 5
  · subst h5c
    obtain rfl : bs = false := h5.resolve_left (fun h => h rfl)
    obtain ⟨z0, z1, z2, z3, z4, zf⟩ := row_cells hT.three
    have zf0 := zf 0; have zf1 := zf 1; have zf2 := zf 2; have zf3 := zf 3; have zf4 := zf 4
    clear zf
    go_wp2_with fail
    obtain ⟨hse, hbe⟩ := rs_end hT h0.size (zero_seen _ _) (.int .i64 0) (.int .i64 0) (.string ⟨#[]⟩) (.slice none 0 0) (.slice none 0 0)
    have hr5 := put5_cells hT.three (.int .i64 0) (.int .i64 0) (.string ⟨#[]⟩) (.slice none 0 0) (.slice none 0 0)
    have r0 := hr5 0; have r1 := hr5 1; have r2 := hr5 2; have r3 := hr5 3; have r4 := hr5 4
    clear hr5
    refine bodyPost_ret (v := .tuple #[.agg #[.int .i64 0, .int .i64 0, .string ⟨#[]⟩, .slice none 0 0, .slice none 0 0], .int .i64 21]) (by simp [results, Try.results20, go_sem, r0, r1, r2, r3, r4]) rfl ?_
    exact ⟨0, 0, ⟨#[]⟩, _, _, _, _, _, _, rfl, hse, hbe⟩
  · have h5d : (k == 5) = false := by simpa using h5c
    obtain ⟨z0, z1, z2, z3, z4, zf⟩ := row_cells hT.three
    have zf0 := zf 0; have zf1 := zf 1; have zf2 := zf 2; have zf3 := zf 3; have zf4 := zf 4
    clear zf
    go_wp2_with fail
    obtain ⟨hse, hbe⟩ := rs_end hT h0.size (zero_seen _ _) (.int .i64 0) (.int .i64 0) (.string ⟨#[]⟩) (.slice none 0 0) (.slice none 0 0)
    have hr5 := put5_cells hT.three (.int .i64 0) (.int .i64 0) (.string ⟨#[]⟩) (.slice none 0 0) (.slice none 0 0)
    have r0 := hr5 0; have r1 := hr5 1; have r2 := hr5 2; have r3 := hr5 3; have r4 := hr5 4
    clear hr5
    refine bodyPost_ret (v := .tuple #[.agg #[.int .i64 0, .int .i64 0, .string ⟨#[]⟩, .slice none 0 0, .slice none 0 0], .int .i64 21]) (by simp [results, Try.results20, go_sem, r0, r1, r2, r3, r4]) rfl ?_
    exact ⟨0, 0, ⟨#[]⟩, _, _, _, _, _, _, rfl, hse, hbe⟩
set_option maxHeartbeats 16000000 in
set_option maxRecDepth 100000 in
theorem rset_far (x : Int) (tx : ByteArray) (an : Option Addr) (cn : Nat) (ns : List ByteArray) (ai : Option Addr) (ci : Nat) (its : List Tr) (kx xx : Int) (sx : ByteArray) (anx : Option Addr) (lnx cnx : Nat) (aix : Option Addr) (lix cix : Nat) (b o c : Nat) (s : ByteArray) (r : List ByteArray) (w0 w : World) (h0 : Below w0.heap.size w0 w) (hs : s.size ≤ 9223372036854775806) (hp : w0.cell? ⟨b, o, none⟩ = some (.string s)) (hN : Hid (Reads w0 (.slice an ns.length cn) ns)) (hil : its.length ≤ 9223372036854775807) (N : Nat) (hi1 : (idx s).getD 0 = N) (hi2 : (idx s).isSome = true) (hpl : Hid (rplace 5 ns its.length s = -1)) (hgt : its.length < N) :
    Calls Try.prog 20 #[.agg #[.int .i64 5, .int .i64 x, .string tx, .slice an ns.length cn, .slice ai its.length ci], .slice (some ⟨b, o, none⟩) (r.length + 1) c, .agg #[.int .i64 kx, .int .i64 xx, .string sx, .slice anx lnx cnx, .slice aix lix cix]] w (RS w0 w 22 zeroT) := by
  have hidx := idx_v (s := s) (N := N) (bs := true) hi1 hi2
  have hT := tri_new w #[.int .i64 5, .int .i64 x, .string tx, .slice an ns.length cn, .slice ai its.length ci] #[.int .i64 kx, .int .i64 xx, .string sx, .slice anx lnx cnx, .slice aix lix cix]
  have hne : ((((r.length + 1 : Nat) : Int)) == 0) = false := by simp; omega
  have hne2 : (((r.length : Int) + 1) == 0) = false := by simp; omega
  have i0 : (0 : Int) < ((r.length + 1 : Nat) : Int) := by omega
  have i00 : (0 : Int) < (r.length : Int) + 1 := by omega
  go_enter Try.func20, Try.ntmps20
  go_upto_region 1 with fail
  generalize ((w.alloc (.cells #[.int .i64 5, .int .i64 x, .string tx, .slice an ns.length cn, .slice ai its.length ci] 25)).alloc (.cells #[.int .i64 kx, .int .i64 xx, .string sx, .slice anx lnx cnx, .slice aix lix cix] 25)).alloc (.cells #[.int .i64 0, .int .i64 0, .string ⟨#[]⟩, .slice none 0 0, .slice none 0 0] 25) = X0 at hT ⊢
  have c0 : X0.cell? ⟨b, o, none⟩ = some (.string s) := ((h0.trans (hT.below.mono h0.size)).cell (cell_lt hp)).trans hp
  obtain ⟨y0, y1, y2, y3, y4, -⟩ := row_cells hT.one
  go_wp2_with fail
  go_fit (rindex_any s hs X0)
  rintro e w1 ⟨rfl, hw⟩
  subst hw
  rw [hidx]
  clear hidx
  go_upto_region 7 with fail
  clear y0 y1 y2 y3 y4
  replace hT := hT.drew
  replace c0 : w1.drew.cell? ⟨b, o, none⟩ = some (.string s) := c0
  generalize hX : w1.drew = X9 at hT c0
  refine wp_region_noPanic ?_
  refine Until.wp_region_U (fun w' => Tri w #[.int .i64 5, .int .i64 x, .string tx, .slice an ns.length cn, .slice ai its.length ci] #[.int .i64 kx, .int .i64 xx, .string sx, .slice anx lnx cnx, .slice aix lix cix] w' ∧ w'.cell? ⟨b, o, none⟩ = some (.string s)) (fun _ => True) 100 (by kernel_rfl) ?_
  rw [hX]
  clear hX
  refine Until.wpU_load0 (i := 0) (oi := { dst := some 41, op := Op.load 25 (Operand.tmp 3), type := 25, pos := "ref.go:166", after := #[], guard := none }) (v := .agg #[.int .i64 5, .int .i64 x, .string tx, .slice an ns.length cn, .slice ai its.length ci]) rfl (by kernel_rfl) (by kernel_rfl) (by kernel_rfl) (by kernel_rfl) (by kernel_rfl) (fun _ _ _ h => h) ⟨hT, c0⟩ (fun _ => trivial) (by rfl) (by intro w' hw'; obtain ⟨t0, t1, t2, t3, t4, -⟩ := row_cells hw'.1.one; clear hw'; go_simp) ?_
  try simp only [Act.put, List.setIfInBounds_toArray, List.set_cons_zero, List.set_cons_succ]
  refine Until.wpU_pure (i := 1) (oi := { dst := some 42, op := Op.move (Operand.tmp 1), type := 22, pos := "ref.go:166", after := #[], guard := none }) (v := .slice (some ⟨b, o, none⟩) (r.length + 1) c) rfl (by kernel_rfl) (by kernel_rfl) (by kernel_rfl) (by kernel_rfl) (by kernel_rfl) (fun _ _ _ h => h) ⟨hT, c0⟩ (fun _ => trivial) (by rfl) (by intro w'; go_simp) ?_
  try simp only [Act.put, List.setIfInBounds_toArray, List.set_cons_zero, List.set_cons_succ]
  refine Until.wpU_pure (i := 2) (oi := { dst := some 43, op := Op.indexAddr 22 (Operand.tmp 42) (Operand.const (Value.int IntKind.i64 0)), type := 0, pos := "ref.go:166", after := #[{ on := 1, ground := Ground.data }], guard := none }) (v := .pointer (some ⟨b, o, none⟩)) rfl (by kernel_rfl) (by kernel_rfl) (by kernel_rfl) (by kernel_rfl) (by kernel_rfl) (fun _ _ _ h => h) ⟨hT, c0⟩ (fun _ => trivial) (by rfl) (by intro w'; go_simp) ?_
  try simp only [Act.put, List.setIfInBounds_toArray, List.set_cons_zero, List.set_cons_succ]
  refine Until.wpU_load0 (i := 3) (oi := { dst := some 44, op := Op.load 9 (Operand.tmp 43), type := 9, pos := "ref.go:166", after := #[{ on := 2, ground := Ground.data }], guard := none }) (v := .string s) rfl (by kernel_rfl) (by kernel_rfl) (by kernel_rfl) (by kernel_rfl) (by kernel_rfl) (fun _ _ _ h => h) ⟨hT, c0⟩ (fun _ => trivial) (by rfl) (by intro w' hw'; have t0 := hw'.2; clear hw'; go_simp) ?_
  try simp only [Act.put, List.setIfInBounds_toArray, List.set_cons_zero, List.set_cons_succ]
  refine Until.wpU_ready (rs := [4]) (by kernel_rfl) (by simp) ?_
  refine (Until.AllU.cons (o := { dst := some 45, op := Op.call { callee := Callee.value (Operand.func 36), args := #[Operand.tmp 41, Operand.tmp 44], argTypes := #[25, 9] }, type := 3, pos := "ref.go:166", after := #[{ on := 0, ground := Ground.data }, { on := 3, ground := Ground.data }], guard := none }) rfl (fun K hK => ?_) Until.AllU.nil)
  go_simp
  refine (rplace_any 5 x tx an cn ns ai its.length ci s _ (hid_f (hN.out.keep (h0.trans (hT.below.mono h0.size)))) hil hs).mono ?_
  rintro e X1 ⟨rfl, hb⟩
  rw [hpl.out]
  replace hT := hT.keep hb
  replace c0 := (hb.cell (cell_lt c0)).trans c0
  clear hb
  refine hK.out _ _ ⟨hT, c0⟩ (fun _ => trivial) ?_
  clear hK K
  try simp only [Act.put, List.setIfInBounds_toArray, List.set_cons_zero, List.set_cons_succ]
  refine Until.wpU_ready (rs := [5]) (by kernel_rfl) (by simp) ?_
  refine (Until.AllU.cons (o := { dst := some 11, op := Op.assign (Operand.tmp 45), type := 3, pos := "ref.go:166", after := #[{ on := 4, ground := Ground.data }, { on := 4, ground := Ground.chain }, { on := 0, ground := Ground.phase }, { on := 1, ground := Ground.phase }, { on := 2, ground := Ground.phase }, { on := 3, ground := Ground.phase }, { on := 4, ground := Ground.phase }], guard := none }) rfl (fun K hK => ?_) Until.AllU.nil)
  go_simp
  refine hK.out _ _ ⟨hT, c0⟩ (fun _ => trivial) ?_
  clear hK K
  try simp only [Act.put, List.setIfInBounds_toArray, List.set_cons_zero, List.set_cons_succ]
  refine Until.wpU_done (by kernel_rfl) ?_ _
  refine NoPanic.normal ?_
  have hg : decide ((its.length : Int) < (N : Int)) = true := by simp; omega
  have hg2 : (its.length : Int) < (N : Int) := by omega
  obtain ⟨y0, y1, y2, y3, y4, -⟩ := row_cells hT.one
  clear y0 y1 y2 y3
  obtain ⟨z0, z1, z2, z3, z4, zf⟩ := row_cells hT.three
  have zf0 := zf 0; have zf1 := zf 1; have zf2 := zf 2; have zf3 := zf 3; have zf4 := zf 4
  clear zf
  go_wp2_with fail
  obtain ⟨hse, hbe⟩ := rs_end hT h0.size (zero_seen _ _) (.int .i64 0) (.int .i64 0) (.string ⟨#[]⟩) (.slice none 0 0) (.slice none 0 0)
  have hr5 := put5_cells hT.three (.int .i64 0) (.int .i64 0) (.string ⟨#[]⟩) (.slice none 0 0) (.slice none 0 0)
  have r0 := hr5 0; have r1 := hr5 1; have r2 := hr5 2; have r3 := hr5 3; have r4 := hr5 4
  clear hr5
  refine bodyPost_ret (v := .tuple #[.agg #[.int .i64 0, .int .i64 0, .string ⟨#[]⟩, .slice none 0 0, .slice none 0 0], .int .i64 22]) (by simp [results, Try.results20, go_sem, r0, r1, r2, r3, r4]) rfl ?_
  exact ⟨0, 0, ⟨#[]⟩, _, _, _, _, _, _, rfl, hse, hbe⟩
end Go.Proofs.Ytmlbofbnklmedaa
