import Derived.Test.YtnccaidlcaeeaaaGreatDoorV1
import Derived.Test.YtnccaidlcaeeaaaGreatDoorV5
import Derived.Test.YtnccaidlcaeeaaaGreatDoorU1
import Derived.Deep.RegionHeld3
import Derived.Deep.DeepCutAuto
import Derived.Test.YtnccaidlcaeeaaaGreatDoorS2
/-! Equal, Equal. -/
namespace Go.Proofs.YtnccaidlcaeeaaaGreatDoor.Tree
open Go Go.RowKit

set_option maxHeartbeats 2000000 in
set_option maxRecDepth 100000 in
theorem eq_one (k x : Int) (s : ByteArray) (a1 : Option Addr) (N c1 : Nat) (a2 : Option Addr) (M c2 : Nat) (b1 : Option Addr) (d1 : Nat) (b2 : Option Addr) (d2 : Nat) (w : World) (hNm : N ≤ 9223372036854775807) (hMm : M ≤ 9223372036854775807)
    (hN : Hid (∀ i, i < N → ∃ (g o g' o' : Nat) (nm : ByteArray), a1 = some ⟨g, o, none⟩ ∧ b1 = some ⟨g', o', none⟩ ∧ w.cell? ⟨g, o + i, none⟩ = some (.string nm) ∧ w.cell? ⟨g', o' + i, none⟩ = some (.string nm)))
    (hI : Hid (∀ i, i < M → ∃ (g o g' o' : Nat) (k2 x2 : Int) (s2 : ByteArray) (p1 : Option Addr) (l1 e1 : Nat) (p2 : Option Addr) (l2 e2 : Nat) (q1 : Option Addr) (f1 : Nat) (q2 : Option Addr) (f2 : Nat), a2 = some ⟨g, o, none⟩ ∧ b2 = some ⟨g', o', none⟩ ∧
      CellsAt w g (o + i * 5) [.int .i64 k2, .int .i64 x2, .string s2, .slice p1 l1 e1, .slice p2 l2 e2] ∧ CellsAt w g' (o' + i * 5) [.int .i64 k2, .int .i64 x2, .string s2, .slice q1 l1 f1, .slice q2 l2 f2] ∧
      ∀ w', Below w.heap.size w w' → Calls Tryz.prog 8 #[.agg #[.int .i64 k2, .int .i64 x2, .string s2, .slice p1 l1 e1, .slice p2 l2 e2], .agg #[.int .i64 k2, .int .i64 x2, .string s2, .slice q1 l1 f1, .slice q2 l2 f2]] w' fun e w'' => e = .returned (.bool true) ∧ Below w'.heap.size w' w'')) :
    Calls Tryz.prog 8 #[.agg #[.int .i64 k, .int .i64 x, .string s, .slice a1 N c1, .slice a2 M c2], .agg #[.int .i64 k, .int .i64 x, .string s, .slice b1 N d1, .slice b2 M d2]] w fun e w' => e = .returned (.bool true) ∧ Below w.heap.size w w' := by
  have hB2 : ∀ p q, Below w.heap.size w ((w.alloc p).alloc q) := fun p q => ((Below.refl _ w).alloc (Nat.le_refl _) p).alloc (by simp) q
  go_enter Tryz.func8, Tryz.ntmps8
  go_wp2_with fail
  go_loopw [5] (fun i wr => ∃ q : Nat, q ≤ N ∧ i = .int .i64 q ∧ Below w.heap.size w wr ∧ wr.heap[w.heap.size]? = some (.cells #[.int .i64 k, .int .i64 x, .string s, .slice a1 N c1, .slice a2 M c2] 25 (0, 0)) ∧ wr.heap[w.heap.size + 1]? = some (.cells #[.int .i64 k, .int .i64 x, .string s, .slice b1 N d1, .slice b2 M d2] 25 (0, 0))) (fun i _ => N - (intOf i).toNat)
  case atStart => exact ⟨0, Nat.zero_le _, rfl, hB2 _ _, new1 w _ _, new2 w _ _⟩
  case round =>
    obtain ⟨q, hq, rfl, HB, h0, h1⟩ := hrel
    clear hB2
    obtain ⟨-, -, -, y3, y4, -⟩ := row_cells h0
    obtain ⟨-, -, -, y3', -, -⟩ := row_cells h1
    by_cases hlt : q < N
    · obtain ⟨g, o, g', o', nm, rfl, rfl, hc, hc'⟩ := hN.out q hlt
      have n1 := stay HB hc
      have n2 := stay HB hc'
      have i1 : (q : Int) < (N : Int) := by omega
      have i2 : (0 : Int) ≤ (q : Int) := by omega
      have hd : decide ((q : Int) < (N : Int)) = true := by simp; omega
      clear hc hc' y4
      go_wp2_with fail
      go_quiet (fail)
      go_wp2_with fail
      go_roundw
      case rel => exact ⟨q + 1, by omega, by simp, below_drewN HB nq, h0, h1⟩
      case measure => simp [intOf]; omega
    · have hd : decide ((q : Int) < (N : Int)) = false := by simp; omega
      clear y3' y4
      go_wp2_with fail
      clear y3
      go_loopw [6] (fun i wr => ∃ p : Nat, p ≤ M ∧ i = .int .i64 p ∧ Below w.heap.size w wr ∧ wr.heap[w.heap.size]? = some (.cells #[.int .i64 k, .int .i64 x, .string s, .slice a1 N c1, .slice a2 M c2] 25 (0, 0)) ∧ wr.heap[w.heap.size + 1]? = some (.cells #[.int .i64 k, .int .i64 x, .string s, .slice b1 N d1, .slice b2 M d2] 25 (0, 0))) (fun i _ => M - (intOf i).toNat)
      case atStart => exact ⟨0, Nat.zero_le _, rfl, HB, h0, h1⟩
      case round =>
        clear HB h0 h1
        obtain ⟨p, hp, rfl, HB, h0, h1⟩ := hrel
        obtain ⟨-, -, -, -, y4, -⟩ := row_cells h0
        obtain ⟨-, -, -, -, y4', -⟩ := row_cells h1
        by_cases hlt2 : p < M
        · obtain ⟨g, o, g', o', k2, x2, s2, p1, l1, e1, p2, l2, e2, q1, f1, q2, f2, rfl, rfl, hia, hia', hcall⟩ := hI.out p hlt2
          have HC := hid_e hcall
          have i1 : (p : Int) < (M : Int) := by omega
          have i2 : (0 : Int) ≤ (p : Int) := by omega
          have hd2 : decide ((p : Int) < (M : Int)) = true := by simp; omega
          have z0 := stay HB (hia 0 _ rfl)
          have z1 := stay HB (hia 1 _ rfl)
          have z2 := stay HB (hia 2 _ rfl)
          have z3 := stay HB (hia 3 _ rfl)
          have z4 := stay HB (hia 4 _ rfl)
          have v0 := stay HB (hia' 0 _ rfl)
          have v1 := stay HB (hia' 1 _ rfl)
          have v2 := stay HB (hia' 2 _ rfl)
          have v3 := stay HB (hia' 3 _ rfl)
          have v4 := stay HB (hia' 4 _ rfl)
          simp only [Nat.add_zero] at z0 v0
          clear hia hia' hcall
          go_wp2_with fail
          refine wp_region_quiet (C := fun w' => Below wr.heap.size wr w') (by kernel_rfl) (by kernel_rfl) (below_drewN (Below.refl _ _) 1) ?_
          refine wpQuiet_step (fun K hK => ?_)
          go_simp
          refine ⟨_, fun _ _ => rfl, hK _ ?_⟩
          clear hK K
          refine wpQuiet_step (fun K hK => ?_)
          refine ⟨.slice (some ⟨g, o, none⟩) M c2, fun w' hw' => ?_, hK _ ?_⟩
          · have := stay hw' y4
            go_simp
          clear hK K
          refine wpQuiet_step (fun K hK => ?_)
          go_simp
          refine ⟨_, fun _ _ => rfl, hK _ ?_⟩
          clear hK K
          refine wpQuiet_step (fun K hK => ?_)
          go_simp
          refine ⟨_, fun _ _ => rfl, hK _ ?_⟩
          clear hK K
          refine wpQuiet_step (fun K hK => ?_)
          refine ⟨.agg #[.int .i64 k2, .int .i64 x2, .string s2, .slice p1 l1 e1, .slice p2 l2 e2], fun w' hw' => ?_, hK _ ?_⟩
          · have t0 := stay hw' z0
            have t1 := stay hw' z1
            have t2 := stay hw' z2
            have t3 := stay hw' z3
            have t4 := stay hw' z4
            go_simp
          clear hK K
          refine wpQuiet_step (fun K hK => ?_)
          go_simp
          refine ⟨_, fun _ _ => rfl, hK _ ?_⟩
          clear hK K
          refine wpQuiet_step (fun K hK => ?_)
          refine ⟨.slice (some ⟨g', o', none⟩) M d2, fun w' hw' => ?_, hK _ ?_⟩
          · have := stay hw' y4'
            go_simp
          clear hK K
          refine wpQuiet_step (fun K hK => ?_)
          go_simp
          refine ⟨_, fun _ _ => rfl, hK _ ?_⟩
          clear hK K
          refine wpQuiet_step (fun K hK => ?_)
          go_simp
          refine ⟨_, fun _ _ => rfl, hK _ ?_⟩
          clear hK K
          refine wpQuiet_step (fun K hK => ?_)
          refine ⟨.agg #[.int .i64 k2, .int .i64 x2, .string s2, .slice q1 l1 f1, .slice q2 l2 f2], fun w' hw' => ?_, hK _ ?_⟩
          · have t0 := stay hw' v0
            have t1 := stay hw' v1
            have t2 := stay hw' v2
            have t3 := stay hw' v3
            have t4 := stay hw' v4
            go_simp
          clear hK K
          refine wpQuiet_step (fun K hK => ?_)
          refine ⟨.bool true, fun w' hw' => ?_, hK _ ?_⟩
          · go_simp
            refine (HC.out w' (HB.trans (hw'.mono HB.size))).mono ?_
            rintro e w'' ⟨rfl, hb⟩
            exact ⟨rfl, hw'.trans (hb.mono hw'.size)⟩
          clear hK K
          refine wpQuiet_step (fun K hK => ?_)
          go_simp
          refine ⟨_, fun _ _ => rfl, hK _ ?_⟩
          clear hK K
          refine wpQuiet_nil ?_
          intro w' hw'
          have HB' : Below w.heap.size w w' := HB.trans (hw'.mono HB.size)
          have h0' := (hw'.block _ (Array.getElem?_eq_some_iff.1 h0).1).trans h0
          have h1' := (hw'.block _ (Array.getElem?_eq_some_iff.1 h1).1).trans h1
          clear hw' y4 y4' z0 z1 z2 z3 z4 v0 v1 v2 v3 v4
          go_wp2_with fail
          go_roundw
          case rel => exact ⟨p + 1, by omega, by simp, HB', h0', h1'⟩
          case measure => simp [intOf]; omega
        · have hd2 : decide ((p : Int) < (M : Int)) = false := by simp; omega
          go_wp2_with fail
          go_ret
          exact ⟨rfl, HB⟩

theorem reads_two {w : World} {a b : Option Addr} {N c d : Nat} {l : List ByteArray} (h : Reads w (.slice a N c) l) (h' : Reads w (.slice b N d) l) : ∀ i, i < N → ∃ (g o g' o' : Nat) (nm : ByteArray), a = some ⟨g, o, none⟩ ∧ b = some ⟨g', o', none⟩ ∧ w.cell? ⟨g, o + i, none⟩ = some (.string nm) ∧ w.cell? ⟨g', o' + i, none⟩ = some (.string nm) := by
  intro i hi
  obtain ⟨a0, c0, e, _, h⟩ := h
  obtain ⟨b0, d0, e', _, h'⟩ := h'
  cases e
  cases e'
  obtain ⟨g, o, rfl, _, h⟩ := h.resolve_left (by intro e; subst e; simp at hi)
  obtain ⟨g', o', rfl, _, h'⟩ := h'.resolve_left (by intro e; subst e; simp at hi)
  exact ⟨g, o, g', o', l[i], rfl, rfl, h i _ (List.getElem?_eq_getElem hi), h' i _ (List.getElem?_eq_getElem hi)⟩

theorem equal_same (t : Tr) (cs cs' : List Value) (w : World) (hV : VRep w t cs) (hV' : VRep w t cs') :
    Calls Tryz.prog 8 #[.agg cs.toArray, .agg cs'.toArray] w fun e w' => e = .returned (.bool true) ∧ Below w.heap.size w w' := by
  match t, hV, hV' with
  | .node k x s ns its, hV, hV' =>
    unfold VRep at hV hV'
    obtain ⟨nm, a, c, rfl, hn, hc, hI⟩ := hV
    obtain ⟨nm', a', c', rfl, hn', hc', hI'⟩ := hV'
    obtain ⟨an, cn, rfl, hcn, -⟩ := id hn
    obtain ⟨an', cn', rfl, -, -⟩ := id hn'
    refine eq_one k x s an ns.length cn a its.length c an' cn' a' c' w (by omega) (by omega) (hid_e (reads_two hn hn')) (hid_e (fun i hi => ?_))
    obtain ⟨b, o, rfl, hb, hL⟩ := hI.resolve_left (by intro e; subst e; simp at hi)
    obtain ⟨b', o', rfl, hb', hL'⟩ := hI'.resolve_left (by intro e; subst e; simp at hi)
    obtain ⟨u, hu⟩ : ∃ u, its[i]? = some u := ⟨_, List.getElem?_eq_getElem hi⟩
    obtain ⟨ds, h1, h2⟩ := VRepL.at its o i u hL hu
    obtain ⟨ds', h1', h2'⟩ := VRepL.at its o' i u hL' hu
    have hlt : SizeOf.sizeOf u < SizeOf.sizeOf its := tr_lt hu
    have hrec := fun w' (hw : Below w.heap.size w w') => equal_same u ds ds' w' (VRep.keep hw _ _ h2) (VRep.keep hw _ _ h2')
    cases u with
    | node k2 x2 s2 ns2 its2 =>
      unfold VRep at h2 h2'
      obtain ⟨n2, a2, c2, rfl, ⟨p2, e2, rfl, _⟩, _⟩ := h2
      obtain ⟨n2', a2', c2', rfl, ⟨p2', e2', rfl, _⟩, _⟩ := h2'
      exact ⟨b, o, b', o', k2, x2, s2, p2, ns2.length, e2, a2, its2.length, c2, p2', e2', a2', c2', rfl, rfl, h1, h1', hrec⟩
termination_by SizeOf.sizeOf t
decreasing_by simp only [Tr.node.sizeOf_spec]; omega
end Go.Proofs.YtnccaidlcaeeaaaGreatDoor.Tree
/-! What Copy leans on: what is read in certain blocks only; a list of texts appended to an empty one. -/
namespace Go.Proofs.YtnccaidlcaeeaaaGreatDoor.Tree
open Go Go.RowKit

def Agree (S : Nat → Prop) (W W' : World) : Prop := W.heap.size ≤ W'.heap.size ∧ ∀ p u, S p.block → W.cell? p = some u → W'.cell? p = some u
/-- t is read off these cells, whatever the other blocks hold. -/
def Seen (W : World) (S : Nat → Prop) (t : Tr) (cs : List Value) : Prop := ∀ W', Agree S W W' → VRep W' t cs
theorem cell_lt {W : World} {p : Addr} {v : Value} (h : W.cell? p = some v) : p.block < W.heap.size := by
  rcases Nat.lt_or_ge p.block W.heap.size with h' | h'
  · exact h'
  · simp [World.cell?, Array.getElem?_eq_none h'] at h
theorem Reads.mono {W W' : World} {v : Value} {l : List ByteArray} (hk : ∀ p u, W.cell? p = some u → W'.cell? p = some u) (hs : W.heap.size ≤ W'.heap.size) (h : Reads W v l) : Reads W' v l := by
  obtain ⟨a, c, rfl, hc, h | ⟨b, o, rfl, hlt, h⟩⟩ := h
  · exact ⟨a, c, rfl, hc, .inl h⟩
  · exact ⟨_, c, rfl, hc, .inr ⟨b, o, rfl, Nat.lt_of_lt_of_le hlt hs, fun j s hj => hk _ _ (h j s hj)⟩⟩
mutual
theorem VRep.mono {W W' : World} (hk : ∀ p u, W.cell? p = some u → W'.cell? p = some u) (hs : W.heap.size ≤ W'.heap.size) : (t : Tr) → (cs : List Value) → VRep W t cs → VRep W' t cs
  | .node k x s ns its, cs, h => by
    unfold VRep at *
    obtain ⟨nm, a, c, h1, h2, h3, h4⟩ := h
    refine ⟨nm, a, c, h1, h2.mono hk hs, h3, ?_⟩
    rcases h4 with h4 | ⟨b, o, h5, h6, h7⟩
    · exact .inl h4
    · exact .inr ⟨b, o, h5, Nat.lt_of_lt_of_le h6 hs, VRepL.mono hk hs _ its h7⟩
theorem VRepL.mono {W W' : World} (hk : ∀ p u, W.cell? p = some u → W'.cell? p = some u) (hs : W.heap.size ≤ W'.heap.size) {b : Nat} : (o : Nat) → (its : List Tr) → VRepL W b o its → VRepL W' b o its
  | _, [], _ => by unfold VRepL; trivial
  | _, t :: ts, h => by
    unfold VRepL at *
    obtain ⟨cs, h1, h2, h3⟩ := h
    exact ⟨cs, fun j u hj => hk _ _ (h1 j u hj), VRep.mono hk hs t cs h2, VRepL.mono hk hs _ ts h3⟩
end
theorem seen_rep {w : World} {t : Tr} {cs : List Value} (h : VRep w t cs) : Seen w (· < w.heap.size) t cs := fun _ a => VRep.mono (fun p u hp => a.2 p u (cell_lt hp) hp) a.1 t cs h
theorem Seen.rep {W : World} {S : Nat → Prop} {t : Tr} {cs : List Value} (h : Seen W S t cs) : VRep W t cs := h W ⟨Nat.le_refl _, fun _ _ _ h => h⟩
theorem seen_next {w w' W' : World} {S S' : Nat → Prop} {t : Tr} {cs : List Value} (hV : Seen w S t cs) (hB : Below w.heap.size w w') (hS : ∀ k, S k → S' k) (h : Agree S' w' W') : VRep W' t cs :=
  hV W' ⟨Nat.le_trans hB.size h.1, fun p u hp hc => h.2 p u (hS _ hp) ((hB.cell (cell_lt hc)).trans hc)⟩
theorem Seen.keep {w w' : World} {S : Nat → Prop} {t : Tr} {cs : List Value} (hV : Seen w S t cs) (hB : Below w.heap.size w w') : Seen w' S t cs := fun _ h => seen_next hV hB (fun _ h => h) h
/-- An object of one member. -/
theorem run_append_none {P : Program} (w : World) (t ty e : TypeId) (i : TypeInfo) (ht : P.underlying t = some (.slice e)) (hi : P.info? e = some i) (g n cap : Nat) (hn : n ≤ cap) (ax : Option Addr) (c : Nat) :
    (Builtin.append_ #[t, t] ty #[.slice (some ⟨g, 0, none⟩) n cap, .slice ax 0 c]).run P w = .ok (.slice (some ⟨g, 0, none⟩) n cap) w := by
  have hs : Src P i.size t (.slice ax 0 c) 0 [] w := by
    cases ax with
    | none => exact Src.ofNil w ht c
    | some a => exact Src.ofSlice w ht a 0 c [] (by simp) (fun j u h => by simp at h) (fun u h => by cases h)
  have := run_append_room_src (P := P) w t t ty e i ht hi g 0 n cap _ 0 [] hs (by omega) (fun j h => by simp at h) (fun j h => by simp at h)
  rw [this]
  rfl
theorem owns_empty (w : World) : (w.alloc (.cells #[] 9)).ownsRow w.heap.size 9 1 (.slice (some ⟨w.heap.size, 0, none⟩) 0 0) 0 [] :=
  ⟨rfl, .inr ⟨w.heap.size, 0, #[], rfl, Nat.le_refl _, heap_alloc_new w _, Nat.le_refl _, Nat.zero_le _, rfl, rfl⟩⟩
/-- Texts that lie in certain blocks. -/
def SeenR (W : World) (S : Nat → Prop) (v : Value) (l : List ByteArray) : Prop := ∀ W', Agree S W W' → Reads W' v l
theorem own_reads {W W' : World} {lo : Nat} {S : Nat → Prop} {g cap : Nat} {l : List ByteArray} (h : W.ownsRow lo 9 1 (.slice (some ⟨g, 0, none⟩) l.length cap) l.length (strs l)) (hS : S g) (ha : Agree S W W') : Reads W' (.slice (some ⟨g, 0, none⟩) l.length cap) l := by
  obtain ⟨h1, h2⟩ := h
  rcases h2 with ⟨hv, _⟩ | ⟨g', cap', cur, hv, hg, hh, hc, hm, hs, hr⟩
  · cases hv
  · cases hv
    refine ⟨_, cap, rfl, ⟨hc, by unfold maxLen at hm; omega⟩, .inr ⟨g, 0, rfl, Nat.lt_of_lt_of_le (Array.getElem?_eq_some_iff.1 hh).1 ha.1, fun j s hj => ha.2 _ _ hS ?_⟩⟩
    have hlt : j < l.length := (List.getElem?_eq_some_iff.1 hj).1
    have : (strs l)[j]? = some (.string s) := by unfold strs; rw [List.getElem?_map, hj]; rfl
    rw [← hr, List.getElem?_take_of_lt (by omega), Array.getElem?_toList] at this
    simp [World.cell?, hh, this]
/-- Items, one behind the other, as cells. -/
def ItemsRep (W : World) : List Tr → List Value → Prop
  | [], xs => xs = []
  | t :: ts, xs => ∃ cs rest, xs = cs ++ rest ∧ cs.length = 5 ∧ VRep W t cs ∧ ItemsRep W ts rest
theorem ItemsRep.snoc {W : World} {u : Tr} {cs : List Value} (hl : cs.length = 5) (hu : VRep W u cs) : {ts : List Tr} → {xs : List Value} → ItemsRep W ts xs → ItemsRep W (ts ++ [u]) (xs ++ cs)
  | [], xs, h => by
    unfold ItemsRep at h
    subst h
    show ItemsRep W [u] ([] ++ cs)
    unfold ItemsRep
    exact ⟨cs, [], by simp, hl, hu, by unfold ItemsRep; rfl⟩
  | t :: ts, xs, h => by
    unfold ItemsRep at h
    obtain ⟨c1, r, rfl, h1, h2, h3⟩ := h
    show ItemsRep W (t :: (ts ++ [u])) _
    unfold ItemsRep
    exact ⟨c1, r ++ cs, by simp, h1, h2, ItemsRep.snoc hl hu h3⟩
theorem ItemsRep.list {W : World} {b : Nat} : (ts : List Tr) → (xs : List Value) → (o : Nat) → ItemsRep W ts xs → (∀ j u, xs[j]? = some u → W.cell? ⟨b, o + j, none⟩ = some u) → VRepL W b o ts
  | [], _, _, _, _ => by unfold VRepL; trivial
  | t :: ts, xs, o, h, hc => by
    unfold ItemsRep at h
    obtain ⟨cs, r, rfl, h1, h2, h3⟩ := h
    unfold VRepL
    refine ⟨cs, fun j u hj => hc j u (by rw [List.getElem?_append_left (List.getElem?_eq_some_iff.1 hj).1]; exact hj), h2, ItemsRep.list ts r (o + 5) h3 (fun j u hj => ?_)⟩
    have := hc (5 + j) u (by rw [List.getElem?_append_right (by omega), h1, Nat.add_sub_cancel_left]; exact hj)
    rwa [show o + 5 + j = o + (5 + j) by omega]

theorem row_cell {w : World} {lo : Nat} {e : TypeId} {size g n cap : Nat} {xs : List Value} (h : w.ownsRow lo e size (.slice (some ⟨g, 0, none⟩) n cap) n xs) : ∀ j u, xs[j]? = some u → w.cell? ⟨g, j, none⟩ = some u := by
  intro j u hj
  obtain ⟨h1, h2⟩ := h
  rcases h2 with ⟨hv, _⟩ | ⟨g', cap', cur, hv, hg, hh, hc, hm, hs, hr⟩
  · cases hv
  · cases hv
    have hlt := (List.getElem?_eq_some_iff.1 hj).1
    rw [← hr, List.getElem?_take_of_lt (by rw [← h1]; exact hlt), Array.getElem?_toList] at hj
    simp [World.cell?, hh, hj]
theorem row_cap {w : World} {lo : Nat} {e : TypeId} {size g n cap : Nat} {xs : List Value} (h : w.ownsRow lo e size (.slice (some ⟨g, 0, none⟩) n cap) n xs) : n ≤ cap ∧ cap ≤ 9223372036854775807 := by
  rcases h.2 with ⟨hv, _⟩ | ⟨g', cap', cur, hv, hg, hh, hc, hm, hs, hr⟩
  · cases hv
  · cases hv
    exact ⟨hc, by unfold maxLen at hm; omega⟩
theorem five_one (k x : Int) (s : ByteArray) (a : Option Addr) (l c : Nat) (a' : Option Addr) (l' c' : Nat) : ∀ u ∈ [Value.int .i64 k, .int .i64 x, .string s, .slice a l c, .slice a' l' c'], u.oneCell' = true := by
  intro u hu
  simp only [List.mem_cons, List.not_mem_nil, or_false] at hu
  rcases hu with rfl | rfl | rfl | rfl | rfl <;> rfl

end Go.Proofs.YtnccaidlcaeeaaaGreatDoor.Tree
/-! The reader's values as plain trees. -/
namespace Go.Proofs.YtnccaidlcaeeaaaGreatDoor.Tree
open Go Go.RowKit

mutual
def ofJ : J → Tr
  | .null => .node 0 0 noS [] []
  | .fls => .node 1 0 noS [] []
  | .tru => .node 2 0 noS [] []
  | .int x => .node 3 x noS [] []
  | .text s => .node 4 0 s [] []
  | .list l => .node 5 0 noS [] (ofL l)
  | .obj ns l => .node 6 0 noS ns (ofL l)
def ofL : List J → List Tr
  | [] => []
  | j :: js => ofJ j :: ofL js
end
theorem ofL_len : (l : List J) → (ofL l).length = l.length
  | [] => by rw [ofL]; rfl
  | j :: js => by rw [ofL, List.length_cons, ofL_len js, List.length_cons]
theorem vrep_row {w : World} {lo n : Nat} {it : Value} {xs : List Value} {k x : Int} {s : ByteArray} {nm : Value} {ns : List ByteArray} {its : List Tr} (h2 : w.ownsRow lo 25 5 it n xs) (hn : its.length = n) (hnm : Reads w nm ns) (hI : ItemsRep w its xs) : VRep w (.node k x s ns its) (five k x s nm it) := by
  subst hn
  unfold VRep
  rcases h2.2 with ⟨rfl, h0⟩ | ⟨g, cap, cur, rfl, hg, hh, -⟩
  · have h0' : its = [] := List.eq_nil_of_length_eq_zero h0
    subst h0'
    exact ⟨nm, none, 0, rfl, hnm, ⟨Nat.le_refl _, by omega⟩, .inl rfl⟩
  · exact ⟨nm, _, cap, rfl, hnm, row_cap h2, .inr ⟨g, 0, rfl, (Array.getElem?_eq_some_iff.1 hh).1, ItemsRep.list its xs 0 hI (fun j u hj => by rw [Nat.zero_add]; exact row_cell h2 j u hj)⟩⟩
theorem reads_nil (w : World) : Reads w nilS [] := ⟨none, 0, rfl, ⟨Nat.le_refl _, by omega⟩, .inl rfl⟩
theorem vrep_flat (w : World) (k x : Int) (s : ByteArray) : VRep w (.node k x s [] []) (five k x s nilS nilS) := by
  unfold VRep
  exact ⟨nilS, none, 0, rfl, reads_nil w, ⟨Nat.le_refl _, by omega⟩, .inl rfl⟩
mutual
theorem rep_vrep {w : World} {lo hi : Nat} : (j : J) → (cs : List Value) → Rep w lo hi j cs → VRep w (ofJ j) cs
  | .null, cs, h => by
    have h' : cs = five 0 0 noS nilS nilS := h
    rw [h', ofJ]; exact vrep_flat w _ _ _
  | .fls, cs, h => by
    have h' : cs = five 1 0 noS nilS nilS := h
    rw [h', ofJ]; exact vrep_flat w _ _ _
  | .tru, cs, h => by
    have h' : cs = five 2 0 noS nilS nilS := h
    rw [h', ofJ]; exact vrep_flat w _ _ _
  | .int x, cs, h => by
    have h' : cs = five 3 x noS nilS nilS := h
    rw [h', ofJ]; exact vrep_flat w _ _ _
  | .text s, cs, h => by
    have h' : cs = five 4 0 s nilS nilS := h
    rw [h', ofJ]; exact vrep_flat w _ _ _
  | .list l, cs, h => by
    unfold Rep at h
    obtain ⟨it, xs, h1, h2, h3, h4⟩ := h
    rw [ofJ]
    have h1' : cs = five 5 0 noS nilS it := h1
    rw [h1']
    exact vrep_row h2 (ofL_len l) (reads_nil w) (repL_items l xs h4)
  | .obj ns l, cs, h => by
    unfold Rep at h
    obtain ⟨nm, it, xs, h1, hnm, -, h2, h3, -, h4⟩ := h
    rw [ofJ]
    have h1' : cs = five 6 0 noS nm it := h1
    rw [h1']
    exact vrep_row h2 (ofL_len l) (reads_own hnm) (repL_items l xs h4)
theorem repL_items {w : World} {lo hi : Nat} {obs : List Nat} : (l : List J) → (xs : List Value) → RepL w lo hi obs l xs → ItemsRep w (ofL l) xs
  | [], xs, h => by
    unfold RepL at h
    rw [ofL]; unfold ItemsRep; exact h
  | j :: js, xs, h => by
    unfold RepL at h
    obtain ⟨lo', hi', -, -, -, -, h5, h6, h7⟩ := h
    rw [ofL]
    unfold ItemsRep
    exact ⟨xs.take 5, xs.drop 5, (List.take_append_drop 5 xs).symm, by rw [List.length_take]; omega, rep_vrep j _ h6, repL_items js _ h7⟩
end
end Go.Proofs.YtnccaidlcaeeaaaGreatDoor.Tree
/-! The document's reader of texts in memory: fail, next, blanks, word. -/
namespace Go.Proofs.YtnccaidlcaeeaaaGreatDoor.Tree
open Go Go.RowKit

theorem str_same (a b : ByteArray) : (a.toList == b.toList) = decide (a = b) := by
  rw [Bool.eq_iff_iff, beq_iff_eq, decide_eq_true_eq, ByteArray.toList_eq, ByteArray.toList_eq]
  constructor
  · intro h; exact ByteArray.ext (by simpa using h)
  · intro h; rw [h]
/-- All that was there is as it was, but for the blocks of S. -/
structure FrP (S : Nat → Prop) (w w' : World) : Prop where
  os : w'.os = w.os
  tape : w'.tape = w.tape
  output : w'.output = w.output
  size : w.heap.size ≤ w'.heap.size
  block : ∀ k, k < w.heap.size → ¬ S k → w'.heap[k]? = w.heap[k]?
theorem FrP.refl (S : Nat → Prop) (w : World) : FrP S w w := ⟨rfl, rfl, rfl, Nat.le_refl _, fun _ _ _ => rfl⟩
theorem FrP.trans {S : Nat → Prop} {x y z : World} (h : FrP S x y) (k : FrP S y z) : FrP S x z :=
  ⟨k.os.trans h.os, k.tape.trans h.tape, k.output.trans h.output, Nat.le_trans h.size k.size, fun i hi hb => (k.block i (Nat.lt_of_lt_of_le hi h.size) hb).trans (h.block i hi hb)⟩
theorem FrP.next {S T : Nat → Prop} {x y z : World} (h : FrP S x y) (k : FrP T y z) (hT : ∀ i, T i → S i ∨ x.heap.size ≤ i) : FrP S x z :=
  ⟨k.os.trans h.os, k.tape.trans h.tape, k.output.trans h.output, Nat.le_trans h.size k.size, fun i hi hb => (k.block i (Nat.lt_of_lt_of_le hi h.size) (fun e => (hT i e).elim hb (fun h' => by omega))).trans (h.block i hi hb)⟩
theorem FrP.of_below {S : Nat → Prop} {w w' : World} (h : Below w.heap.size w w') : FrP S w w' := ⟨h.os, h.tape, h.output, h.size, fun k hk _ => h.block k hk⟩
theorem FrP.alloc {S : Nat → Prop} {x w : World} (h : FrP S x w) (o : Obj) : FrP S x (w.alloc o) := h.trans (FrP.of_below ((Below.refl _ w).alloc (Nat.le_refl _) o))
theorem FrP.drewN {S : Nat → Prop} {x w : World} (h : FrP S x w) (n : Nat) : FrP S x (w.drewN n) := ⟨h.os, h.tape, h.output, h.size, h.block⟩
theorem FrP.drew {S : Nat → Prop} {x w : World} (h : FrP S x w) : FrP S x w.drew := ⟨h.os, h.tape, h.output, h.size, h.block⟩
theorem FrP.set {S : Nat → Prop} {x w : World} (h : FrP S x w) (p : Addr) (u : Value) (hp : S p.block ∨ x.heap.size ≤ p.block) : FrP S x (w.setCell p u) :=
  ⟨h.os, h.tape, h.output, by simpa [World.setCell] using h.size, fun k hk hs => (Below.heap_setCell _ _ _ _ (fun e => hp.elim (fun h' => hs (by rw [e]; exact h')) (fun h' => by omega))).trans (h.block k hk hs)⟩
theorem FrP.grown {S : Nat → Prop} {x w w' : World} {b : Option Nat} (h : FrP S x w) (k : w.grownBy w' b) (hb : ∀ g, b = some g → S g ∨ x.heap.size ≤ g) : FrP S x w' :=
  ⟨k.os.trans h.os, k.tape.trans h.tape, k.output.trans h.output, Nat.le_trans h.size k.size, fun i hi hs => (k.block i (Nat.lt_of_lt_of_le hi h.size) (fun e => (hb i e.symm).elim hs (fun h' => by omega))).trans (h.block i hi hs)⟩
theorem FrP.put5 {S : Nat → Prop} {x w : World} (h : FrP S x w) {g : Nat} (hg : S g ∨ x.heap.size ≤ g) (a0 a1 a2 a3 a4 : Value) : FrP S x (put5 w g a0 a1 a2 a3 a4) := by
  unfold Tree.put5
  exact ((((h.set _ _ hg).set _ _ hg).set _ _ hg).set _ _ hg).set _ _ hg
theorem FrP.below {S : Nat → Prop} {x w : World} {B : Nat} (h : FrP S x w) (hB : B ≤ x.heap.size) (hS : ∀ i, S i → B ≤ i) : Below B x w := ⟨h.os, h.tape, h.output, h.size, fun k hk => h.block k (by omega) (fun e => by have := hS k e; omega)⟩
theorem FrP.cell {S : Nat → Prop} {x w : World} (h : FrP S x w) {p : Addr} {v : Value} (hc : x.cell? p = some v) (hS : ¬ S p.block) : w.cell? p = some v := (World.cell?_of_block (w := x) (h.block _ (lt_of_cell hc) hS)).trans hc

/-- The document's reader: its text, its place, its error and that one's place. -/
def RT (w : World) (r : Nat) (T : ByteArray) (q e pl : Int) : Prop := w.heap[r]? = some (.cells #[.string T, .int .i64 q, .int .i64 e, .int .i64 pl] 48 (0, 0))
theorem RT.keep {S : Nat → Prop} {w w' : World} {r : Nat} {T : ByteArray} {q e pl : Int} (h : RT w r T q e pl) (f : FrP S w w') (hr : ¬ S r) : RT w' r T q e pl := (f.block r (Array.getElem?_eq_some_iff.1 h).1 hr).trans h
theorem RT.lt {w : World} {r : Nat} {T : ByteArray} {q e pl : Int} (h : RT w r T q e pl) : r < w.heap.size := (Array.getElem?_eq_some_iff.1 h).1
theorem RT.cells {w : World} {r : Nat} {T : ByteArray} {q e pl : Int} (h : RT w r T q e pl) : w.cell? ⟨r, 0, none⟩ = some (.string T) ∧ w.cell? ⟨r, 1, none⟩ = some (.int .i64 q) ∧ w.cell? ⟨r, 2, none⟩ = some (.int .i64 e) ∧ w.cell? ⟨r, 3, none⟩ = some (.int .i64 pl) ∧ ∀ j, w.frozen? ⟨r, j, none⟩ = false := by
  unfold RT at h
  refine ⟨?_, ?_, ?_, ?_, fun j => ?_⟩
  all_goals simp [World.cell?, World.frozen?, h]
theorem RT.set1 {w : World} {r : Nat} {T : ByteArray} {q e pl : Int} (h : RT w r T q e pl) (q' : Int) : RT (w.setCell ⟨r, 1, none⟩ (.int .i64 q')) r T q' e pl := by
  unfold RT at *
  simp [World.setCell, Array.getElem?_modify, h]
theorem RT.set2 {w : World} {r : Nat} {T : ByteArray} {q e pl : Int} (h : RT w r T q e pl) (e' : Int) : RT (w.setCell ⟨r, 2, none⟩ (.int .i64 e')) r T q e' pl := by
  unfold RT at *
  simp [World.setCell, Array.getElem?_modify, h]
theorem RT.set3 {w : World} {r : Nat} {T : ByteArray} {q e pl : Int} (h : RT w r T q e pl) (p' : Int) : RT (w.setCell ⟨r, 3, none⟩ (.int .i64 p')) r T q e p' := by
  unfold RT at *
  simp [World.setCell, Array.getElem?_modify, h]
/-- What the reader is behind a call. -/
def RSt {α : Type} (w : World) (r : Nat) (T : ByteArray) : Res α → Prop
  | .ok _ q => RT w r T (q : Int) 0 0
  | .bad e p => e ≠ 0 ∧ ∃ z : Int, RT w r T z (e : Int) (p : Int)
theorem RSt.keepF {α : Type} {S : Nat → Prop} {w w' : World} {r : Nat} {T : ByteArray} {R : Res α} (h : RSt w r T R) (f : FrP S w w') (hr : ¬ S r) : RSt w' r T R := by
  cases R with
  | ok x q => exact RT.keep h f hr
  | bad e pl => exact ⟨h.1, h.2.choose, RT.keep h.2.choose_spec f hr⟩
set_option maxHeartbeats 1000000 in
theorem fail_code (r : Nat) (T : ByteArray) (q p e : Int) (w : World) (h : RT w r T q 0 0) :
    Calls Tryz.prog 25 #[.pointer (some ⟨r, 0, none⟩), .int .i64 e, .int .i64 p] w fun x w' => x = .returned (.tuple #[]) ∧ RT w' r T q e p ∧ FrP (· = r) w w' := by
  obtain ⟨y0, y1, y2, y3, yf⟩ := h.cells
  have yf2 := yf 2
  have yf3 := yf 3
  clear yf
  go_enter Tryz.func25, Tryz.ntmps25
  go_wp2_with fail
  refine bodyPost_end (results_none rfl _ _ _) rfl ?_
  exact ⟨rfl, (h.set2 e).set3 p, ((FrP.refl (· = r) w).set _ _ (.inl rfl)).set _ _ (.inl rfl)⟩
set_option maxHeartbeats 1000000 in
theorem next_dead (r : Nat) (T : ByteArray) (q pl e : Int) (w : World) (h : RT w r T q e pl) (he : e ≠ 0) :
    Calls Tryz.prog 34 #[.pointer (some ⟨r, 0, none⟩)] w fun x w' => x = .returned (.tuple #[.int .u8 0, .bool false]) ∧ w' = w := by
  obtain ⟨y0, y1, y2, y3, yf⟩ := h.cells
  have he' : (e != 0) = true := by simpa using he
  go_enter Tryz.func34, Tryz.ntmps34
  go_wp2_with fail
  go_ret2
  exact ⟨rfl, rfl⟩
/-- next, where a byte stands. -/
theorem next_byte (r : Nat) (T : ByteArray) (q : Nat) (w : World) (h : RT w r T (q : Int) 0 0) (hq : q < T.size) :
    Calls Tryz.prog 34 #[.pointer (some ⟨r, 0, none⟩)] w fun x w' => x = .returned (.tuple #[.int .u8 ((byteAt T q).toNat : Int), .bool true]) ∧ RT w' r T (q : Int) 0 0 ∧ FrP (· = r) w w' := by
  obtain ⟨y0, y1, y2, y3, yf⟩ := h.cells
  have hd : ((q : Int) == (T.size : Int)) = false := by simp; omega
  have he := byteAt_eq hq
  have i1 : (q : Int) < (T.size : Int) := by omega
  have i2 : (0 : Int) ≤ (q : Int) := by omega
  go_enter Tryz.func34, Tryz.ntmps34
  go_wp2_with fail
  go_region
  go_wp2_with fail
  go_region
  go_wp2_with (rw [he])
  go_ret2
  exact ⟨rfl, h, (FrP.refl _ w).drewN 2⟩
/-- next, at the end. -/
theorem next_short (r : Nat) (T : ByteArray) (w : World) (h : RT w r T (T.size : Int) 0 0) :
    Calls Tryz.prog 34 #[.pointer (some ⟨r, 0, none⟩)] w fun x w' => x = .returned (.tuple #[.int .u8 0, .bool false]) ∧ RT w' r T (T.size : Int) 3 (T.size : Int) ∧ FrP (· = r) w w' := by
  obtain ⟨y0, y1, y2, y3, yf⟩ := h.cells
  have hd : ((T.size : Int) == (T.size : Int)) = true := by simp
  have hf := fun m => hid_e (fail_code r T (T.size : Int) (T.size : Int) 3 (w.drewN m) h)
  go_enter Tryz.func34, Tryz.ntmps34
  go_wp2_with fail
  go_region
  go_wp2_with fail
  go_fit (hf 1).out
  rintro e w1 ⟨rfl, h1, h2⟩
  go_wp2_with fail
  go_ret2
  exact ⟨rfl, h1, ((FrP.refl _ w).drewN 1).trans h2⟩
end Go.Proofs.YtnccaidlcaeeaaaGreatDoor.Tree
