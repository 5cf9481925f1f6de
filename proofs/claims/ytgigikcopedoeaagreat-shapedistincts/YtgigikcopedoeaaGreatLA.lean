import Derived.Test.YtgigikcopedoeaaGreatC2
import Derived.Test.YtgigikcopedoeaaGreatA5
/-! Taken over from elder texts: r3b/A8.tpl, r3b/B1.tpl, r3b/B2.tpl, r3b/C1.tpl, r3b/D2.tpl, r3b/F1.tpl, r3b/F3.tpl, r3b/G3.tpl, r3b/H1.tpl, r3b/H2.tpl, r3b/J1.tpl. -/
namespace Go.Proofs.YtgigikcopedoeaaGreat.Tree
open Go Go.RowKit
def xyz : List ByteArray := [⟨#[120]⟩, ⟨#[121]⟩, ⟨#[122]⟩]
/-- A path in memory of its own, with three texts behind its end. -/
def Owned (w : World) (l : List ByteArray) (v : Value) (w' : World) : Prop :=
  ∃ g cap, v = .slice (some ⟨g, 0, none⟩) l.length cap ∧ w'.ownsRow w.heap.size 9 1 (.slice (some ⟨g, 0, none⟩) (l.length + 3) cap) (l.length + 3) (strs (l ++ xyz))
/-- What own laid is still there. -/
theorem Owned.keep {w w' w'' : World} {l : List ByteArray} {v : Value} (h : Owned w l v w') (hb : Below w'.heap.size w' w'') : Owned w l v w'' := by
  obtain ⟨g, cap, rfl, h⟩ := h
  exact ⟨g, cap, rfl, ownsRow_below h hb⟩
def placeI (k : Int) (ns : List ByteArray) (s : ByteArray) : Int := if k = 6 then Lib.idxOfS ns s else if k = 5 then (((idx s).getD 0 : Nat) : Int) else 0
def placeB (k : Int) (ns : List ByteArray) (m : Nat) (s : ByteArray) : Bool :=
  if k = 6 then decide (0 ≤ Lib.idxOfS ns s) && decide (Lib.idxOfS ns s < m) else if k = 5 then (idx s).isSome && decide ((((idx s).getD 0 : Nat) : Int) < m) else false
theorem sindex_any (nm : Value) (ns : List ByteArray) (s : ByteArray) (w : World) (hN : Reads w nm ns) : Calls Tryz.prog 127 #[nm, .string s] w fun e w' => e = .returned (.int .i64 (Lib.idxOfS ns s)) ∧ w' = w := by
  have hl := hN.len
  obtain ⟨a, c, rfl, hc, h | ⟨b, o, rfl, hb, hA⟩⟩ := hN
  · subst h; exact Tryz.slices_Index_string_empty a c s w
  · have := Tryz.slices_Index_string b o ns.length c ns s w (Nat.le_refl _) hl (fun j hj => hA j _ (by
      rw [List.getD_eq_getElem?_getD, List.getElem?_eq_getElem hj]; rfl))
    rw [List.take_length] at this
    exact this
set_option maxHeartbeats 2000000 in
set_option maxRecDepth 100000 in
theorem place_any (k x : Int) (tx : ByteArray) (nm : Value) (ns : List ByteArray) (a : Option Addr) (m c : Nat) (s : ByteArray) (w : World) (hN : Reads w nm ns) (hs : s.size ≤ 9223372036854775806) :
    Calls Tryz.prog 107 #[.agg #[.int .i64 k, .int .i64 x, .string tx, nm, .slice a m c], .string s] w fun e w' => e = .returned (.tuple #[.int .i64 (placeI k ns s), .bool (placeB k ns m s)]) ∧ Below w.heap.size w w' := by
  have hB : ∀ o, Below w.heap.size w (w.alloc o) := fun o => (Below.refl _ _).alloc (Nat.le_refl _) _
  obtain ⟨an, cn, hnm, hcn, hA⟩ := id hN
  by_cases h6 : k = 6
  · subst h6
    have hix : ∀ o, Calls Tryz.prog 127 #[nm, .string s] (w.alloc o) fun e w' => e = .returned (.int .i64 (Lib.idxOfS ns s)) ∧ w' = w.alloc o := fun o => sindex_any nm ns s _ (hN.keep (hB o))
    clear hA hN
    subst hnm
    unfold placeI placeB
    rw [if_pos rfl, if_pos rfl]
    generalize Lib.idxOfS ns s = z at *
    by_cases h0 : 0 ≤ z
    · by_cases h1 : z < m
      all_goals
        go_enter Tryz.func107, Tryz.ntmps107
        go_wp2_with fail
        refine (hix _).mono ?_
        rintro e w1 ⟨rfl, rfl⟩
        clear hix
        go_wp2_with fail
        go_region
        go_wp2_with fail
        go_ret2
        exact ⟨by simp [h0, h1], below_drew (hB _)⟩
    · have hd : decide (0 ≤ z) = false := by simpa using h0
      rw [hd, Bool.false_and]
      go_enter Tryz.func107, Tryz.ntmps107
      go_wp2_with fail
      refine (hix _).mono ?_
      rintro e w1 ⟨rfl, rfl⟩
      clear hix
      go_wp2_with fail
      go_region
      go_wp2_with fail
      go_ret2
      exact ⟨rfl, below_drew (hB _)⟩
  · have hk6 : (k == 6) = false := by simpa using h6
    clear hA hN
    subst hnm
    by_cases h5 : k = 5
    · subst h5
      have hix : ∀ o, Calls Tryz.prog 114 #[.string s] (w.alloc o) fun e w' => e = .returned (idxV s) ∧ Below (w.alloc o).heap.size (w.alloc o) w' := fun o => index_any s hs _
      unfold placeI placeB
      rw [if_neg h6, if_neg h6, if_pos rfl, if_pos rfl]
      unfold idxV at hix
      generalize idx s = z at *
      cases z with
      | none =>
        go_enter Tryz.func107, Tryz.ntmps107
        go_wp2_with fail
        refine (hix _).mono ?_
        rintro e w1 ⟨rfl, hb1⟩
        clear hix
        go_wp2_with fail
        go_region
        go_wp2_with fail
        go_ret2
        exact ⟨rfl, below_drew (below_box hb1)⟩
      | some z =>
        by_cases h1 : z < m
        all_goals
          go_enter Tryz.func107, Tryz.ntmps107
          go_wp2_with fail
          refine (hix _).mono ?_
          rintro e w1 ⟨rfl, hb1⟩
          clear hix
          have y4 : w1.cell? ⟨w.heap.size, 4, none⟩ = some (.slice a m c) := box_cells hb1 4
          go_wp2_with fail
          go_region
          go_wp2_with fail
          go_ret2
          exact ⟨by simp [h1], below_drew (below_box hb1)⟩
    · have hk5 : (k == 5) = false := by simpa using h5
      unfold placeI placeB
      rw [if_neg h6, if_neg h6, if_neg h5, if_neg h5]
      go_enter Tryz.func107, Tryz.ntmps107
      go_wp2_with fail
      go_region
      go_wp2_with fail
      go_ret2
      exact ⟨rfl, below_drew (hB _)⟩
theorem placeB_true {k : Int} {ns : List ByteArray} {m : Nat} {s : ByteArray} (h : placeB k ns m s = true) : ∃ i : Nat, placeI k ns s = i ∧ i < m := by
  unfold placeB at h
  unfold placeI
  by_cases h6 : k = 6
  · rw [if_pos h6] at *
    simp at h
    exact ⟨(Lib.idxOfS ns s).toNat, by omega, by omega⟩
  · rw [if_neg h6] at *
    by_cases h5 : k = 5
    · rw [if_pos h5] at *
      simp at h
      exact ⟨_, rfl, by omega⟩
    · rw [if_neg h5] at h; cases h
/-- The number of the item that a segment names. -/
def placeT (t : Tr) (s : ByteArray) : Option Nat := if placeB t.kind t.names t.items.length s = true then some (placeI t.kind t.names s).toNat else none
theorem drop_cons {l : List ByteArray} {q : Nat} {x : ByteArray} (h : l[q]? = some x) : l.drop q = x :: l.drop (q + 1) := by
  obtain ⟨hlt, e⟩ := List.getElem?_eq_some_iff.1 h
  rw [List.drop_eq_getElem_cons hlt, e]
/-- Five cells that nobody shares. -/
def Row5 (W : World) (B : Nat) (c0 c1 c2 c3 c4 : Value) : Prop :=
  (W.cell? ⟨B, 0, none⟩ = some c0 ∧ W.frozen? ⟨B, 0, none⟩ = false) ∧ (W.cell? ⟨B, 1, none⟩ = some c1 ∧ W.frozen? ⟨B, 1, none⟩ = false) ∧ (W.cell? ⟨B, 2, none⟩ = some c2 ∧ W.frozen? ⟨B, 2, none⟩ = false) ∧ (W.cell? ⟨B, 3, none⟩ = some c3 ∧ W.frozen? ⟨B, 3, none⟩ = false) ∧ (W.cell? ⟨B, 4, none⟩ = some c4 ∧ W.frozen? ⟨B, 4, none⟩ = false)
theorem frozen_alloc' {W : World} {p : Addr} {v : Value} (h : W.cell? p = some v) (hf : W.frozen? p = false) (o : Obj) : (W.alloc o).frozen? p = false := by
  have hlt : p.block < W.heap.size := by
    rcases Nat.lt_or_ge p.block W.heap.size with h' | h'
    · exact h'
    · simp [World.cell?, Array.getElem?_eq_none h'] at h
  unfold World.frozen? at *
  rw [Below.heap_alloc _ _ _ hlt]; exact hf
theorem Row5.alloc {W : World} {g : Nat} {c0 c1 c2 c3 c4 : Value} (h : Row5 W g c0 c1 c2 c3 c4) (o : Obj) : Row5 (W.alloc o) g c0 c1 c2 c3 c4 := by
  obtain ⟨⟨y0, f0⟩, ⟨y1, f1⟩, ⟨y2, f2⟩, ⟨y3, f3⟩, ⟨y4, f4⟩⟩ := h
  exact ⟨⟨cell_alloc' y0 o, frozen_alloc' y0 f0 o⟩, ⟨cell_alloc' y1 o, frozen_alloc' y1 f1 o⟩, ⟨cell_alloc' y2 o, frozen_alloc' y2 f2 o⟩, ⟨cell_alloc' y3 o, frozen_alloc' y3 f3 o⟩, ⟨cell_alloc' y4 o, frozen_alloc' y4 f4 o⟩⟩
theorem Row5.put {W : World} {g : Nat} {c0 c1 c2 c3 c4 : Value} (h : Row5 W g c0 c1 c2 c3 c4) (a0 a1 a2 a3 a4 : Value) : Row5 (put5 W g a0 a1 a2 a3 a4) g a0 a1 a2 a3 a4 := by
  obtain ⟨⟨y0, f0⟩, ⟨y1, f1⟩, ⟨y2, f2⟩, ⟨y3, f3⟩, ⟨y4, f4⟩⟩ := h
  cases hh : W.heap[g]? with
  | none => simp [World.cell?, hh] at y4
  | some o =>
    cases o with
    | cells cur t fz =>
      obtain ⟨lo, hi⟩ := fz
      have hp : (put5 W g a0 a1 a2 a3 a4).heap[g]? = some (.cells (((((cur.setIfInBounds 0 a0).setIfInBounds 1 a1).setIfInBounds 2 a2).setIfInBounds 3 a3).setIfInBounds 4 a4) t (lo, hi)) := by
        simp [put5, World.setCell, Array.getElem?_modify, hh]
      have h5 : 4 < cur.size := by
        simp [World.cell?, hh] at y4
        exact (Array.getElem?_eq_some_iff.1 y4).1
      simp only [World.frozen?, hh] at f0 f1 f2 f3 f4
      refine ⟨⟨?_, ?_⟩, ⟨?_, ?_⟩, ⟨?_, ?_⟩, ⟨?_, ?_⟩, ⟨?_, ?_⟩⟩
      all_goals first
        | (simp only [World.frozen?, hp]; assumption)
        | (have l0 : 0 < cur.size := by omega
           have l1 : 1 < cur.size := by omega
           have l2 : 2 < cur.size := by omega
           have l3 : 3 < cur.size := by omega
           simp [World.cell?, *])
    | _ => simp [World.cell?, hh] at y4
theorem Row5.cells {W : World} {g : Nat} {k x : Int} {tx : ByteArray} {nm it : Value} (h : Row5 W g (.int .i64 k) (.int .i64 x) (.string tx) nm it) : CellsAt W g 0 (five k x tx nm it) := by
  obtain ⟨⟨y0, f0⟩, ⟨y1, f1⟩, ⟨y2, f2⟩, ⟨y3, f3⟩, ⟨y4, f4⟩⟩ := h
  intro j u hj
  rw [Nat.zero_add]
  rcases j with _ | _ | _ | _ | _ | j
  · cases hj; exact y0
  · cases hj; exact y1
  · cases hj; exact y2
  · cases hj; exact y3
  · cases hj; exact y4
  · simp [five] at hj
theorem Row5.drew {W : World} {g : Nat} {c0 c1 c2 c3 c4 : Value} (h : Row5 W g c0 c1 c2 c3 c4) : Row5 W.drew g c0 c1 c2 c3 c4 := h
theorem hid_f {p : Prop} (h : p) : Hid p := h
def spreadB (k : Int) (s : ByteArray) : Bool := decide (k = 5) && !(idx s).isSome
set_option maxHeartbeats 1000000 in
set_option maxRecDepth 100000 in
theorem spreads_any (k x : Int) (tx : ByteArray) (an : Option Addr) (ln cn : Nat) (ai : Option Addr) (li ci : Nat) (s : ByteArray) (hs : s.size ≤ 9223372036854775806) (w : World) : Calls Tryz.prog 108 #[.agg #[.int .i64 k, .int .i64 x, .string tx, .slice an ln cn, .slice ai li ci], .string s] w fun e w' => e = .returned (.bool (spreadB k s)) ∧ Below w.heap.size w w' := by
  have hix : ∀ o, Calls Tryz.prog 114 #[.string s] (w.alloc o) fun e w' => e = .returned (idxV s) ∧ Below (w.alloc o).heap.size (w.alloc o) w' := fun o => index_any s hs _
  unfold idxV at hix
  unfold spreadB
  generalize (idx s).isSome = z at *
  generalize (((idx s).getD 0 : Nat) : Int) = n at *
  by_cases h5 : k = 5
  · subst h5
    cases z
    all_goals
      go_enter Tryz.func108, Tryz.ntmps108
      go_wp2_with fail
      refine (hix _).mono ?_
      rintro e w1 ⟨rfl, hb1⟩
      clear hix
      have y0 : w1.cell? ⟨w.heap.size, 0, none⟩ = some (.int .i64 5) := box_cells hb1 0
      go_wp2_with fail
      go_ret
      exact ⟨rfl, below_box hb1⟩
  · have e5 : (k == 5) = false := by simpa using h5
    have d5 : decide (k = 5) = false := by simpa using h5
    rw [d5, Bool.false_and]
    go_enter Tryz.func108, Tryz.ntmps108
    go_wp2_with fail
    refine (hix _).mono ?_
    rintro e w1 ⟨rfl, hb1⟩
    clear hix
    have y0 : w1.cell? ⟨w.heap.size, 0, none⟩ = some (.int .i64 k) := box_cells hb1 0
    go_wp2_with fail
    go_ret
    exact ⟨rfl, below_box hb1⟩
theorem F25 : (Tryz.prog.info? 25).map (fun i => (i.zero, i.size, i.bytes)) = some (some (.agg #[.int .i64 0, .int .i64 0, .string ⟨#[]⟩, .slice none 0 0, .slice none 0 0]), 5, 80) := by kernel_rfl
mutual
/-- How many Values and Names a Value has. -/
def partsT : Tr → Nat
  | .node _ _ _ ns its => 1 + ns.length + partsL its
def partsL : List Tr → Nat
  | [] => 0
  | t :: ts => partsT t + partsL ts
end
theorem partsL_snoc : (l : List Tr) → (u : Tr) → partsL (l ++ [u]) = partsL l + partsT u
  | [], u => by simp [partsL]
  | t :: ts, u => by simp [partsL, partsL_snoc ts u, Nat.add_assoc]
theorem partsL_take : (l : List Tr) → (q : Nat) → partsL (l.take q) ≤ partsL l
  | [], q => by simp
  | t :: ts, 0 => by simp [partsL]
  | t :: ts, q + 1 => by simp only [List.take_succ_cons, partsL]; have := partsL_take ts q; omega
theorem partsL_step {l : List Tr} {q : Nat} {u : Tr} (h : l[q]? = some u) : partsL (l.take (q + 1)) = partsL (l.take q) + partsT u := by
  rw [List.take_add_one, h]
  exact partsL_snoc _ u
/-- What Parts tells. -/
def PartsOk (m z : Int) (n : Nat) : Prop := 0 ≤ z ∧ z ≤ m + 1 + 8796093021952 ∧ (z ≤ m → z = n) ∧ (m < z → m < n)
theorem wrap_in (x : Int) (h0 : -9223372036854775808 ≤ x) (h1 : x ≤ 9223372036854775807) : IntKind.i64.wrap x = x := by
  rw [IntKind.wrap_i64]; omega
set_option maxHeartbeats 2000000 in
set_option maxRecDepth 100000 in
theorem parts_exact_one (k x : Int) (s : ByteArray) (an : Option Addr) (cn : Nat) (ns : List ByteArray) (ai : Option Addr) (ci : Nat) (its : List Tr) (m : Int) (w : World) (hm0 : 0 ≤ m) (hm1 : m ≤ 1000000000) (hns : ns.length ≤ 8796093021952) (hM : its.length ≤ 9223372036854775806) (hL : Hid (ItemsAt' w ai its))
    (hI : Hid (∀ (i : Nat) (u : Tr), its[i]? = some u → ∀ cs m' w', VRep w' u cs → 0 ≤ m' → m' ≤ 1000000000 → Calls Tryz.prog 27 #[.agg cs.toArray, .int .i64 m'] w' fun e w'' => (∃ z, e = .returned (.int .i64 z) ∧ PartsOk m' z (partsT u)) ∧ Below w'.heap.size w' w'')) :
    Calls Tryz.prog 27 #[.agg #[.int .i64 k, .int .i64 x, .string s, .slice an ns.length cn, .slice ai its.length ci], .int .i64 m] w fun e w' => (∃ z, e = .returned (.int .i64 z) ∧ PartsOk m z (partsT (.node k x s ns its))) ∧ Below w.heap.size w w' := by
  obtain ⟨P, hP⟩ : ∃ P, Hid (partsT (.node k x s ns its) = P) := ⟨_, rfl⟩
  rw [hP.out]
  have hP' : Hid (P = 1 + ns.length + partsL its) := by rw [Hid, ← hP.out]; unfold partsT; rfl
  have hw1 : IntKind.i64.wrap (1 + (ns.length : Int)) = 1 + (ns.length : Int) := wrap_in _ (by omega) (by omega)
  go_enter Tryz.func27, Tryz.ntmps27
  go_wp2_with fail
  clear hw1
  go_loopw [5, 6] (fun n i wr => ∃ (z : Int) (q : Nat), q ≤ its.length ∧ n = .int .i64 z ∧ i = .int .i64 q ∧ Below w.heap.size w wr ∧ wr.heap[w.heap.size]? = some (.cells #[.int .i64 k, .int .i64 x, .string s, .slice an ns.length cn, .slice ai its.length ci] 25 (0, 0)) ∧ 0 ≤ z ∧ z ≤ m + 1 + 8796093021952 ∧ Hid (z ≤ m → z = (1 + ns.length + partsL (its.take q) : Nat)) ∧ Hid (m < z → m < (P : Int))) (fun _ i _ => its.length - (intOf i).toNat)
  case atStart => exact ⟨1 + ns.length, 0, Nat.zero_le _, by first | rfl | (congr 1), rfl, (Below.refl _ w).alloc (Nat.le_refl _) _, heap_alloc_new w _, by omega, by omega, fun _ => by simp [partsL], fun h => by have := hP'.out; omega⟩
  case round =>
    obtain ⟨z, q, hq, rfl, rfl, hbel, hb0, hz0, hz1, hE, hG⟩ := hrel
    obtain ⟨-, -, -, -, y4, -⟩ := row_cells hb0
    by_cases hlt : q < its.length
    · have hd : decide ((q : Int) < (its.length : Int)) = true := by simp; omega
      by_cases hz : z ≤ m
      · have hd2 : decide (z ≤ m) = true := by simpa using hz
        obtain ⟨u, hu⟩ : ∃ u, Hid (its[q]? = some u) := ⟨_, List.getElem?_eq_getElem hlt⟩
        obtain ⟨b, o, rfl, hb, hV⟩ := hL.out.resolve_left (by intro e; subst e; simp at hlt)
        obtain ⟨cs, hC, hr⟩ := VRepL.at its o q u hV hu.out
        obtain ⟨k2, x2, s2, an2, ln2, cn2, ai2, li2, ci2, rfl⟩ := vrep_five hr
        have g0 := stay hbel (hC 0 _ rfl)
        have g1 := stay hbel (hC 1 _ rfl)
        have g2 := stay hbel (hC 2 _ rfl)
        have g3 := stay hbel (hC 3 _ rfl)
        have g4 := stay hbel (hC 4 _ rfl)
        simp only [Nat.add_zero] at g0
        have hcall := hid_e (hI.out q u hu.out _ (m - z) wr (VRep.keep hbel _ _ hr) (by omega) (by omega))
        clear hV hC hr
        have hw2 : IntKind.i64.wrap (m - z) = m - z := wrap_in _ (by omega) (by omega)
        go_wp2_with fail
        clear g0 g1 g2 g3 g4 hw2
        go_fit hcall.out
        rintro e w1 ⟨⟨z', rfl, hz2, hz3, hz4, hz5⟩, hb1⟩
        clear hcall y4
        have hbel1 : Below w.heap.size w w1 := hbel.trans (hb1.mono hbel.size)
        replace hb0 := (hb1.block _ (Array.getElem?_eq_some_iff.1 hb0).1).trans hb0
        have hw3 : IntKind.i64.wrap (z + z') = z + z' := wrap_in _ (by omega) (by omega)
        replace hz4 := hid_e hz4
        replace hz5 := hid_e hz5
        have hst := hid_e (partsL_step hu.out)
        have htk := hid_e (partsL_take its (q + 1))
        have hzE := hid_e (hE.out hz)
        go_wp2_with fail
        go_roundw
        case rel =>
          refine ⟨z + z', q + 1, by omega, by first | rfl | (congr 1), by simp, hbel1, hb0, by omega, by omega, fun h => ?_, fun h => ?_⟩
          · have h1 := hz4.out (by omega)
            have h2 := hzE.out
            have h3 := hst.out
            omega
          · have h1 := hz5.out (by omega)
            have h2 := hzE.out
            have h3 := hst.out
            have h4 := htk.out
            have h5 := hP'.out
            omega
        case measure => simp [intOf]; omega
      · have hd2 : decide (z ≤ m) = false := by simpa using hz
        go_wp2_with fail
        go_ret
        exact ⟨⟨z, rfl, hz0, hz1, fun h => by omega, hG.out⟩, hbel⟩
    · have hd : decide ((q : Int) < (its.length : Int)) = false := by simp; omega
      obtain rfl : q = its.length := by omega
      go_wp2_with fail
      go_ret
      refine ⟨⟨z, rfl, hz0, hz1, fun h => ?_, hG.out⟩, hbel⟩
      have h1 := hE.out h
      rw [List.take_length] at h1
      have h2 := hP'.out
      omega
theorem parts_exact (t : Tr) (cs : List Value) (m : Int) (w : World) (hV : VRep w t cs) (hS : SmallT t) (hm0 : 0 ≤ m) (hm1 : m ≤ 1000000000) :
    Calls Tryz.prog 27 #[.agg cs.toArray, .int .i64 m] w fun e w' => (∃ z, e = .returned (.int .i64 z) ∧ PartsOk m z (partsT t)) ∧ Below w.heap.size w w' := by
  match t, hV, hS with
  | .node k x s ns its, hV, hS =>
    unfold VRep at hV
    unfold SmallT at hS
    obtain ⟨nm, a, c, rfl, hn, hc, hI⟩ := hV
    obtain ⟨an, cn, rfl, -, -⟩ := id hn
    refine parts_exact_one k x s an cn ns a c its m w hm0 hm1 (by omega) (by omega) (hid_e hI) (hid_e (fun i u hu ds m' w' h1 h2 h3 => ?_))
    have hlt : SizeOf.sizeOf u < SizeOf.sizeOf its := tr_lt hu
    exact parts_exact u ds m' w' h1 (SmallL.at hS.2.2.2.2 hu) h2 h3
termination_by SizeOf.sizeOf t
decreasing_by simp only [Tr.node.sizeOf_spec]; omega
/-- All of a value, by n steps at most. -/
def allF : Nat → Tr → List ByteArray → List Tr
  | _, t, [] => [t]
  | 0, _, _ :: _ => []
  | n + 1, t, s :: r => match placeT t s with
    | some i => (match t.items[i]? with | some u => allF n u r | none => [])
    | none => if spreadB t.kind s = true then t.items.flatMap (fun u => if u.kind = 6 then allF n u (s :: r) else []) else []
def eachF (n : Nat) (its : List Tr) (l : List ByteArray) : List Tr := its.flatMap (fun u => if u.kind = 6 then allF n u l else [])
theorem allF_nil (n : Nat) (t : Tr) : allF n t [] = [t] := by cases n <;> rfl
theorem allF_some {n : Nat} {t u : Tr} {s : ByteArray} {r : List ByteArray} {i : Nat} (h : placeB t.kind t.names t.items.length s = true) (hi : placeI t.kind t.names s = i) (hu : t.items[i]? = some u) : allF (n + 1) t (s :: r) = allF n u r := by
  simp [allF, placeT, h, hi, hu]
theorem allF_none {n : Nat} {t : Tr} {s : ByteArray} {r : List ByteArray} (h : placeB t.kind t.names t.items.length s = false) : allF (n + 1) t (s :: r) = if spreadB t.kind s = true then eachF n t.items (s :: r) else [] := by
  simp [allF, placeT, h, eachF]
theorem parts_pos (t : Tr) : 1 ≤ partsT t := by cases t; unfold partsT; omega
theorem partsL_mem {its : List Tr} {i : Nat} {u : Tr} (h : its[i]? = some u) : partsT u ≤ partsL its := by
  have h1 := partsL_step h
  have h2 := partsL_take its (i + 1)
  omega
theorem partsT_items (t : Tr) : 1 + partsL t.items ≤ partsT t := by
  cases t with
  | node k x s ns its =>
    show 1 + partsL its ≤ partsT _
    unfold partsT
    omega
theorem each_len {n : Nat} {l : List ByteArray} (h : ∀ u, (allF n u l).length ≤ partsT u) : (its : List Tr) → (eachF n its l).length ≤ partsL its
  | [] => by simp [eachF, partsL]
  | t :: ts => by
    have ih := each_len h ts
    unfold eachF at ih ⊢
    rw [List.flatMap_cons, List.length_append, partsL]
    have h1 := h t
    have h2 := parts_pos t
    by_cases h6 : t.kind = 6
    · rw [if_pos h6]; omega
    · rw [if_neg h6, List.length_nil]; omega
theorem allF_len : (n : Nat) → (l : List ByteArray) → (t : Tr) → (allF n t l).length ≤ partsT t
  | n, [], t => by rw [allF_nil]; have := parts_pos t; simpa using this
  | 0, _ :: _, t => by simp [allF]
  | n + 1, s :: r, t => by
    have ht := partsT_items t
    cases hb : placeB t.kind t.names t.items.length s
    · rw [allF_none hb]
      split
      · have := each_len (allF_len n (s :: r)) t.items; omega
      · simp
    · obtain ⟨i, hi, him⟩ := placeB_true hb
      obtain ⟨u, hu⟩ : ∃ u, t.items[i]? = some u := ⟨_, List.getElem?_eq_getElem him⟩
      rw [allF_some hb hi hu]
      have h1 := allF_len n r u
      have h2 := partsL_mem hu
      omega
theorem each_step {n : Nat} {l : List ByteArray} {its : List Tr} {q : Nat} {u : Tr} (h : its[q]? = some u) : eachF n (its.take (q + 1)) l = eachF n (its.take q) l ++ (if u.kind = 6 then allF n u l else []) := by
  unfold eachF
  rw [List.take_add_one, h]
  simp
theorem vrep_kind2 {W : World} {t : Tr} {k x : Int} {s : ByteArray} {nm it : Value} (h : VRep W t (five k x s nm it)) : t.kind = k := by
  cases t with
  | node k0 x0 s0 ns its =>
    unfold VRep at h
    obtain ⟨_, _, _, e, _⟩ := h
    unfold five at e
    simp at e
    exact e.1.symm
/-- What gather answers. -/
def GPost (W0 : World) (lo : Nat) (w : World) (m : Nat) (ts r : List Tr) (e : Ending) (w' : World) : Prop :=
  ∃ fv xs, e = .returned fv ∧ w'.ownsRow lo 25 5 fv (m + r.length) xs ∧ ItemsRep W0 (ts ++ r) xs ∧ Below lo w w'
/-- gather of values that are not too deep. -/
def GatherOk (n : Nat) : Prop := ∀ (W0 : World) (t : Tr) (k x : Int) (s : ByteArray) (an : Option Addr) (ln cn : Nat) (ai : Option Addr) (li ci : Nat) (pv : Value) (l : List ByteArray) (w : World) (lo m : Nat) (fv : Value) (ts : List Tr) (xs : List Value),
  SizeOf.sizeOf t ≤ n → Below W0.heap.size W0 w → VRep W0 t (five k x s (.slice an ln cn) (.slice ai li ci)) → Reads W0 pv l → (∀ s ∈ l, s.size ≤ 9223372036854775806) → l.length ≤ 9223372036854775806 → W0.heap.size ≤ lo → lo ≤ w.heap.size → w.ownsRow lo 25 5 fv m xs → ItemsRep W0 ts xs → m + partsT t ≤ 1000000 →
  Calls Tryz.prog 73 #[fv, .agg #[.int .i64 k, .int .i64 x, .string s, .slice an ln cn, .slice ai li ci], pv] w (GPost W0 lo w m ts (allF n t l))
set_option maxHeartbeats 2000000 in
set_option maxRecDepth 100000 in
theorem each_any (n : Nat) (hG : Hid (GatherOk n)) (W0 : World) (its : List Tr) (a : Option Addr) (c : Nat) (ap : Option Addr) (lp cp : Nat) (l : List ByteArray) (w : World) (lo m : Nat) (fv : Value) (ts : List Tr) (xs : List Value)
    (hn : Hid (∀ u ∈ its, SizeOf.sizeOf u ≤ n)) (hW : Below W0.heap.size W0 w) (hM : its.length ≤ 9223372036854775806) (hL : Hid (its = [] ∨ ∃ b o, a = some ⟨b, o, none⟩ ∧ b < W0.heap.size ∧ VRepL W0 b o its)) (hP : Hid (Reads W0 (.slice ap lp cp) l)) (hS : Hid (∀ s ∈ l, s.size ≤ 9223372036854775806)) (hll : l.length ≤ 9223372036854775806) (hlo : W0.heap.size ≤ lo) (hlw : lo ≤ w.heap.size) (hown : Hid (w.ownsRow lo 25 5 fv m xs)) (hI : Hid (ItemsRep W0 ts xs)) (hb : Hid (m + partsL its ≤ 1000000)) :
    Calls Tryz.prog 109 #[fv, .slice a its.length c, .slice ap lp cp] w (GPost W0 lo w m ts (eachF n its l)) := by
  obtain ⟨af, cf, rfl⟩ := ownsRow_slice hown.out
  go_enter Tryz.func109, Tryz.ntmps109
  go_wp2_with fail
  go_loopw [0, 11] (fun f i wr => ∃ (q : Nat) (ys : List Value), q ≤ its.length ∧ i = .int .i64 q ∧ Below lo w wr ∧ Hid (wr.ownsRow lo 25 5 f (m + (eachF n (its.take q) l).length) ys) ∧ Hid (ItemsRep W0 (ts ++ eachF n (its.take q) l) ys)) (fun _ i _ => its.length - (intOf i).toNat)
  case atStart => exact ⟨0, xs, Nat.zero_le _, rfl, Below.refl _ w, by simpa [eachF] using hown, by simpa [eachF] using hI⟩
  case round =>
    obtain ⟨q, ys, hq, rfl, hbel, hown1, hI1⟩ := hrel
    obtain ⟨a0, c0, rfl⟩ := ownsRow_slice hown1.out
    have hlr : lo ≤ wr.heap.size := Nat.le_trans hlw hbel.size
    have hWr : Below W0.heap.size W0 wr := hW.trans (hbel.mono hlo)
    by_cases hlt : q < its.length
    · have hd : decide ((q : Int) < (its.length : Int)) = true := by simp; omega
      obtain ⟨u, hu⟩ : ∃ u, Hid (its[q]? = some u) := ⟨_, List.getElem?_eq_getElem hlt⟩
      obtain ⟨b, o, rfl, hbl, hV⟩ := hL.out.resolve_left (by intro e; subst e; simp at hlt)
      obtain ⟨cs, hC, hr⟩ := VRepL.at its o q u hV hu.out
      obtain ⟨k2, x2, s2, an2, ln2, cn2, ai2, li2, ci2, rfl⟩ := vrep_five hr
      have g0 := stay hWr (hC 0 _ rfl)
      have g1 := stay hWr (hC 1 _ rfl)
      have g2 := stay hWr (hC 2 _ rfl)
      have g3 := stay hWr (hC 3 _ rfl)
      have g4 := stay hWr (hC 4 _ rfl)
      simp only [Nat.add_zero] at g0
      have hkd := vrep_kind2 hr
      have hst := hid_f (each_step (n := n) (l := l) hu.out)
      have hcnt : Hid (m + (eachF n (its.take q) l).length + partsT u ≤ 1000000) := by
        have h1 := each_len (allF_len n l) (its.take q)
        have h2 := partsL_step hu.out
        have h3 := partsL_take its (q + 1)
        have h4 := hb.out
        exact hid_f (by omega)
      by_cases h6 : k2 = 6
      · subst h6
        have hcall := hid_f (fun p => hG.out W0 u 6 x2 s2 an2 ln2 cn2 ai2 li2 ci2 _ l (wr.alloc p) lo _ _ _ _ (hn.out u (List.mem_of_getElem? hu.out)) (hWr.alloc hWr.size p) hr hP.out hS.out hll hlo (by rw [World.size_alloc]; omega) (hown1.out.alloc p) hI1.out hcnt.out)
        rw [if_pos hkd] at hst
        clear hV hC hr
        go_wp2_with fail
        clear g0 g1 g2 g3 g4
        go_fit (hcall.out _)
        rintro e w1 ⟨fv1, xs1, rfl, h1, h2, h3⟩
        have hbel1 : Below lo w w1 := (hbel.alloc hlr _).trans h3
        replace h1 : Hid (w1.ownsRow lo 25 5 fv1 (m + (eachF n (its.take (q + 1)) l).length) xs1) := by rw [hst.out, List.length_append, ← Nat.add_assoc]; exact h1
        replace h2 : Hid (ItemsRep W0 (ts ++ eachF n (its.take (q + 1)) l) xs1) := by rw [hst.out, ← List.append_assoc]; exact h2
        clear hcall hst hcnt hkd h3
        go_wp2_with fail
        go_roundw
        case rel => exact ⟨q + 1, xs1, by omega, by simp, hbel1, h1, h2⟩
        case measure => simp [intOf]; omega
      · have e6 : (k2 == 6) = false := by simpa using h6
        rw [if_neg (by rw [hkd]; exact h6), List.append_nil] at hst
        have hbel1 : Below lo w (wr.alloc (.cells #[.int .i64 k2, .int .i64 x2, .string s2, .slice an2 ln2 cn2, .slice ai2 li2 ci2] 25)) := hbel.alloc hlr _
        have h1 : Hid ((wr.alloc (.cells #[.int .i64 k2, .int .i64 x2, .string s2, .slice an2 ln2 cn2, .slice ai2 li2 ci2] 25)).ownsRow lo 25 5 (.slice a0 (m + (eachF n (its.take q) l).length) c0) (m + (eachF n (its.take (q + 1)) l).length) ys) := by rw [hst.out]; exact hown1.out.alloc _
        have h2 : Hid (ItemsRep W0 (ts ++ eachF n (its.take (q + 1)) l) ys) := by rw [hst.out]; exact hI1
        clear hV hC hr hst hcnt hkd
        go_wp2_with fail
        go_roundw
        case rel => exact ⟨q + 1, ys, by omega, by simp, hbel1, h1, h2⟩
        case measure => simp [intOf]; omega
    · have hd : decide ((q : Int) < (its.length : Int)) = false := by simp; omega
      obtain rfl : q = its.length := by omega
      rw [List.take_length] at hown1 hI1
      go_wp2_with fail
      go_ret
      exact ⟨_, ys, rfl, by simpa using hown1.out, hI1.out, hbel⟩
theorem sizeOf_pos (t : Tr) : 1 ≤ SizeOf.sizeOf t := by cases t; simp only [Tr.node.sizeOf_spec]; omega
theorem partsT_node (k x : Int) (s : ByteArray) (ns : List ByteArray) (its : List Tr) : partsT (.node k x s ns its) = 1 + ns.length + partsL its := by unfold partsT; rfl
theorem len_parts : (its : List Tr) → its.length ≤ partsL its
  | [] => by simp
  | t :: ts => by have h1 := len_parts ts; have h2 := parts_pos t; rw [List.length_cons, partsL]; omega
theorem reads_drop {W : World} {c : Nat} {l : List ByteArray} {b o : Nat} (hb : b < W.heap.size) (hA : ∀ j s, l[j]? = some s → W.cell? ⟨b, o + j, none⟩ = some (.string s)) (hc : l.length ≤ c ∧ c ≤ 9223372036854775807) (q : Nat) (hq : q < l.length) : Reads W (.slice (some ⟨b, o + q, none⟩) (l.length - q) (c - q)) (l.drop q) := by
  refine ⟨some ⟨b, o + q, none⟩, c - q, by rw [List.length_drop], ⟨by rw [List.length_drop]; omega, by omega⟩, .inr ⟨b, o + q, rfl, hb, fun j s hj => ?_⟩⟩
  rw [List.getElem?_drop] at hj
  have := hA (q + j) s hj
  rwa [← Nat.add_assoc] at this
set_option maxHeartbeats 1000000 in
set_option maxRecDepth 100000 in
theorem gather_step (n : Nat) (IH : Hid (∀ n', n' < n → GatherOk n')) (W0 : World) (t : Tr) (k0 x0 : Int) (s0 : ByteArray) (an0 : Option Addr) (ln0 cn0 : Nat) (ai0 : Option Addr) (li0 ci0 : Nat) (a : Option Addr) (c : Nat) (l : List ByteArray) (w : World) (lo m : Nat) (af : Option Addr) (cf : Nat) (ts : List Tr) (xs : List Value)
    (hsz : SizeOf.sizeOf t ≤ n) (hW : Below W0.heap.size W0 w) (hV : Hid (VRep W0 t (five k0 x0 s0 (.slice an0 ln0 cn0) (.slice ai0 li0 ci0)))) (hA : Hid (l = [] ∨ ∃ b o, a = some ⟨b, o, none⟩ ∧ b < W0.heap.size ∧ ∀ j s, l[j]? = some s → W0.cell? ⟨b, o + j, none⟩ = some (.string s))) (hc : l.length ≤ c ∧ c ≤ 9223372036854775807)
    (hS : Hid (∀ s ∈ l, s.size ≤ 9223372036854775806)) (hl : l.length ≤ 9223372036854775806) (hlo : W0.heap.size ≤ lo) (hlw : lo ≤ w.heap.size) (hown : Hid (w.ownsRow lo 25 5 (.slice af m cf) m xs)) (hI : Hid (ItemsRep W0 ts xs)) (hb : m + partsT t ≤ 1000000) :
    Calls Tryz.prog 73 #[.slice af m cf, .agg #[.int .i64 k0, .int .i64 x0, .string s0, .slice an0 ln0 cn0, .slice ai0 li0 ci0], .slice a l.length c] w (GPost W0 lo w m ts (allF n t l)) := by
  obtain ⟨i5, hi5, hz0, hz1, hz2⟩ := info_parts F25
  obtain ⟨G, hGG⟩ : ∃ G, Hid (allF n t l = G) := ⟨_, rfl⟩
  rw [hGG.out]
  have hpp := parts_pos t
  go_enter Tryz.func73, Tryz.ntmps73
  go_wp2_with fail
  go_loopw [0, 13] (fun f i wr => f = .slice af m cf ∧ ∃ (q : Nat) (u : Tr) (k1 x1 : Int) (s1 : ByteArray) (an1 : Option Addr) (ln1 cn1 : Nat) (ai1 : Option Addr) (li1 ci1 : Nat), q ≤ l.length ∧ i = .int .i64 q ∧ Below w.heap.size w wr ∧ wr.heap[w.heap.size]? = some (.cells #[.int .i64 k1, .int .i64 x1, .string s1, .slice an1 ln1 cn1, .slice ai1 li1 ci1] 25 (0, 0)) ∧
      Hid (VRep W0 u (five k1 x1 s1 (.slice an1 ln1 cn1) (.slice ai1 li1 ci1))) ∧ Hid (G = allF (n - q) u (l.drop q)) ∧ Hid (SizeOf.sizeOf u + q ≤ n) ∧ Hid (partsT u ≤ partsT t)) (fun _ i _ => l.length - (intOf i).toNat)
  case atStart =>
    exact ⟨rfl, 0, t, k0, x0, s0, an0, ln0, cn0, ai0, li0, ci0, Nat.zero_le _, rfl, (Below.refl _ w).alloc (Nat.le_refl _) _, heap_alloc_new w _, hV, hid_f (by simpa using hGG.out.symm), hid_f (by omega), hid_f (Nat.le_refl _)⟩
  case round =>
    obtain ⟨rfl, q, u, k1, x1, s1, an1, ln1, cn1, ai1, li1, ci1, hq, rfl, hbel, hb0, hU, hG, hsu, hpu⟩ := hrel
    obtain ⟨y0, y1, y2, y3, y4, yf⟩ := row_cells hb0
    have hW1 : Below W0.heap.size W0 wr := hW.trans (hbel.mono (by omega))
    by_cases hlt : q < l.length
    · have hd : decide ((q : Int) < (l.length : Int)) = true := by simp; omega
      obtain ⟨b, o, rfl, hbl, hA⟩ := hA.out.resolve_left (by intro e; subst e; simp at hlt)
      replace hA := hid_f hA
      obtain ⟨x, hx⟩ : ∃ x, Hid (l[q]? = some x) := ⟨_, List.getElem?_eq_getElem hlt⟩
      have c1 : wr.cell? ⟨b, o + q, none⟩ = some (.string x) := stay hW1 (hA.out q x hx.out)
      have hxs : x.size ≤ 9223372036854775806 := hS.out x (List.mem_of_getElem? hx.out)
      obtain ⟨f, hf⟩ : ∃ f, Hid (n - q = f + 1) := ⟨n - q - 1, by have h1 := hsu.out; have h2 := sizeOf_pos u; exact hid_f (by omega)⟩
      cases u with
      | node ku xu su nsu itsu =>
        have hU' := hU.out
        unfold VRep at hU'
        obtain ⟨nm, ai, ci, he, hN, hci, hIt⟩ := hU'
        obtain ⟨rfl, rfl, rfl, rfl, rfl, rfl, rfl⟩ : k1 = ku ∧ x1 = xu ∧ s1 = su ∧ .slice an1 ln1 cn1 = nm ∧ ai1 = ai ∧ li1 = itsu.length ∧ ci1 = ci := by simpa [five] using he
        clear he
        have hsp := fun W => hid_f (spreads_any k1 x1 s1 an1 ln1 cn1 ai1 itsu.length ci1 x hxs W)
        have hpl := place_any k1 x1 s1 _ nsu ai1 itsu.length ci1 x wr (hN.keep hW1) hxs
        go_wp2_with fail
        refine hpl.mono ?_
        rintro e w1 ⟨rfl, hb9⟩
        clear hpl y0 y1 y2 y3 y4 yf c1
        have hbel1 : Below w.heap.size w w1 := hbel.trans (hb9.mono hbel.size)
        have hW2 : Below W0.heap.size W0 w1 := hW.trans (hbel1.mono (by omega))
        replace hb0 := (hb9.block _ (Array.getElem?_eq_some_iff.1 hb0).1).trans hb0
        clear hb9 hbel hW1
        obtain ⟨y0, y1, y2, y3, y4, yf⟩ := row_cells hb0
        replace hG : Hid (G = allF (f + 1) (.node k1 x1 s1 nsu itsu) (x :: l.drop (q + 1))) := by rw [Hid, hG.out, drop_cons hx.out, hf.out]
        cases hpb : placeB k1 nsu itsu.length x
        · replace hG := hid_f (hG.out.trans (allF_none (t := .node k1 x1 s1 nsu itsu) hpb))
          have hows : Hid (w1.ownsRow lo 25 5 (.slice af m cf) m xs) := ownsRow_below hown.out hbel1
          cases hsb : spreadB k1 x
          · rw [hsb] at hsp
            obtain rfl : G = [] := hG.out.trans (if_neg (by show ¬ spreadB k1 x = true; rw [hsb]; decide))
            clear hpb hU hIt hN hG hsb
            go_wp2_with fail
            go_fit (hsp _).out
            rintro e w2 ⟨rfl, hb2⟩
            go_wp2_with fail
            go_ret
            exact ⟨_, xs, rfl, ownsRow_below hows.out hb2, by simpa using hI.out, (hbel1.mono hlw).trans (hb2.mono (Nat.le_trans hlw hbel1.size))⟩
          · rw [hsb] at hsp
            replace hG := hid_f (hG.out.trans (if_pos (show spreadB k1 x = true from hsb)))
            rw [← drop_cons hx.out] at hG
            have hG' : Hid (G = eachF f itsu (l.drop q)) := hG
            clear hG
            have hIt' := hid_f hIt
            clear hpb hN hsb hIt
            go_wp2_with fail
            go_fit (hsp _).out
            rintro e w2 ⟨rfl, hb2⟩
            clear y0 y1 y2 y3 y4 yf hsp
            have hbel2 : Below w.heap.size w w2 := hbel1.trans (hb2.mono hbel1.size)
            have hW3 : Below W0.heap.size W0 w2 := hW.trans (hbel2.mono (by omega))
            replace hb0 := (hb2.block _ (Array.getElem?_eq_some_iff.1 hb0).1).trans hb0
            replace hows := hid_f (ownsRow_below hows.out hb2)
            clear hb2 hbel1 hW2
            have hec := hid_f (fun W (hWW : Below w2.heap.size w2 W) => each_any f (hid_f (IH.out f (by have h1 := hf.out; omega))) W0 itsu ai1 ci1 (some ⟨b, o + q, none⟩) (l.length - q) (c - q) (l.drop q) W lo m (.slice af m cf) ts xs (hid_f (fun v hv => by have h1 := List.sizeOf_lt_of_mem hv; have h2 := hsu.out; have h3 := hf.out; simp only [Tr.node.sizeOf_spec] at h2; omega)) (hW3.trans (hWW.mono hW3.size)) (by have h1 := hpu.out; rw [partsT_node] at h1; have h2 := len_parts itsu; omega) hIt' (hid_f (reads_drop hbl hA.out hc q hlt)) (hid_f (fun s hs => hS.out s (List.mem_of_mem_drop hs))) (by rw [List.length_drop]; omega) hlo (by have h1 := hbel2.size; have h2 := hWW.size; omega) (hid_f (ownsRow_below hows.out hWW)) hI (hid_f (by have h1 := hpu.out; rw [partsT_node] at h1; omega)))
            have hqc : ¬ (c = q) := by omega
            have i1 : (q : Int) ≤ (l.length : Int) := by omega
            have i2 : (0 : Int) ≤ (q : Int) := by omega
            have i3 : (l.length : Int) ≤ (c : Int) := by omega
            go_wp2_with fail
            replace hb0 : w2.drew.heap[w.heap.size]? = some (.cells #[.int .i64 k1, .int .i64 x1, .string s1, .slice an1 ln1 cn1, .slice ai1 itsu.length ci1] 25 (0, 0)) := hb0
            have hWW : Below w2.heap.size w2 w2.drew := below_drew (Below.refl _ _)
            generalize hX : w2.drew = X at hb0 hWW
            refine wp_region_noPanic ?_
            refine Until.wp_region_U (fun _ => True) (fun w' => w'.heap[w.heap.size]? = some (.cells #[.int .i64 k1, .int .i64 x1, .string s1, .slice an1 ln1 cn1, .slice ai1 itsu.length ci1] 25 (0, 0))) 6 (by kernel_rfl) ?_
            rw [hX]
            clear hX
            refine Until.wpU_pure (i := 0) (oi := { dst := some 29, op := Op.move (Operand.tmp 0), type := 23, pos := "look.go:47", after := #[], guard := none }) (v := .slice af m cf) rfl (by kernel_rfl) (by kernel_rfl) (by kernel_rfl) (by kernel_rfl) (by kernel_rfl) (fun _ _ _ h => h) (trivial) (fun _ => hb0) (by rfl) (by intro w'; go_simp) ?_
            try simp only [Act.put, List.setIfInBounds_toArray, List.set_cons_zero, List.set_cons_succ]
            refine Until.wpU_pure (i := 1) (oi := { dst := some 30, op := Op.fieldAddr 25 (Operand.tmp 4) 4, type := 0, pos := "look.go:47", after := #[], guard := none }) (v := .pointer (some ⟨w.heap.size, 4, none⟩)) rfl (by kernel_rfl) (by kernel_rfl) (by kernel_rfl) (by kernel_rfl) (by kernel_rfl) (fun _ _ _ h => h) (trivial) (fun _ => hb0) (by rfl) (by intro w'; go_simp) ?_
            try simp only [Act.put, List.setIfInBounds_toArray, List.set_cons_zero, List.set_cons_succ]
            refine Until.wpU_load1 (i := 2) (oi := { dst := some 31, op := Op.load 23 (Operand.tmp 30), type := 23, pos := "look.go:47", after := #[{ on := 1, ground := Ground.data }], guard := none }) (v := .slice ai1 itsu.length ci1) rfl (by kernel_rfl) (by kernel_rfl) (by kernel_rfl) (by kernel_rfl) (by kernel_rfl) (by kernel_rfl) (fun _ _ _ h => h) (trivial) (hb0) (by rfl) (by intro w' hw'; obtain ⟨t0, t1, t2, t3, t4, -⟩ := row_cells hw'; clear hw'; go_simp) ?_
            try simp only [Act.put, List.setIfInBounds_toArray, List.set_cons_zero, List.set_cons_succ]
            refine Until.wpU_pure (i := 3) (oi := { dst := some 32, op := Op.move (Operand.tmp 2), type := 22, pos := "look.go:47", after := #[], guard := none }) (v := .slice (some ⟨b, o, none⟩) l.length c) rfl (by kernel_rfl) (by kernel_rfl) (by kernel_rfl) (by kernel_rfl) (by kernel_rfl) (fun _ _ _ h => h) (trivial) (fun _ => hb0) (by rfl) (by intro w'; go_simp) ?_
            try simp only [Act.put, List.setIfInBounds_toArray, List.set_cons_zero, List.set_cons_succ]
            refine Until.wpU_pure (i := 4) (oi := { dst := some 33, op := Op.move (Operand.tmp 7), type := 3, pos := "look.go:47", after := #[], guard := none }) (v := .int .i64 q) rfl (by kernel_rfl) (by kernel_rfl) (by kernel_rfl) (by kernel_rfl) (by kernel_rfl) (fun _ _ _ h => h) (trivial) (fun _ => hb0) (by rfl) (by intro w'; go_simp) ?_
            try simp only [Act.put, List.setIfInBounds_toArray, List.set_cons_zero, List.set_cons_succ]
            refine Until.wpU_pure (i := 5) (oi := { dst := some 34, op := Op.slice 22 (Operand.tmp 32) (some (Operand.tmp 33)) none none, type := 22, pos := "look.go:47", after := #[{ on := 3, ground := Ground.data }, { on := 4, ground := Ground.data }], guard := none }) (v := .slice (some ⟨b, o + q, none⟩) (l.length - q) (c - q)) rfl (by kernel_rfl) (by kernel_rfl) (by kernel_rfl) (by kernel_rfl) (by kernel_rfl) (fun _ _ _ h => h) (trivial) (fun _ => hb0) (by rfl) (by intro w'; go_simp) ?_
            try simp only [Act.put, List.setIfInBounds_toArray, List.set_cons_zero, List.set_cons_succ]
            refine Until.wpU_ready (rs := [6]) (by kernel_rfl) (by simp) ?_
            refine (Until.AllU.cons (o := { dst := some 35, op := Op.call { callee := Callee.value (Operand.func 109), args := #[Operand.tmp 29, Operand.tmp 31, Operand.tmp 34], argTypes := #[23, 23, 22] }, type := 23, pos := "look.go:47", after := #[{ on := 0, ground := Ground.data }, { on := 2, ground := Ground.data }, { on := 5, ground := Ground.data }], guard := none }) rfl (fun K hK => ?_) Until.AllU.nil)
            go_simp
            refine (hec.out X hWW).mono ?_
            rintro e Z ⟨fv, zs, rfl, e1, e2, e3⟩
            refine hK.out _ _ trivial (fun h => absurd h (by decide)) ?_
            clear hK K
            try simp only [Act.put, List.setIfInBounds_toArray, List.set_cons_zero, List.set_cons_succ]
            refine Until.wpU_ready (rs := [7]) (by kernel_rfl) (by simp) ?_
            refine (Until.AllU.cons (o := { dst := some 0, op := Op.assign (Operand.tmp 35), type := 23, pos := "look.go:47", after := #[{ on := 6, ground := Ground.data }, { on := 6, ground := Ground.chain }, { on := 0, ground := Ground.phase }, { on := 1, ground := Ground.phase }, { on := 2, ground := Ground.phase }, { on := 3, ground := Ground.phase }, { on := 4, ground := Ground.phase }, { on := 5, ground := Ground.phase }, { on := 6, ground := Ground.phase }], guard := none }) rfl (fun K hK => ?_) Until.AllU.nil)
            go_simp
            refine hK.out _ _ trivial (fun h => absurd h (by decide)) ?_
            clear hK K
            try simp only [Act.put, List.setIfInBounds_toArray, List.set_cons_zero, List.set_cons_succ]
            refine Until.wpU_done (by kernel_rfl) ?_ _
            refine NoPanic.normal ?_
            go_wp2_with fail
            go_ret
            rw [← hG'.out] at e1 e2
            exact ⟨fv, zs, rfl, e1, e2, (hbel2.mono hlw).trans ((hWW.mono (Nat.le_trans hlw hbel2.size)).trans e3)⟩
        · obtain ⟨i, hi, him⟩ := placeB_true hpb
          obtain ⟨b2, o2, rfl, hb2, hIt⟩ := hIt.resolve_left (by intro e; subst e; simp at him)
          obtain ⟨u', hu'⟩ : ∃ u', itsu[i]? = some u' := ⟨_, List.getElem?_eq_getElem him⟩
          obtain ⟨cs', hcs', hVu⟩ := VRepL.at itsu o2 i u' hIt hu'
          obtain ⟨k2, x2, s2, an2, ln2, cn2, ai2, li2, ci2, rfl⟩ := vrep_five hVu
          have g0 := stay hW2 (hcs' 0 _ rfl)
          have g1 := stay hW2 (hcs' 1 _ rfl)
          have g2 := stay hW2 (hcs' 2 _ rfl)
          have g3 := stay hW2 (hcs' 3 _ rfl)
          have g4 := stay hW2 (hcs' 4 _ rfl)
          simp only [Nat.add_zero] at g0
          have yf0 := yf 0; have yf1 := yf 1; have yf2 := yf 2; have yf3 := yf 3; have yf4 := yf 4
          clear yf
          have hG2 : Hid (G = allF (n - (q + 1)) u' (l.drop (q + 1))) := by rw [Hid, show n - (q + 1) = f by have := hf.out; omega]; exact hG.out.trans (allF_some (t := .node k1 x1 s1 nsu itsu) hpb hi hu')
          have hs2 : Hid (SizeOf.sizeOf u' + (q + 1) ≤ n) := hid_f (by have h1 := tr_lt hu'; have h2 := hsu.out; simp only [Tr.node.sizeOf_spec] at h2; omega)
          have hp2 : Hid (partsT u' ≤ partsT t) := hid_f (by have h1 := partsL_mem hu'; have h2 := hpu.out; rw [partsT_node] at h2; omega)
          have hVu1 : Hid (VRep W0 u' (five k2 x2 s2 (.slice an2 ln2 cn2) (.slice ai2 li2 ci2))) := hVu
          rw [hi]
          clear hi hpb hU hIt hcs' hVu hN hG hu' hsp hsu hpu
          go_wp2_with fail
          go_roundw
          case rel =>
            exact ⟨rfl, q + 1, u', k2, x2, s2, an2, ln2, cn2, ai2, li2, ci2, by omega, by simp, hbel1.trans (put5_below (Nat.le_refl _) _ _ _ _ _), put5_at hb0 _ _ _ _ _, hVu1, hG2, hs2, hp2⟩
          case measure => simp [intOf]; omega
    · have hd : decide ((q : Int) < (l.length : Int)) = false := by simp; omega
      obtain rfl : G = [u] := by rw [hG.out, List.drop_of_length_le (by omega), allF_nil]
      clear hG hA yf
      have hlr : lo ≤ wr.heap.size := Nat.le_trans hlw hbel.size
      have hows : Hid (wr.ownsRow lo 25 5 (.slice af m cf) m xs) := ownsRow_below hown.out hbel
      go_wp2_with (at_builtin; refine wpList_append_lies _ rfl _ _ 23 rfl lo 25 i5 _ 5 80 Tryz.underlying23 hi5 hz0 hz1 hz2 rfl (by decide) _ m xs rfl (hows.out.alloc _) _ 1 1 [.int .i64 k1, .int .i64 x1, .string s1, .slice an1 ln1 cn1, .slice ai1 li1 ci1] rfl rfl (World.news_of_block (heap_alloc_new wr _)) (five_one _ _ _ _ _ _ _ _ _) (by decide) (by unfold maxLen; omega) (by omega) (by simp only [World.size_alloc]; omega) _ rfl ?_; intro g cap w4 hown4 hgrow4 hat4 hlt4; clear hat4)
      go_ret
      replace hgrow4 : (wr.alloc (.cells #[.int .i64 k1, .int .i64 x1, .string s1, .slice an1 ln1 cn1, .slice ai1 li1 ci1] 25)).grownBy w4 (Value.slice af m cf).ownBlock := hgrow4
      have hB4 : Below lo w w4 := ((hbel.mono hlw).alloc hlr _).trans (grown_below hgrow4 (by simp only [World.size_alloc]; omega) (fun g hg => (ownsRow_ge hows.out hg).1))
      exact ⟨_, _, rfl, hown4, ItemsRep.snoc rfl hU.out hI.out, hB4⟩
theorem gather_ok (n : Nat) : GatherOk n := by
  induction n using Nat.strongRecOn with
  | _ n ih =>
    intro W0 t k x s an ln cn ai li ci pv l w lo m fv ts xs h1 h2 h3 h4 h5 h6 h7 h8 h9 h10 h11
    obtain ⟨a, c, rfl, hc, hA⟩ := h4
    obtain ⟨af, cf, rfl⟩ := ownsRow_slice h9
    exact gather_step n (hid_f ih) W0 t k x s an ln cn ai li ci a c l w lo m af cf ts xs h1 h2 (hid_f h3) (hid_f hA) hc (hid_f h5) h6 h7 h8 (hid_f h9) (hid_f h10) h11
/-- All of every value and path. -/
theorem all_any (n : Nat) (W0 : World) (t : Tr) (k x : Int) (s : ByteArray) (an : Option Addr) (ln cn : Nat) (ai : Option Addr) (li ci : Nat) (pv : Value) (l : List ByteArray) (w : World) (hn : SizeOf.sizeOf t ≤ n) (hW : Below W0.heap.size W0 w) (hV : VRep W0 t (five k x s (.slice an ln cn) (.slice ai li ci))) (hP : Reads W0 pv l) (hS : ∀ s ∈ l, s.size ≤ 9223372036854775806) (hl : l.length ≤ 9223372036854775806) (hb : partsT t ≤ 1000000) :
    Calls Tryz.prog 47 #[.agg #[.int .i64 k, .int .i64 x, .string s, .slice an ln cn, .slice ai li ci], pv] w (GPost W0 w.heap.size w 0 [] (allF n t l)) := by
  have hg := fun o => hid_f (gather_ok n W0 t k x s an ln cn ai li ci pv l (w.alloc o) (w.alloc o).heap.size 0 (.slice none 0 0) [] [] hn (hW.alloc hW.size o) hV hP hS hl (by rw [World.size_alloc]; have := hW.size; omega) (Nat.le_refl _) (World.ownsRow_nil _ _ _ _) (by unfold ItemsRep; rfl) (by omega))
  obtain ⟨a, c, rfl, -, -⟩ := hP
  clear hV
  go_enter Tryz.func47, Tryz.ntmps47
  go_wp2_with fail
  go_fit (hg _).out
  rintro e w1 ⟨fv, xs, rfl, h1, h2, h3⟩
  go_wp2_with fail
  go_ret
  exact ⟨fv, xs, rfl, ownsRow_lo h1 (by rw [World.size_alloc]; omega), h2, below_box h3⟩
end Go.Proofs.YtgigikcopedoeaaGreat.Tree
