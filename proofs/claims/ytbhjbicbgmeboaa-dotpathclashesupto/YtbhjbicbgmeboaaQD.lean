import Derived.Test.YtbhjbicbgmeboaaQC
import Derived.Test.YtbhjbicbgmeboaaD9
/-! lay. -/
namespace Go.Proofs.Ytbhjbicbgmeboaa
open Go Go.RowKit

theorem follow_any (base tb mb nb cap : Nat) (D : DataW Unit) (L : List Pth) (P : List Pth) (E : List (Bool × Bool)) (cur : Pth) (s : ByteArray) (i : Nat) (w : World) (hbase : base ≤ w.heap.size) (hT : TreeAt w base tb mb nb cap D P E) (hI : Inv L cur P E) (hi : P[i]? = some cur) (hP : P.length ≤ 1099511627776) (hs : s.size ≤ maxLen) :
    Calls Try.prog 42 #[.pointer (some ⟨tb, 0, none⟩), .int .i64 i, .string s] w fun r w' => ∃ j nb' cap' D' P' E', r = .returned (.int .i64 (j : Nat)) ∧ TreeAt w' base tb mb nb' cap' D' P' E' ∧ Inv L (cur ++ [s]) P' E' ∧ P'[j]? = some (cur ++ [s]) ∧ P'.length ≤ P.length + 1 ∧ Below base w w' := by
  have hip : i < P.length := (List.getElem?_eq_some_iff.1 hi).1
  by_cases hn : cur ++ [s] ∈ P
  · obtain ⟨j, hj⟩ := List.mem_iff_getElem?.1 hn
    refine (follow_old base tb mb nb cap D P E cur s i j w hT hi hj (by omega) hs).mono fun r w' ⟨h1, h2⟩ => ?_
    subst h2
    exact ⟨j, nb, cap, D, P, E, h1, hT, hI.old hn, hj, by omega, Below.refl _ _⟩
  · refine (follow_new base tb mb nb cap D L P E cur s i w hbase hT hI hi hn hP hs).mono fun r w' ⟨nb', cap', D', E', h1, h2, h3, h4⟩ => ?_
    exact ⟨P.length, nb', cap', D', _, E', h1, h2, h3, by simp, by simp, h4⟩
/-- On the way along a path. -/
def LayRel (w : World) (base tb mb n0 : Nat) (L : List Pth) (p : Pth) (q k : Nat) (wr : World) : Prop :=
  ∃ nb cap D P E, TreeAt wr base tb mb nb cap D P E ∧ Inv L (p.take q) P E ∧ P[k]? = some (p.take q) ∧ P.length ≤ n0 + q ∧ Below base w wr ∧ ∀ j, j < q → p.take j ∉ L
theorem LayRel.low {w : World} {base tb mb n0 : Nat} {L : List Pth} {p : Pth} {q k : Nat} {wr : World} (h : LayRel w base tb mb n0 L p q k wr) : Below base w wr := by
  obtain ⟨_, _, _, _, _, _, _, _, _, h, _⟩ := h; exact h
/-- The tree holds the paths L. -/
def LaidAt (w : World) (base tb mb m : Nat) (L : List Pth) (w' : World) : Prop :=
  ∃ nb cap D P E, TreeAt w' base tb mb nb cap D P E ∧ Inv L [] P E ∧ P.length ≤ m ∧ Below base w w'
theorem ownsRow_fz {w : World} {lo : Nat} {e : TypeId} {size n g cap : Nat} {xs : List Value} (h : w.ownsRow lo e size (.slice (some ⟨g, 0, none⟩) n cap) n xs) (k : Nat) : w.frozen? ⟨g, k, none⟩ = false := by
  obtain ⟨_, h2⟩ := h
  rcases h2 with ⟨hv, _⟩ | ⟨g', cap', cur, hv, _, hh, _⟩
  · cases hv
  · cases hv; simp [World.frozen?, hh]
/-- What is read of the nodes there. -/
theorem LayRel.look {w : World} {base tb mb n0 : Nat} {L : List Pth} {p : Pth} {q k : Nat} {wr : World} (h : LayRel w base tb mb n0 L p q k wr) : ∃ nb n cap e1 e2, k < n ∧ wr.cell? ⟨tb, 1, none⟩ = some (.slice (some ⟨nb, 0, none⟩) n cap) ∧ wr.cell? ⟨nb, k * 2, none⟩ = some (.bool e1) ∧ wr.cell? ⟨nb, k * 2 + 1, none⟩ = some (.bool e2) ∧ wr.frozen? ⟨nb, k * 2, none⟩ = false ∧ (e1 = true ↔ p.take q ∈ L) ∧ (e2 = true → ∃ z ∈ L, clP (p.take q) z) ∧ (e1 = false → e2 = false → q = p.length → (∀ z ∈ L, ¬ clP p z) ∧ LaidAt w base tb mb (n0 + p.length) (p :: L) (wr.setCell ⟨nb, k * 2, none⟩ (.bool true))) := by
  obtain ⟨nb, cap, D, P, E, hT, hI, hk, hl, hb, hno⟩ := h
  have hkl : k < P.length := (List.getElem?_eq_some_iff.1 hk).1
  have hkE : k < E.length := by rw [hI.len]; exact hkl
  obtain ⟨e, he⟩ : ∃ e, E[k]? = some e := ⟨_, List.getElem?_eq_getElem hkE⟩
  obtain ⟨f1, f2⟩ := flat_at E k e he
  refine ⟨nb, E.length, cap, e.1, e.2, hkE, (tree_loads hT).2, ownsRow_cell hT.row f1, ownsRow_cell hT.row f2, ownsRow_fz hT.row _, hI.ends k _ e hk he, fun h2 => hI.hit hk he (.inr h2), fun h1 h2 hq => ?_⟩
  subst hq
  rw [List.take_length] at hI hk
  obtain ⟨a1, a2, a3, a4, a5, a6, a7, a8, a9⟩ := hT.apart
  refine ⟨hI.miss hk he h1 h2 hno, nb, cap, D, P, E.set k (true, false), ⟨?_, ?_, ?_, hT.lo, hT.look⟩, hI.fin hk (by rw [he]; obtain ⟨x, y⟩ := e; simp at h1 h2; rw [h1, h2]), hl, hb.setCell (p := ⟨nb, k * 2, none⟩) a4 _⟩
  · rw [Below.heap_setCell _ _ _ _ a2, hT.box]; simp
  · obtain ⟨es, cl, hm, r⟩ := hT.map
    exact ⟨es, cl, by rw [Below.heap_setCell _ _ _ _ a3]; exact hm, r⟩
  · have := ownsRow_set hT.row (k * 2) (.bool true)
    rw [flat_set1 E k e true he, h2] at this
    simpa using this
/-- One segment more. -/
theorem LayRel.next {w : World} {base tb mb n0 : Nat} {L : List Pth} {p : Pth} {q k : Nat} {wr : World} (h : LayRel w base tb mb n0 L p q k wr) (hbase : base ≤ w.heap.size) (hn : n0 + p.length ≤ 1099511627776) {x : ByteArray} (hx : p[q]? = some x) (hs : x.size ≤ maxLen) (hno : p.take q ∉ L) :
    Calls Try.prog 42 #[.pointer (some ⟨tb, 0, none⟩), .int .i64 k, .string x] wr fun r w' => ∃ j : Nat, r = .returned (.int .i64 j) ∧ LayRel w base tb mb n0 L p (q + 1) j w' := by
  obtain ⟨nb, cap, D, P, E, hT, hI, hk, hl, hb, hn0⟩ := h
  have hq : q < p.length := (List.getElem?_eq_some_iff.1 hx).1
  refine (follow_any base tb mb nb cap D L P E _ x k wr (Nat.le_trans hbase hb.size) hT hI hk (by omega) hs).mono fun r w' ⟨j, nb', cap', D', P', E', h1, h2, h3, h4, h5, h6⟩ => ?_
  have ht : p.take (q + 1) = p.take q ++ [x] := by
    rw [List.take_add_one, hx]; rfl
  refine ⟨j, h1, nb', cap', D', P', E', h2, ht ▸ h3, ht ▸ h4, by omega, hb.trans h6, fun i hi => ?_⟩
  by_cases e : i = q
  · subst e; exact hno
  · exact hn0 i (by omega)
def LayPost (w0 : World) (base tb mb n0 : Nat) (L : List Pth) (p : Pth) (e : Ending) (w' : World) : Prop :=
  ∃ ok, e = .returned (.bool ok) ∧ Below base w0 w' ∧ (ok = false → ∃ z ∈ L, clP p z) ∧ (ok = true → (∀ z ∈ L, ¬ clP p z) ∧ LaidAt w0 base tb mb (n0 + p.length) (p :: L) w')
set_option maxHeartbeats 2000000 in
set_option maxRecDepth 100000 in
theorem lay_any (base tb mb n0 : Nat) (L : List Pth) (p : Pth) (v : Value) (w w0 : World) (hbase : base ≤ w0.heap.size) (hA : LaidAt w0 base tb mb n0 L w) (hR : ∀ w', Below base w0 w' → Reads w' v p) (hZ : ∀ x ∈ p, x.size ≤ maxLen) (hn : n0 + p.length ≤ 1099511627776) :
    Calls Try.prog 28 #[.pointer (some ⟨tb, 0, none⟩), v] w (LayPost w0 base tb mb n0 L p) := by
  have hst : Hid (LayRel w0 base tb mb n0 L p 0 0 w) := by
    obtain ⟨nb, cap, D, P, E, h1, h2, h3, h4⟩ := hA
    exact ⟨nb, cap, D, P, E, h1, by simpa using h2, by simpa using h2.zero, by omega, h4, fun j hj => by omega⟩
  obtain ⟨a, c, rfl, hc, -⟩ := hR w hst.out.low
  replace hR := hid_of hR
  replace hZ := hid_of hZ
  replace hbase := hid_of hbase
  replace hn := hid_of hn
  clear hA
  go_enter Try.func28, Try.ntmps28
  go_wp2
  go_loopw [5, 10] (fun at_ i wr => ∃ q k : Nat, q ≤ p.length ∧ i = .int .i64 q ∧ at_ = .int .i64 k ∧ Hid (LayRel w0 base tb mb n0 L p q k wr)) (fun _ i _ => p.length - (intOf i).toNat)
  case atStart => exact ⟨0, 0, Nat.zero_le _, rfl, rfl, hst⟩
  case round =>
    clear hst
    obtain ⟨q, k, hq, rfl, rfl, hrel⟩ := hrel
    obtain ⟨nb, n, cap, e1, e2, hkn, c1, d1, d2, d3, r1, r2, r3⟩ := hrel.out.look
    replace r1 := hid_of r1; replace r2 := hid_of r2; replace r3 := hid_of r3
    by_cases hlt : q < p.length
    · have hd : decide ((q : Int) < (p.length : Int)) = true := by simp; omega
      obtain ⟨x, hx⟩ : ∃ x, Hid (p[q]? = some x) := ⟨_, List.getElem?_eq_getElem hlt⟩
      have hxc : ∃ b o, a = some ⟨b, o, none⟩ ∧ wr.cell? ⟨b, o + q, none⟩ = some (.string x) := by
        obtain ⟨a', c', e', _, hA⟩ := hR.out wr hrel.out.low
        cases e'
        rcases hA with rfl | ⟨b, o, rfl, _, hA⟩
        · simp at hlt
        · exact ⟨b, o, rfl, hA q x hx.out⟩
      obtain ⟨b, o, rfl, hxc⟩ := hxc
      by_cases he : e1 = true
      · subst he
        have hin : Hid (p.take q ∈ L) := r1.out.1 rfl
        go_wp2
        go_ret
        exact ⟨false, rfl, hrel.out.low, fun _ => ⟨_, hin.out, .inr (List.take_prefix _ _)⟩, fun h => by cases h⟩
      · have he' : e1 = false := by simpa using he
        subst he'
        have hno : Hid (p.take q ∉ L) := fun h => by cases r1.out.2 h
        have hcall := hid_of (hrel.out.next hbase.out hn.out hx.out (hZ.out x (List.mem_of_getElem? hx.out)) hno.out)
        go_wp2_with (go_at_call 42; refine hcall.out.mono ?_; rintro r w5 ⟨j, rfl, hnext⟩; replace hnext := hid_of hnext)
        go_roundw
        case rel => exact ⟨q + 1, j, by omega, by simp, rfl, hnext⟩
        case measure => simp [intOf]; omega
    · have hd : decide ((q : Int) < (p.length : Int)) = false := by simp; omega
      have hq2 : Hid (q = p.length) := by simp only [Hid]; omega
      by_cases he : e1 = true
      · subst he
        have hin : Hid (p.take q ∈ L) := r1.out.1 rfl
        go_wp2
        go_ret
        exact ⟨false, rfl, hrel.out.low, fun _ => ⟨_, hin.out, .inr (List.take_prefix _ _)⟩, fun h => by cases h⟩
      · have he' : e1 = false := by simpa using he
        subst he'
        by_cases hf : e2 = true
        · subst hf
          obtain ⟨z, hz, hz2⟩ := r2.out rfl
          rw [hq2.out, List.take_length] at hz2
          replace hz := hid_of hz; replace hz2 := hid_of hz2
          go_wp2
          go_ret
          exact ⟨false, rfl, hrel.out.low, fun _ => ⟨z, hz.out, hz2.out⟩, fun h => by cases h⟩
        · have hf' : e2 = false := by simpa using hf
          subst hf'
          obtain ⟨g1, g2⟩ := r3.out rfl rfl hq2.out
          replace g1 := hid_of g1
          have g3 : Hid (Below base w0 (wr.setCell ⟨nb, k * 2, none⟩ (.bool true))) := by
            obtain ⟨_, _, _, _, _, _, _, _, h⟩ := g2; exact h
          replace g2 := hid_of g2
          go_wp2
          go_ret
          exact ⟨true, rfl, g3.out, (fun h => by cases h), fun _ => ⟨g1.out, g2.out⟩⟩
end Go.Proofs.Ytbhjbicbgmeboaa
