import Derived.Test.YthebilggokpciaaE5
import Derived.Deep.DeepFit
/-! The document's Members, place. -/
namespace Go.Proofs.Ythebilggokpciaa
open Go Go.RowKit

theorem hid_f {p : Prop} (h : p) : Hid p := h
set_option maxHeartbeats 1000000 in
set_option maxRecDepth 100000 in
theorem rmem_any (k x : Int) (s : ByteArray) (an : Option Addr) (ln cn : Nat) (ai : Option Addr) (li ci : Nat) (w : World) : Calls Try.prog 57 #[.agg #[.int .i64 k, .int .i64 x, .string s, .slice an ln cn, .slice ai li ci]] w fun e w' => e = .returned (.int .i64 (min ln li : Nat)) ∧ Below w.heap.size w w' := by
  by_cases h : ln < li
  · have hd : decide ((ln : Int) < (li : Int)) = true := by simp; omega
    rw [Nat.min_eq_left (by omega)]
    go_enter Try.func57, Try.ntmps57
    go_wp2_with fail
    go_ret
    exact ⟨rfl, (Below.refl _ w).alloc (Nat.le_refl _) _⟩
  · have hd : decide ((ln : Int) < (li : Int)) = false := by simp; omega
    rw [Nat.min_eq_right (by omega)]
    go_enter Try.func57, Try.ntmps57
    go_wp2_with fail
    go_ret
    exact ⟨rfl, (Below.refl _ w).alloc (Nat.le_refl _) _⟩
def rplace (k : Int) (ns : List ByteArray) (m : Nat) (s : ByteArray) : Int := if placeB k ns m s = true then placeI k ns s else -1
theorem getD_some {l : List ByteArray} {q : Nat} {x : ByteArray} (h : l[q]? = some x) : l.getD q ByteArray.empty = x := by rw [List.getD_eq_getElem?_getD, h]; rfl
theorem rplace_hit {ns : List ByteArray} {m q : Nat} {s : ByteArray} (h : ns[q]? = some s) (hne : ∀ j, j < q → ns[j]? ≠ some s) (hm : q < m) : rplace 6 ns m s = q := by
  have hq := (List.getElem?_eq_some_iff.1 h).1
  have := Lib.idxFromS_hit s ns q 0 hq (getD_some h) (fun j hj e => hne j hj (by rw [List.getElem?_eq_getElem (by omega)]; rw [List.getD_eq_getElem?_getD, List.getElem?_eq_getElem (by omega)] at e; simpa using e))
  have e : Lib.idxOfS ns s = q := by unfold Lib.idxOfS; rw [this]; simp
  unfold rplace placeB placeI
  simp only [e, if_true]
  rw [if_pos (by simp; omega)]
theorem rplace_miss {ns : List ByteArray} {m : Nat} {s : ByteArray} (hne : ∀ j, j < min ns.length m → ns[j]? ≠ some s) : rplace 6 ns m s = -1 := by
  unfold rplace placeB
  rw [if_neg]
  simp only [if_true]
  intro h
  simp at h
  obtain ⟨h1, h2⟩ := h
  have hmem := (Lib.idxOfS_nonneg_iff ns s).1 h1
  -- the first place
  obtain ⟨q, hq, hf⟩ : ∃ q, ns[q]? = some s ∧ ∀ j, j < q → ns[j]? ≠ some s := by
    obtain ⟨i, hi⟩ := List.mem_iff_getElem?.1 hmem
    induction i using Nat.strongRecOn with
    | _ i ih =>
      by_cases he : ∃ j, j < i ∧ ns[j]? = some s
      · obtain ⟨j, hj, hjs⟩ := he; exact ih j hj hjs
      · exact ⟨i, hi, fun j hj e => he ⟨j, hj, e⟩⟩
  have hql := (List.getElem?_eq_some_iff.1 hq).1
  have e := Lib.idxFromS_hit s ns q 0 hql (getD_some hq) (fun j hj e => hf j hj (by rw [List.getElem?_eq_getElem (by omega)]; rw [List.getD_eq_getElem?_getD, List.getElem?_eq_getElem (by omega)] at e; simpa using e))
  have e' : Lib.idxOfS ns s = q := by unfold Lib.idxOfS; rw [e]; simp
  rw [e'] at h2
  exact hne q (by omega) hq

set_option maxHeartbeats 4000000 in
set_option maxRecDepth 100000 in
theorem rplace_any (k x : Int) (tx : ByteArray) (an : Option Addr) (cn : Nat) (ns : List ByteArray) (a : Option Addr) (m c : Nat) (s : ByteArray) (w : World) (hN : Hid (Reads w (.slice an ns.length cn) ns)) (hm : m ≤ 9223372036854775807) (hs : s.size ≤ 9223372036854775806) :
    Calls Try.prog 36 #[.agg #[.int .i64 k, .int .i64 x, .string tx, .slice an ns.length cn, .slice a m c], .string s] w fun e w' => e = .returned (.int .i64 (rplace k ns m s)) ∧ Below w.heap.size w w' := by
  by_cases h6 : k = 6
  · subst h6
    obtain ⟨mm, hmm⟩ : ∃ z, Hid (min ns.length m = z) := ⟨_, rfl⟩
    have hmb : mm ≤ 9223372036854775807 := by have := hmm.out; omega
    have hmem := fun W => hid_f (rmem_any 6 x tx an ns.length cn a m c W)
    rw [hmm.out] at hmem
    go_enter Try.func36, Try.ntmps36
    go_wp2_with fail
    go_loopw [5] (fun i wr => ∃ q : Nat, q ≤ mm ∧ i = .int .i64 q ∧ Below w.heap.size w wr ∧ wr.heap[w.heap.size]? = some (.cells #[.int .i64 6, .int .i64 x, .string tx, .slice an ns.length cn, .slice a m c] 25 (0, 0)) ∧ Hid (∀ j, j < q → ns[j]? ≠ some s)) (fun i _ => mm - (intOf i).toNat)
    case atStart => exact ⟨0, Nat.zero_le _, rfl, (Below.refl _ w).alloc (Nat.le_refl _) _, heap_alloc_new w _, fun j h => by omega⟩
    case round =>
      obtain ⟨q, hq, rfl, hbel, hb0, hne⟩ := hrel
      obtain ⟨y0, y1, y2, y3, y4, -⟩ := row_cells hb0
      go_wp2_with fail
      clear y0 y1 y2 y3 y4
      go_fit (hmem _).out
      rintro e w1 ⟨rfl, hb⟩
      have hbel1 : Below w.heap.size w w1 := hbel.trans (hb.mono hbel.size)
      replace hb0 := (hb.block _ (Array.getElem?_eq_some_iff.1 hb0).1).trans hb0
      clear hb hbel
      obtain ⟨y0, y1, y2, y3, y4, -⟩ := row_cells hb0
      by_cases hlt : q < mm
      · have hd : decide ((q : Int) < (mm : Int)) = true := by simp; omega
        have hqn : q < ns.length := by have := hmm.out; omega
        have hqm : q < m := by have := hmm.out; omega
        obtain ⟨n, hn⟩ : ∃ n, Hid (ns[q]? = some n) := ⟨_, List.getElem?_eq_getElem hqn⟩
        obtain ⟨_, _, e, _, hR⟩ := hN.out
        cases e
        obtain ⟨gn, on, rfl, _, hR⟩ := hR.resolve_left (by intro e; subst e; simp at hqn)
        have c1 := stay hbel1 (hR q n hn.out)
        clear hR
        have i1 : (q : Int) < (ns.length : Int) := by omega
        have i2 : (0 : Int) ≤ (q : Int) := by omega
        by_cases he : n = s
        · subst he
          have hout := hid_f (rplace_hit hn.out hne.out hqm)
          have hb' : (n.toList == n.toList) = true := by simp
          go_wp2_with fail
          go_ret
          exact ⟨ret_int hout.out.symm, hbel1⟩
        · have hb' : (n.toList == s.toList) = false := by rw [toList_beq]; simpa using he
          go_wp2_with fail
          go_roundw
          case rel => exact ⟨q + 1, by omega, by simp, hbel1, hb0, fun j h e => by
            by_cases ej : j = q
            · subst ej; rw [hn.out] at e; exact he (by simpa using e)
            · exact hne.out j (by omega) e⟩
          case measure => simp [intOf]; omega
      · have hd : decide ((q : Int) < (mm : Int)) = false := by simp; omega
        have hout := hid_f (rplace_miss (m := m) (s := s) (fun j hj => hne.out j (by have := hmm.out; omega)))
        clear hmem
        go_wp2_with (go_at_call 35; refine (rindex_any s hs _).mono ?_; rintro e w' ⟨rfl, rfl⟩; unfold idxV)
        go_ret
        exact ⟨ret_int hout.out.symm, hbel1⟩
  · have e6 : (k == 6) = false := by simpa using h6
    have hB := (Below.refl _ w).alloc (Nat.le_refl _) (.cells #[.int .i64 k, .int .i64 x, .string tx, .slice an ns.length cn, .slice a m c] 25)
    have hri := fun W => hid_f (rindex_any s hs W)
    unfold idxV at hri
    by_cases h5 : k = 5
    · subst h5
      cases hix : idx s with
      | none =>
        rw [hix] at hri
        have hout : Hid (rplace 5 ns m s = -1) := by unfold rplace placeB; simp [hix, Hid]
        clear hix
        go_enter Try.func36, Try.ntmps36
        go_wp2_with fail
        refine (hri _).out.mono ?_
        rintro e w1 ⟨rfl, rfl⟩
        go_wp2_with fail
        go_ret
        exact ⟨ret_int hout.out.symm, hB⟩
      | some z =>
        rw [hix] at hri
        by_cases hz : z < m
        · have hd : decide ((z : Int) < (m : Int)) = true := by simp; omega
          have hout : Hid (rplace 5 ns m s = z) := by unfold rplace placeB placeI; simp [hix, Hid, hz]
          clear hix
          go_enter Try.func36, Try.ntmps36
          go_wp2_with fail
          refine (hri _).out.mono ?_
          rintro e w1 ⟨rfl, rfl⟩
          go_wp2_with fail
          go_ret
          exact ⟨ret_int hout.out.symm, hB⟩
        · have hd : decide ((z : Int) < (m : Int)) = false := by simp; omega
          have hout : Hid (rplace 5 ns m s = -1) := by unfold rplace placeB; simp [hix, Hid]; omega
          clear hix
          go_enter Try.func36, Try.ntmps36
          go_wp2_with fail
          refine (hri _).out.mono ?_
          rintro e w1 ⟨rfl, rfl⟩
          go_wp2_with fail
          go_ret
          exact ⟨ret_int hout.out.symm, hB⟩
    · have e5 : (k == 5) = false := by simpa using h5
      have hout : Hid (rplace k ns m s = -1) := by unfold rplace placeB; simp [h6, h5, Hid]
      go_enter Try.func36, Try.ntmps36
      go_wp2_with fail
      refine (hri _).out.mono ?_
      rintro e w1 ⟨rfl, rfl⟩
      go_wp2_with fail
      go_ret
      exact ⟨ret_int hout.out.symm, hB⟩
end Go.Proofs.Ythebilggokpciaa
