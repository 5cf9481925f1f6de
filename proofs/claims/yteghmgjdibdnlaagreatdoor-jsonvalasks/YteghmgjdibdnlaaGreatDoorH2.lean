import Derived.Test.YteghmgjdibdnlaaGreatDoorC2
import Derived.Test.YteghmgjdibdnlaaGreatDoorSI
/-! Has, and the document's Has. -/
namespace Go.Proofs.YteghmgjdibdnlaaGreatDoor.Tree
open Go Go.RowKit

def zeroT : Tr := .node 0 0 ⟨#[]⟩ [] []
theorem zeroT_rep (w : World) : VRep w zeroT (five 0 0 ⟨#[]⟩ (.slice none 0 0) (.slice none 0 0)) := by
  unfold zeroT VRep
  exact ⟨_, _, 0, rfl, ⟨_, 0, rfl, ⟨Nat.le_refl _, by omega⟩, .inl rfl⟩, ⟨Nat.le_refl _, by omega⟩, .inl rfl⟩
/-- The member that a name names. -/
def hasO : Tr → ByteArray → Option Tr
  | .node k _ _ ns its, s => if k = 6 ∧ 0 ≤ Lib.idxOfS ns s then its[(Lib.idxOfS ns s).toNat]? else none
theorem sindex_any (nm : Value) (ns : List ByteArray) (s : ByteArray) (w : World) (hN : Reads w nm ns) : Calls Tryz.prog 38 #[nm, .string s] w fun e w' => e = .returned (.int .i64 (Lib.idxOfS ns s)) ∧ w' = w := by
  have hl := hN.len
  obtain ⟨a, c, rfl, hc, h | ⟨b, o, rfl, hb, hA⟩⟩ := hN
  · subst h; exact Tryz.slices_Index_string_empty a c s w
  · have := Tryz.slices_Index_string b o ns.length c ns s w (Nat.le_refl _) hl (fun j hj => hA j _ (by
      rw [List.getD_eq_getElem?_getD, List.getElem?_eq_getElem hj]; rfl))
    rw [List.take_length] at this
    exact this
def HasPost (w : World) (o : Option Tr) (e : Ending) (w' : World) : Prop :=
  ∃ k x s an ln cn ai li ci, e = .returned (.tuple #[.agg #[.int .i64 k, .int .i64 x, .string s, .slice an ln cn, .slice ai li ci], .bool o.isSome]) ∧ VRep w' (o.getD zeroT) (five k x s (.slice an ln cn) (.slice ai li ci)) ∧ Below w.heap.size w w'
theorem has_none {w w3 : World} {g : Nat} {o : Option Tr} (ho : o = none) (hg : w.heap.size ≤ g) (hB : Below w.heap.size w w3) :
    HasPost w o (.returned (.tuple #[.agg #[.int .i64 0, .int .i64 0, .string ⟨#[]⟩, .slice none 0 0, .slice none 0 0], .bool false])) (put5 w3 g (.int .i64 0) (.int .i64 0) (.string ⟨#[]⟩) (.slice none 0 0) (.slice none 0 0)) := by
  subst ho
  exact ⟨0, 0, ⟨#[]⟩, none, 0, 0, none, 0, 0, rfl, zeroT_rep _, hB.trans (put5_below hg _ _ _ _ _)⟩
set_option maxHeartbeats 2000000 in
set_option maxRecDepth 100000 in
theorem has_code (t : Tr) (k x : Int) (s : ByteArray) (an : Option Addr) (ln cn : Nat) (ai : Option Addr) (li ci : Nat) (nm : ByteArray) (w : World) (hV : VRep w t (five k x s (.slice an ln cn) (.slice ai li ci))) :
    Calls Tryz.prog 22 #[.agg #[.int .i64 k, .int .i64 x, .string s, .slice an ln cn, .slice ai li ci], .string nm] w (HasPost w (hasO t nm)) := by
  obtain ⟨k0, x0, s0, ns, its⟩ := t
  unfold VRep at hV
  obtain ⟨nmv, a, c, e, hN, hc, hI⟩ := hV
  obtain ⟨rfl, rfl, rfl, rfl, rfl, rfl, rfl⟩ : k = k0 ∧ x = x0 ∧ s = s0 ∧ nmv = .slice an ln cn ∧ ai = a ∧ li = its.length ∧ ci = c := by unfold five at e; simp at e; obtain ⟨h1, h2, h3, h4, h5, h6, h7⟩ := e; exact ⟨h1, h2, h3, h4.symm, h5, h6, h7⟩
  clear e
  have hB2 : ∀ p1 p2, Below w.heap.size w ((w.alloc p1).alloc p2) := fun p1 p2 => ((Below.refl _ w).alloc (Nat.le_refl _) p1).alloc (by simp) p2
  have hn2 := fun o1 o2 => new2 w o1 o2
  by_cases h6 : k = 6
  · subst h6
    have hix := fun p1 p2 => hid_of (sindex_any _ ns nm ((w.alloc p1).alloc p2) (hN.keep (hB2 p1 p2)))
    obtain ⟨z, hz⟩ : ∃ z, Hid (Lib.idxOfS ns nm = z) := ⟨_, hid_of rfl⟩
    rw [hz.out] at hix
    by_cases h0 : z < 0
    · have hO : Hid (hasO (.node 6 x s ns its) nm = none) := hid_of (by simp only [hasO]; rw [hz.out, if_neg (by omega)])
      go_enter Tryz.func22, Tryz.ntmps22
      go_wp2_with fail
      refine (hix _ _).out.mono ?_
      rintro e W ⟨rfl, hW⟩
      have HB : Below w.heap.size w W := by rw [hW]; exact hB2 _ _
      have t1 : W.heap[w.heap.size]? = some (.cells #[.int .i64 6, .int .i64 x, .string s, .slice an ln cn, .slice ai its.length ci] 25 (0, 0)) := by rw [hW]; exact new1 w _ _
      have t2 : W.heap[w.heap.size + 1]? = some (.cells #[.int .i64 0, .int .i64 0, .string ⟨#[]⟩, .slice none 0 0, .slice none 0 0] 25 (0, 0)) := by rw [hW]; exact hn2 _ _
      clear hW hix hB2 hn2
      obtain ⟨y0, y1, y2, y3, y4, -⟩ := row_cells t1
      obtain ⟨z0, z1, z2, z3, z4, zf⟩ := row_cells t2
      have g0 := zf 0; have g1 := zf 1; have g2 := zf 2; have g3 := zf 3; have g4 := zf 4
      clear zf
      replace t1 := hid_of t1; replace t2 := hid_of t2; replace HB := hid_of HB
      go_wp2_with fail
      have hr := put5_cells t2.out (.int .i64 0) (.int .i64 0) (.string ⟨#[]⟩) (.slice none 0 0) (.slice none 0 0)
      have q0 := hr 0; have q1 := hr 1; have q2 := hr 2; have q3 := hr 3; have q4 := hr 4
      clear hr
      refine bodyPost_ret (v := .tuple #[.agg #[.int .i64 0, .int .i64 0, .string ⟨#[]⟩, .slice none 0 0, .slice none 0 0], .bool false]) (by simp [results, Tryz.results22, go_sem, q0, q1, q2, q3, q4]) rfl ?_
      clear q0 q1 q2 q3 q4 z0 z1 z2 z3 z4 g0 g1 g2 g3 g4
      exact has_none hO.out (by omega) HB.out
    · obtain ⟨n, rfl⟩ : ∃ n : Nat, z = n := ⟨z.toNat, by omega⟩
      by_cases h1 : n < its.length
      · obtain ⟨u, hu⟩ : ∃ u, its[n]? = some u := ⟨_, List.getElem?_eq_getElem h1⟩
        have hO : Hid (hasO (.node 6 x s ns its) nm = some u) := hid_of (by simp only [hasO]; rw [hz.out, if_pos ⟨trivial, by omega⟩, Int.toNat_natCast, hu])
        obtain ⟨b, o, rfl, hb, hL⟩ := hI.resolve_left (by intro e; subst e; simp at h1)
        obtain ⟨cs2, hC, hV2⟩ := VRepL.at its o n u hL hu
        obtain ⟨k2, x2, s2, an2, ln2, cn2, ai2, li2, ci2, rfl⟩ := vrep_five hV2
        have i1 : (n : Int) < (its.length : Int) := by omega
        have i2 : (0 : Int) ≤ (n : Int) := by omega
        have hd : decide ((its.length : Int) ≤ (n : Int)) = false := by simp; omega
        go_enter Tryz.func22, Tryz.ntmps22
        go_wp2_with fail
        refine (hix _ _).out.mono ?_
        rintro e W ⟨rfl, hW⟩
        have HB : Below w.heap.size w W := by rw [hW]; exact hB2 _ _
        have t1 : W.heap[w.heap.size]? = some (.cells #[.int .i64 6, .int .i64 x, .string s, .slice an ln cn, .slice (some ⟨b, o, none⟩) its.length ci] 25 (0, 0)) := by rw [hW]; exact new1 w _ _
        have t2 : W.heap[w.heap.size + 1]? = some (.cells #[.int .i64 0, .int .i64 0, .string ⟨#[]⟩, .slice none 0 0, .slice none 0 0] 25 (0, 0)) := by rw [hW]; exact hn2 _ _
        clear hW hix hB2 hn2
        obtain ⟨y0, y1, y2, y3, y4, -⟩ := row_cells t1
        obtain ⟨z0, z1, z2, z3, z4, zf⟩ := row_cells t2
        have g0 := zf 0; have g1 := zf 1; have g2 := zf 2; have g3 := zf 3; have g4 := zf 4
        clear zf
        replace t1 := hid_of t1; replace t2 := hid_of t2; replace HB := hid_of HB
        have w0 := stay HB.out (hC 0 _ rfl)
        have w1 := stay HB.out (hC 1 _ rfl)
        have w2 := stay HB.out (hC 2 _ rfl)
        have w3 := stay HB.out (hC 3 _ rfl)
        have w4 := stay HB.out (hC 4 _ rfl)
        simp only [Nat.add_zero] at w0
        have hfin := hid_of (VRep.keep (HB.out.trans (put5_below (w := W) (g := w.heap.size + 1) (by omega) (.int .i64 k2) (.int .i64 x2) (.string s2) (.slice an2 ln2 cn2) (.slice ai2 li2 ci2))) _ _ hV2)
        have hBf := hid_of (HB.out.trans (put5_below (w := W) (g := w.heap.size + 1) (by omega) (.int .i64 k2) (.int .i64 x2) (.string s2) (.slice an2 ln2 cn2) (.slice ai2 li2 ci2)))
        clear hC hV2 hL
        go_wp2_with fail
        have hr := put5_cells t2.out (.int .i64 k2) (.int .i64 x2) (.string s2) (.slice an2 ln2 cn2) (.slice ai2 li2 ci2)
        have q0 := hr 0; have q1 := hr 1; have q2 := hr 2; have q3 := hr 3; have q4 := hr 4
        clear hr
        refine bodyPost_ret (v := .tuple #[.agg #[.int .i64 k2, .int .i64 x2, .string s2, .slice an2 ln2 cn2, .slice ai2 li2 ci2], .bool true]) (by simp [results, Tryz.results22, go_sem, q0, q1, q2, q3, q4]) rfl ?_
        clear q0 q1 q2 q3 q4 z0 z1 z2 z3 z4 g0 g1 g2 g3 g4
        refine ⟨k2, x2, s2, an2, ln2, cn2, ai2, li2, ci2, by rw [hO.out]; rfl, by rw [hO.out]; exact hfin.out, hBf.out⟩
      · have hO : Hid (hasO (.node 6 x s ns its) nm = none) := hid_of (by simp only [hasO]; rw [hz.out, if_pos ⟨trivial, by omega⟩, Int.toNat_natCast, List.getElem?_eq_none (by omega)])
        have hd : decide ((its.length : Int) ≤ (n : Int)) = true := by simp; omega
        go_enter Tryz.func22, Tryz.ntmps22
        go_wp2_with fail
        refine (hix _ _).out.mono ?_
        rintro e W ⟨rfl, hW⟩
        have HB : Below w.heap.size w W := by rw [hW]; exact hB2 _ _
        have t1 : W.heap[w.heap.size]? = some (.cells #[.int .i64 6, .int .i64 x, .string s, .slice an ln cn, .slice ai its.length ci] 25 (0, 0)) := by rw [hW]; exact new1 w _ _
        have t2 : W.heap[w.heap.size + 1]? = some (.cells #[.int .i64 0, .int .i64 0, .string ⟨#[]⟩, .slice none 0 0, .slice none 0 0] 25 (0, 0)) := by rw [hW]; exact hn2 _ _
        clear hW hix hB2 hn2
        obtain ⟨y0, y1, y2, y3, y4, -⟩ := row_cells t1
        obtain ⟨z0, z1, z2, z3, z4, zf⟩ := row_cells t2
        have g0 := zf 0; have g1 := zf 1; have g2 := zf 2; have g3 := zf 3; have g4 := zf 4
        clear zf
        replace t1 := hid_of t1; replace t2 := hid_of t2; replace HB := hid_of HB
        go_wp2_with fail
        have hr := put5_cells t2.out (.int .i64 0) (.int .i64 0) (.string ⟨#[]⟩) (.slice none 0 0) (.slice none 0 0)
        have q0 := hr 0; have q1 := hr 1; have q2 := hr 2; have q3 := hr 3; have q4 := hr 4
        clear hr
        refine bodyPost_ret (v := .tuple #[.agg #[.int .i64 0, .int .i64 0, .string ⟨#[]⟩, .slice none 0 0, .slice none 0 0], .bool false]) (by simp [results, Tryz.results22, go_sem, q0, q1, q2, q3, q4]) rfl ?_
        clear q0 q1 q2 q3 q4 z0 z1 z2 z3 z4 g0 g1 g2 g3 g4
        exact has_none hO.out (by omega) HB.out
  · have e6 : (k == 6) = false := by simpa using h6
    have hO : Hid (hasO (.node k x s ns its) nm = none) := hid_of (by simp only [hasO]; rw [if_neg (fun h => h6 h.1)])
    go_enter Tryz.func22, Tryz.ntmps22
    go_upto_region 1 with fail
    obtain ⟨W, hW⟩ : ∃ W, Hid ((w.alloc (.cells #[.int .i64 k, .int .i64 x, .string s, .slice an ln cn, .slice ai its.length ci] 25)).alloc (.cells #[.int .i64 0, .int .i64 0, .string ⟨#[]⟩, .slice none 0 0, .slice none 0 0] 25) = W) := ⟨_, hid_of rfl⟩
    have HB : Below w.heap.size w W := by rw [← hW.out]; exact hB2 _ _
    have t1 : W.heap[w.heap.size]? = some (.cells #[.int .i64 k, .int .i64 x, .string s, .slice an ln cn, .slice ai its.length ci] 25 (0, 0)) := by rw [← hW.out]; exact new1 w _ _
    have t2 : W.heap[w.heap.size + 1]? = some (.cells #[.int .i64 0, .int .i64 0, .string ⟨#[]⟩, .slice none 0 0, .slice none 0 0] 25 (0, 0)) := by rw [← hW.out]; exact hn2 _ _
    rw [hW.out]
    clear hW hB2 hn2
    obtain ⟨y0, y1, y2, y3, y4, -⟩ := row_cells t1
    obtain ⟨z0, z1, z2, z3, z4, zf⟩ := row_cells t2
    have g0 := zf 0; have g1 := zf 1; have g2 := zf 2; have g3 := zf 3; have g4 := zf 4
    clear zf
    replace t1 := hid_of t1; replace t2 := hid_of t2; replace HB := hid_of HB
    go_wp2_with fail
    have hr := put5_cells t2.out (.int .i64 0) (.int .i64 0) (.string ⟨#[]⟩) (.slice none 0 0) (.slice none 0 0)
    have q0 := hr 0; have q1 := hr 1; have q2 := hr 2; have q3 := hr 3; have q4 := hr 4
    clear hr
    refine bodyPost_ret (v := .tuple #[.agg #[.int .i64 0, .int .i64 0, .string ⟨#[]⟩, .slice none 0 0, .slice none 0 0], .bool false]) (by simp [results, Tryz.results22, go_sem, q0, q1, q2, q3, q4]) rfl ?_
    clear q0 q1 q2 q3 q4 z0 z1 z2 z3 z4 g0 g1 g2 g3 g4
    exact has_none hO.out (by omega) HB.out
end Go.Proofs.YteghmgjdibdnlaaGreatDoor.Tree
/-! The document's Has. -/
namespace Go.Proofs.YteghmgjdibdnlaaGreatDoor.Tree
open Go Go.RowKit

theorem str_beq (a b : ByteArray) : (a.toList == b.toList) = decide (a = b) := by
  rw [Bool.eq_iff_iff, beq_iff_eq, decide_eq_true_eq, ByteArray.toList_eq, ByteArray.toList_eq]
  exact ⟨fun h => ByteArray.ext (Array.toList_inj.1 h), fun h => by rw [h]⟩
theorem idx_first {ns : List ByteArray} {s : ByteArray} {q : Nat} (h : ns[q]? = some s) (hne : ∀ j : Nat, j < q → ns[j]? ≠ some s) : Lib.idxOfS ns s = q := by
  have hq := (List.getElem?_eq_some_iff.1 h).1
  have := Lib.idxFromS_hit s ns q 0 hq (by rw [List.getD_eq_getElem?_getD, h]; rfl) (fun j hj e => hne j hj (by
    rw [List.getD_eq_getElem?_getD, List.getElem?_eq_getElem (by omega)] at e
    rw [List.getElem?_eq_getElem (by omega)]; simpa using e))
  unfold Lib.idxOfS; rw [this]; simp
theorem hasO_hit {x : Int} {tx : ByteArray} {ns : List ByteArray} {its : List Tr} {s : ByteArray} {q : Nat} {u : Tr} (h : ns[q]? = some s) (hne : ∀ j : Nat, j < q → ns[j]? ≠ some s) (hu : its[q]? = some u) : hasO (.node 6 x tx ns its) s = some u := by
  simp only [hasO]
  rw [idx_first h hne, if_pos ⟨trivial, by omega⟩, Int.toNat_natCast, hu]
theorem hasO_miss {x : Int} {tx : ByteArray} {ns : List ByteArray} {its : List Tr} {s : ByteArray} (hne : ∀ j : Nat, j < min ns.length its.length → ns[j]? ≠ some s) : hasO (.node 6 x tx ns its) s = none := by
  simp only [hasO]
  split
  · rename_i h
    have hmem := (Lib.idxOfS_nonneg_iff ns s).1 h.2
    obtain ⟨q, hq, hf⟩ : ∃ q : Nat, ns[q]? = some s ∧ ∀ j : Nat, j < q → ns[j]? ≠ some s := by
      obtain ⟨i, hi⟩ := List.mem_iff_getElem?.1 hmem
      induction i using Nat.strongRecOn with
      | _ i ih =>
        by_cases he : ∃ j : Nat, j < i ∧ ns[j]? = some s
        · obtain ⟨j, hj, hjs⟩ := he; exact ih j hj hjs
        · exact ⟨i, hi, fun j hj e => he ⟨j, hj, e⟩⟩
    have hql := (List.getElem?_eq_some_iff.1 hq).1
    rw [idx_first hq hf, Int.toNat_natCast]
    apply List.getElem?_eq_none
    apply Nat.le_of_not_lt
    intro hlt
    exact hne q (by omega) hq
  · rfl
set_option maxHeartbeats 2000000 in
set_option maxRecDepth 100000 in
theorem has_ref (t : Tr) (k x : Int) (s : ByteArray) (an : Option Addr) (ln cn : Nat) (ai : Option Addr) (li ci : Nat) (nm : ByteArray) (w : World) (hV : VRep w t (five k x s (.slice an ln cn) (.slice ai li ci))) (hS : SmallT t) :
    Calls Tryz.prog 23 #[.agg #[.int .i64 k, .int .i64 x, .string s, .slice an ln cn, .slice ai li ci], .string nm] w (HasPost w (hasO t nm)) := by
  obtain ⟨k0, x0, s0, ns, its⟩ := t
  unfold VRep at hV
  obtain ⟨nmv, a, c, e, hN, hc, hI⟩ := hV
  obtain ⟨rfl, rfl, rfl, rfl, rfl, rfl, rfl⟩ : k = k0 ∧ x = x0 ∧ s = s0 ∧ nmv = .slice an ln cn ∧ ai = a ∧ li = its.length ∧ ci = c := by unfold five at e; simp at e; obtain ⟨h1, h2, h3, h4, h5, h6, h7⟩ := e; exact ⟨h1, h2, h3, h4.symm, h5, h6, h7⟩
  clear e
  unfold SmallT at hS
  obtain ⟨an0, cn0, e, hcn, hA⟩ := id hN
  cases e
  replace hN := hid_of hN; replace hI := hid_of hI; replace hA := hid_of hA
  have hB2 : ∀ p1 p2, Below w.heap.size w ((w.alloc p1).alloc p2) := fun p1 p2 => ((Below.refl _ w).alloc (Nat.le_refl _) p1).alloc (by simp) p2
  go_enter Tryz.func23, Tryz.ntmps23
  go_wp2_with fail
  go_loopw [6] (fun iv wr => ∃ q : Nat, q ≤ its.length ∧ iv = .int .i64 q ∧ Below w.heap.size w wr ∧ wr.heap[w.heap.size]? = some (.cells #[.int .i64 k, .int .i64 x, .string s, .slice an ns.length cn, .slice ai its.length ci] 25 (0, 0)) ∧ wr.heap[w.heap.size + 1]? = some (.cells #[.int .i64 0, .int .i64 0, .string ⟨#[]⟩, .slice none 0 0, .slice none 0 0] 25 (0, 0)) ∧ Hid (∀ j : Nat, j < q → ns[j]? ≠ some nm)) (fun iv _ => its.length - (intOf iv).toNat)
  case atStart => exact ⟨0, Nat.zero_le _, rfl, hB2 _ _, new1 w _ _, new2 w _ _, hid_of (fun j h => by omega)⟩
  case round =>
    clear hB2
    obtain ⟨q, hq, rfl, HB, t1, t2, hno⟩ := hrel
    obtain ⟨y0, y1, y2, y3, y4, -⟩ := row_cells t1
    obtain ⟨z0, z1, z2, z3, z4, zf⟩ := row_cells t2
    have g0 := zf 0; have g1 := zf 1; have g2 := zf 2; have g3 := zf 3; have g4 := zf 4
    clear zf
    replace t1 := hid_of t1; replace t2 := hid_of t2
    by_cases hgo : k = 6 ∧ q < ns.length ∧ q < its.length
    · obtain ⟨rfl, hqn, hqi⟩ := hgo
      have d1 : decide ((q : Int) < (ns.length : Int)) = true := by simp; omega
      have d2 : decide ((q : Int) < (its.length : Int)) = true := by simp; omega
      obtain ⟨b, o, rfl, hb, hA'⟩ := hA.out.resolve_left (by intro e; subst e; simp at hqn)
      obtain ⟨m, hm⟩ : ∃ m, Hid (ns[q]? = some m) := ⟨_, hid_of (List.getElem?_eq_getElem hqn)⟩
      have c1 := stay HB (hA' q m hm.out)
      clear hA'
      have i1 : (q : Int) < (ns.length : Int) := by omega
      have i2 : (0 : Int) ≤ (q : Int) := by omega
      have i3 : (q : Int) < (its.length : Int) := by omega
      by_cases he : m = nm
      · subst he
        have hb' : (m.toList == m.toList) = true := by simp
        obtain ⟨u, hu⟩ : ∃ u, Hid (its[q]? = some u) := ⟨_, hid_of (List.getElem?_eq_getElem hqi)⟩
        have hO := hid_of (hasO_hit (x := x) (tx := s) hm.out hno.out hu.out)
        obtain ⟨b2, o2, rfl, hb2, hL⟩ := hI.out.resolve_left (by intro e; subst e; simp at hqi)
        obtain ⟨cs2, hC, hV2⟩ := VRepL.at its o2 q u hL hu.out
        obtain ⟨k2, x2, s2, an2, ln2, cn2, ai2, li2, ci2, rfl⟩ := vrep_five hV2
        have hcp := hid_of (copy_any u _ wr (VRep.keep HB _ _ hV2) (SmallL.at hS.2.2.2.2 hu.out))
        have w0 := stay HB (hC 0 _ rfl)
        have w1 := stay HB (hC 1 _ rfl)
        have w2 := stay HB (hC 2 _ rfl)
        have w3 := stay HB (hC 3 _ rfl)
        have w4 := stay HB (hC 4 _ rfl)
        simp only [Nat.add_zero] at w0
        clear hC hV2 hL
        have hsz : w.heap.size + 2 ≤ wr.heap.size := by have := (Array.getElem?_eq_some_iff.1 t2.out).1; omega
        go_wp2_with fail
        go_fit hcp.out
        rintro e Y ⟨k3, x3, s3, an3, ln3, cn3, ai3, li3, ci3, rfl, hsn, hbw⟩
        replace t2 := (hbw.block _ (Array.getElem?_eq_some_iff.1 t2.out).1).trans t2.out
        have HB' : Below w.heap.size w Y := HB.trans (hbw.mono HB.size)
        clear y0 y1 y2 y3 y4 z0 z1 z2 z3 z4 g0 g1 g2 g3 g4 w0 w1 w2 w3 w4 c1 hcp
        obtain ⟨z0, z1, z2, z3, z4, zf⟩ := row_cells t2
        have g0 := zf 0; have g1 := zf 1; have g2 := zf 2; have g3 := zf 3; have g4 := zf 4
        clear zf
        replace t2 := hid_of t2; replace hsn := hid_of hsn
        go_wp2_with fail
        have hr := put5_cells t2.out (.int .i64 k3) (.int .i64 x3) (.string s3) (.slice an3 ln3 cn3) (.slice ai3 li3 ci3)
        have q0 := hr 0; have q1 := hr 1; have q2 := hr 2; have q3 := hr 3; have q4 := hr 4
        clear hr
        refine bodyPost_ret (v := .tuple #[.agg #[.int .i64 k3, .int .i64 x3, .string s3, .slice an3 ln3 cn3, .slice ai3 li3 ci3], .bool true]) (by simp [results, Tryz.results23, go_sem, q0, q1, q2, q3, q4]) rfl ?_
        clear q0 q1 q2 q3 q4 z0 z1 z2 z3 z4 g0 g1 g2 g3 g4
        refine ⟨k3, x3, s3, an3, ln3, cn3, ai3, li3, ci3, by rw [hO.out]; rfl, ?_, HB'.trans (put5_below (by omega) _ _ _ _ _)⟩
        rw [hO.out]
        exact hsn.out _ ⟨Nat.le_of_eq (put5_size _ _ _ _ _ _ _).symm, fun p u hp hc => (World.cell?_of_block (w := Y) (put5_far _ _ _ _ _ (show p.block ≠ w.heap.size + 1 from fun e => by
          have hp' : wr.heap.size ≤ p.block := hp
          omega))).trans hc⟩
      · have hb' : (m.toList == nm.toList) = false := by rw [str_beq]; simpa using he
        go_wp2_with fail
        go_roundw
        case rel => exact ⟨q + 1, by omega, by simp, HB, t1.out, t2.out, hid_of (fun j hj => by
          by_cases ej : j = q
          · subst ej; rw [hm.out]; simpa using he
          · exact hno.out j (by omega))⟩
        case measure => simp [intOf]; omega
    · have hO : Hid (hasO (.node k x s ns its) nm = none) := hid_of (by
        by_cases h6 : k = 6
        · subst h6
          exact hasO_miss (fun j hj => hno.out j (by
            apply Classical.byContradiction
            intro hj'
            exact hgo ⟨rfl, by omega, by omega⟩))
        · simp only [hasO]; rw [if_neg (fun h => h6 h.1)])
      have hout : (k == 6) = false ∨ ((k == 6) = true ∧ decide ((q : Int) < (ns.length : Int)) = false) ∨ ((k == 6) = true ∧ decide ((q : Int) < (ns.length : Int)) = true ∧ decide ((q : Int) < (its.length : Int)) = false) := by
        by_cases h6 : k = 6
        · right
          by_cases h1 : q < ns.length
          · right
            refine ⟨by simpa using h6, by simp; omega, ?_⟩
            have : ¬ q < its.length := fun h2 => hgo ⟨h6, h1, h2⟩
            simp; omega
          · left
            exact ⟨by simpa using h6, by simp; omega⟩
        · left; simpa using h6
      replace hgo := hid_of hgo
      have hge : w.heap.size ≤ w.heap.size + 1 := by omega
      rcases hout with e6 | ⟨e6, e7⟩ | ⟨e6, e7, e8⟩
      all_goals
        try have n7 : ¬ (q : Int) < (ns.length : Int) := by simpa using e7
        try have n8 : ¬ (q : Int) < (its.length : Int) := by simpa using e8
        go_wp2_with fail
        all_goals
          have hr := put5_cells t2.out (.int .i64 0) (.int .i64 0) (.string ⟨#[]⟩) (.slice none 0 0) (.slice none 0 0)
          have q0 := hr 0; have q1 := hr 1; have q2 := hr 2; have q3 := hr 3; have q4 := hr 4
          clear hr
          refine bodyPost_ret (v := .tuple #[.agg #[.int .i64 0, .int .i64 0, .string ⟨#[]⟩, .slice none 0 0, .slice none 0 0], .bool false]) (by simp [results, Tryz.results23, go_sem, q0, q1, q2, q3, q4]) rfl ?_
          exact has_none hO.out hge HB
end Go.Proofs.YteghmgjdibdnlaaGreatDoor.Tree
