import Derived.Test.YthgnkhpomhcdkaaGreatDoorMA1
import Derived.Test.YthgnkhpomhcdkaaGreatDoorXI
/-! Has, and the document's Has. -/
namespace Go.Proofs.YthgnkhpomhcdkaaGreatDoor
open Go Go.RowKit

def zeroT : Tr := .node 0 0 ⟨#[]⟩ [] []
theorem zeroT_rep (w : World) : VRep w zeroT (five 0 0 ⟨#[]⟩ (.slice none 0 0) (.slice none 0 0)) := by
  unfold zeroT VRep
  exact ⟨_, _, 0, rfl, ⟨_, 0, rfl, ⟨Nat.le_refl _, by omega⟩, .inl rfl⟩, ⟨Nat.le_refl _, by omega⟩, .inl rfl⟩
/-- The member that a name names. -/
def hasO : Tr → ByteArray → Option Tr
  | .node k _ _ ns its, s => if k = 6 ∧ 0 ≤ Lib.idxOfS ns s then its[(Lib.idxOfS ns s).toNat]? else none
theorem sindex_any (nm : Value) (ns : List ByteArray) (s : ByteArray) (w : World) (hN : Reads w nm ns) : Calls Tryz.prog 141 #[nm, .string s] w fun e w' => e = .returned (.int .i64 (Lib.idxOfS ns s)) ∧ w' = w := by
  have hl := hN.len
  obtain ⟨a, c, rfl, hc, h | ⟨b, o, rfl, hb, hA⟩⟩ := hN
  · subst h; exact Tryz.slices_Index_string_empty a c s w
  · have := Tryz.slices_Index_string b o ns.length c ns s w (Nat.le_refl _) hl (fun j hj => hA j _ (by
      rw [List.getD_eq_getElem?_getD, List.getElem?_eq_getElem hj]; rfl))
    rw [List.take_length] at this
    exact this
def HasPost (w : World) (o : Option Tr) (e : Ending) (w' : World) : Prop :=
  ∃ k x s an ln cn ai li ci, e = .returned (.tuple #[.agg #[.int .i64 k, .int .i64 x, .string s, .slice an ln cn, .slice ai li ci], .bool o.isSome]) ∧ VRep w' (o.getD zeroT) (five k x s (.slice an ln cn) (.slice ai li ci)) ∧ Below w.heap.size w w'
theorem has_none {w w3 : World} {g : Nat} {o : Option Tr} (ho : o = none) (hg : w.heap.size ≤ g) (hB : Below w.heap.size w w3) :
    HasPost w o (.returned (.tuple #[.agg #[.int .i64 0, .int .i64 0, .string ⟨#[]⟩, .slice none 0 0, .slice none 0 0], .bool false])) (put5 w3 g (.int .i64 0) (.int .i64 0) (.string ⟨#[]⟩) (.slice none 0 0) (.slice none 0 0)) := by
  subst ho
  exact ⟨0, 0, ⟨#[]⟩, none, 0, 0, none, 0, 0, rfl, zeroT_rep _, hB.trans (put5_below hg _ _ _ _ _)⟩
set_option maxHeartbeats 2000000 in
set_option maxRecDepth 100000 in
theorem has_code (t : Tr) (k x : Int) (s : ByteArray) (an : Option Addr) (ln cn : Nat) (ai : Option Addr) (li ci : Nat) (nm : ByteArray) (w : World) (hV : VRep w t (five k x s (.slice an ln cn) (.slice ai li ci))) :
    Calls Tryz.prog 93 #[.agg #[.int .i64 k, .int .i64 x, .string s, .slice an ln cn, .slice ai li ci], .string nm] w (HasPost w (hasO t nm)) := by
  obtain ⟨k0, x0, s0, ns, its⟩ := t
  unfold VRep at hV
  obtain ⟨nmv, a, c, e, hN, hc, hI⟩ := hV
  obtain ⟨rfl, rfl, rfl, rfl, rfl, rfl, rfl⟩ : k = k0 ∧ x = x0 ∧ s = s0 ∧ nmv = .slice an ln cn ∧ ai = a ∧ li = its.length ∧ ci = c := by unfold five at e; simp at e; obtain ⟨h1, h2, h3, h4, h5, h6, h7⟩ := e; exact ⟨h1, h2, h3, h4.symm, h5, h6, h7⟩
  clear e
  have hB2 : ∀ p1 p2, Below w.heap.size w ((w.alloc p1).alloc p2) := fun p1 p2 => ((Below.refl _ w).alloc (Nat.le_refl _) p1).alloc (by simp) p2
  have hn2 := fun o1 o2 => new2 w o1 o2
  by_cases h6 : k = 6
  · subst h6
    have hix := fun p1 p2 => hid_of (sindex_any _ ns nm ((w.alloc p1).alloc p2) (hN.keep (hB2 p1 p2)))
    obtain ⟨z, hz⟩ : ∃ z, Hid (Lib.idxOfS ns nm = z) := ⟨_, hid_of rfl⟩
    rw [hz.out] at hix
    by_cases h0 : z < 0
    · have hO : Hid (hasO (.node 6 x s ns its) nm = none) := hid_of (by simp only [hasO]; rw [hz.out, if_neg (by omega)])
      go_enter Tryz.func93, Tryz.ntmps93
      go_wp2_with fail
      refine (hix _ _).out.mono ?_
      rintro e W ⟨rfl, hW⟩
      have HB : Below w.heap.size w W := by rw [hW]; exact hB2 _ _
      have t1 : W.heap[w.heap.size]? = some (.cells #[.int .i64 6, .int .i64 x, .string s, .slice an ln cn, .slice ai its.length ci] 28 (0, 0)) := by rw [hW]; exact new1 w _ _
      have t2 : W.heap[w.heap.size + 1]? = some (.cells #[.int .i64 0, .int .i64 0, .string ⟨#[]⟩, .slice none 0 0, .slice none 0 0] 28 (0, 0)) := by rw [hW]; exact hn2 _ _
      clear hW hix hB2 hn2
      obtain ⟨y0, y1, y2, y3, y4, -⟩ := row_cells t1
      obtain ⟨z0, z1, z2, z3, z4, zf⟩ := row_cells t2
      have g0 := zf 0; have g1 := zf 1; have g2 := zf 2; have g3 := zf 3; have g4 := zf 4
      clear zf
      replace t1 := hid_of t1; replace t2 := hid_of t2; replace HB := hid_of HB
      go_wp2_with fail
      have hr := put5_cells t2.out (.int .i64 0) (.int .i64 0) (.string ⟨#[]⟩) (.slice none 0 0) (.slice none 0 0)
      have q0 := hr 0; have q1 := hr 1; have q2 := hr 2; have q3 := hr 3; have q4 := hr 4
      clear hr
      refine bodyPost_ret (v := .tuple #[.agg #[.int .i64 0, .int .i64 0, .string ⟨#[]⟩, .slice none 0 0, .slice none 0 0], .bool false]) (by simp [results, Tryz.results93, go_sem, q0, q1, q2, q3, q4]) rfl ?_
      clear q0 q1 q2 q3 q4 z0 z1 z2 z3 z4 g0 g1 g2 g3 g4
      exact has_none hO.out (by omega) HB.out
    · obtain ⟨n, rfl⟩ : ∃ n : Nat, z = n := ⟨z.toNat, by omega⟩
      by_cases h1 : n < its.length
      · obtain ⟨u, hu⟩ : ∃ u, its[n]? = some u := ⟨_, List.getElem?_eq_getElem h1⟩
        have hO : Hid (hasO (.node 6 x s ns its) nm = some u) := hid_of (by simp only [hasO]; rw [hz.out, if_pos ⟨trivial, by omega⟩, Int.toNat_natCast, hu])
        obtain ⟨b, o, rfl, hb, hL⟩ := hI.resolve_left (by intro e; subst e; simp at h1)
        obtain ⟨cs2, hC, hV2⟩ := VRepL.at its o n u hL hu
        obtain ⟨k2, x2, s2, an2, ln2, cn2, ai2, li2, ci2, rfl⟩ := vrep_five hV2
        have i1 : (n : Int) < (its.length : Int) := by omega
        have i2 : (0 : Int) ≤ (n : Int) := by omega
        have hd : decide ((its.length : Int) ≤ (n : Int)) = false := by simp; omega
        go_enter Tryz.func93, Tryz.ntmps93
        go_wp2_with fail
        refine (hix _ _).out.mono ?_
        rintro e W ⟨rfl, hW⟩
        have HB : Below w.heap.size w W := by rw [hW]; exact hB2 _ _
        have t1 : W.heap[w.heap.size]? = some (.cells #[.int .i64 6, .int .i64 x, .string s, .slice an ln cn, .slice (some ⟨b, o, none⟩) its.length ci] 28 (0, 0)) := by rw [hW]; exact new1 w _ _
        have t2 : W.heap[w.heap.size + 1]? = some (.cells #[.int .i64 0, .int .i64 0, .string ⟨#[]⟩, .slice none 0 0, .slice none 0 0] 28 (0, 0)) := by rw [hW]; exact hn2 _ _
        clear hW hix hB2 hn2
        obtain ⟨y0, y1, y2, y3, y4, -⟩ := row_cells t1
        obtain ⟨z0, z1, z2, z3, z4, zf⟩ := row_cells t2
        have g0 := zf 0; have g1 := zf 1; have g2 := zf 2; have g3 := zf 3; have g4 := zf 4
        clear zf
        replace t1 := hid_of t1; replace t2 := hid_of t2; replace HB := hid_of HB
        have w0 := stay HB.out (hC 0 _ rfl)
        have w1 := stay HB.out (hC 1 _ rfl)
        have w2 := stay HB.out (hC 2 _ rfl)
        have w3 := stay HB.out (hC 3 _ rfl)
        have w4 := stay HB.out (hC 4 _ rfl)
        simp only [Nat.add_zero] at w0
        have hfin := hid_of (VRep.keep (HB.out.trans (put5_below (w := W) (g := w.heap.size + 1) (by omega) (.int .i64 k2) (.int .i64 x2) (.string s2) (.slice an2 ln2 cn2) (.slice ai2 li2 ci2))) _ _ hV2)
        have hBf := hid_of (HB.out.trans (put5_below (w := W) (g := w.heap.size + 1) (by omega) (.int .i64 k2) (.int .i64 x2) (.string s2) (.slice an2 ln2 cn2) (.slice ai2 li2 ci2)))
        clear hC hV2 hL
        go_wp2_with fail
        have hr := put5_cells t2.out (.int .i64 k2) (.int .i64 x2) (.string s2) (.slice an2 ln2 cn2) (.slice ai2 li2 ci2)
        have q0 := hr 0; have q1 := hr 1; have q2 := hr 2; have q3 := hr 3; have q4 := hr 4
        clear hr
        refine bodyPost_ret (v := .tuple #[.agg #[.int .i64 k2, .int .i64 x2, .string s2, .slice an2 ln2 cn2, .slice ai2 li2 ci2], .bool true]) (by simp [results, Tryz.results93, go_sem, q0, q1, q2, q3, q4]) rfl ?_
        clear q0 q1 q2 q3 q4 z0 z1 z2 z3 z4 g0 g1 g2 g3 g4
        refine ⟨k2, x2, s2, an2, ln2, cn2, ai2, li2, ci2, by rw [hO.out]; rfl, by rw [hO.out]; exact hfin.out, hBf.out⟩
      · have hO : Hid (hasO (.node 6 x s ns its) nm = none) := hid_of (by simp only [hasO]; rw [hz.out, if_pos ⟨trivial, by omega⟩, Int.toNat_natCast, List.getElem?_eq_none (by omega)])
        have hd : decide ((its.length : Int) ≤ (n : Int)) = true := by simp; omega
        go_enter Tryz.func93, Tryz.ntmps93
        go_wp2_with fail
        refine (hix _ _).out.mono ?_
        rintro e W ⟨rfl, hW⟩
        have HB : Below w.heap.size w W := by rw [hW]; exact hB2 _ _
        have t1 : W.heap[w.heap.size]? = some (.cells #[.int .i64 6, .int .i64 x, .string s, .slice an ln cn, .slice ai its.length ci] 28 (0, 0)) := by rw [hW]; exact new1 w _ _
        have t2 : W.heap[w.heap.size + 1]? = some (.cells #[.int .i64 0, .int .i64 0, .string ⟨#[]⟩, .slice none 0 0, .slice none 0 0] 28 (0, 0)) := by rw [hW]; exact hn2 _ _
        clear hW hix hB2 hn2
        obtain ⟨y0, y1, y2, y3, y4, -⟩ := row_cells t1
        obtain ⟨z0, z1, z2, z3, z4, zf⟩ := row_cells t2
        have g0 := zf 0; have g1 := zf 1; have g2 := zf 2; have g3 := zf 3; have g4 := zf 4
        clear zf
        replace t1 := hid_of t1; replace t2 := hid_of t2; replace HB := hid_of HB
        go_wp2_with fail
        have hr := put5_cells t2.out (.int .i64 0) (.int .i64 0) (.string ⟨#[]⟩) (.slice none 0 0) (.slice none 0 0)
        have q0 := hr 0; have q1 := hr 1; have q2 := hr 2; have q3 := hr 3; have q4 := hr 4
        clear hr
        refine bodyPost_ret (v := .tuple #[.agg #[.int .i64 0, .int .i64 0, .string ⟨#[]⟩, .slice none 0 0, .slice none 0 0], .bool false]) (by simp [results, Tryz.results93, go_sem, q0, q1, q2, q3, q4]) rfl ?_
        clear q0 q1 q2 q3 q4 z0 z1 z2 z3 z4 g0 g1 g2 g3 g4
        exact has_none hO.out (by omega) HB.out
  · have e6 : (k == 6) = false := by simpa using h6
    have hO : Hid (hasO (.node k x s ns its) nm = none) := hid_of (by simp only [hasO]; rw [if_neg (fun h => h6 h.1)])
    go_enter Tryz.func93, Tryz.ntmps93
    go_upto_region 1 with fail
    obtain ⟨W, hW⟩ : ∃ W, Hid ((w.alloc (.cells #[.int .i64 k, .int .i64 x, .string s, .slice an ln cn, .slice ai its.length ci] 28)).alloc (.cells #[.int .i64 0, .int .i64 0, .string ⟨#[]⟩, .slice none 0 0, .slice none 0 0] 28) = W) := ⟨_, hid_of rfl⟩
    have HB : Below w.heap.size w W := by rw [← hW.out]; exact hB2 _ _
    have t1 : W.heap[w.heap.size]? = some (.cells #[.int .i64 k, .int .i64 x, .string s, .slice an ln cn, .slice ai its.length ci] 28 (0, 0)) := by rw [← hW.out]; exact new1 w _ _
    have t2 : W.heap[w.heap.size + 1]? = some (.cells #[.int .i64 0, .int .i64 0, .string ⟨#[]⟩, .slice none 0 0, .slice none 0 0] 28 (0, 0)) := by rw [← hW.out]; exact hn2 _ _
    rw [hW.out]
    clear hW hB2 hn2
    obtain ⟨y0, y1, y2, y3, y4, -⟩ := row_cells t1
    obtain ⟨z0, z1, z2, z3, z4, zf⟩ := row_cells t2
    have g0 := zf 0; have g1 := zf 1; have g2 := zf 2; have g3 := zf 3; have g4 := zf 4
    clear zf
    replace t1 := hid_of t1; replace t2 := hid_of t2; replace HB := hid_of HB
    go_wp2_with fail
    have hr := put5_cells t2.out (.int .i64 0) (.int .i64 0) (.string ⟨#[]⟩) (.slice none 0 0) (.slice none 0 0)
    have q0 := hr 0; have q1 := hr 1; have q2 := hr 2; have q3 := hr 3; have q4 := hr 4
    clear hr
    refine bodyPost_ret (v := .tuple #[.agg #[.int .i64 0, .int .i64 0, .string ⟨#[]⟩, .slice none 0 0, .slice none 0 0], .bool false]) (by simp [results, Tryz.results93, go_sem, q0, q1, q2, q3, q4]) rfl ?_
    clear q0 q1 q2 q3 q4 z0 z1 z2 z3 z4 g0 g1 g2 g3 g4
    exact has_none hO.out (by omega) HB.out
end Go.Proofs.YthgnkhpomhcdkaaGreatDoor
