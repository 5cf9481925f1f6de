import Derived.Test.YthgnkhpomhcdkaaGreatDoorMA1
import Derived.Test.YthgnkhpomhcdkaaGreatDoorA5
import Derived.Test.YthgnkhpomhcdkaaGreatDoorXI
/-! dotpath.place of every Value (taken over from r3b/B1). -/
namespace Go.Proofs.YthgnkhpomhcdkaaGreatDoor
open Go Go.RowKit Dp

def placeI (k : Int) (ns : List ByteArray) (s : ByteArray) : Int := if k = 6 then Lib.idxOfS ns s else if k = 5 then (((idx s).getD 0 : Nat) : Int) else 0
def placeB (k : Int) (ns : List ByteArray) (m : Nat) (s : ByteArray) : Bool :=
  if k = 6 then decide (0 ≤ Lib.idxOfS ns s) && decide (Lib.idxOfS ns s < m) else if k = 5 then (idx s).isSome && decide ((((idx s).getD 0 : Nat) : Int) < m) else false
theorem sindex_any (nm : Value) (ns : List ByteArray) (s : ByteArray) (w : World) (hN : Reads w nm ns) : Calls Tryz.prog 141 #[nm, .string s] w fun e w' => e = .returned (.int .i64 (Lib.idxOfS ns s)) ∧ w' = w := by
  have hl := hN.len
  obtain ⟨a, c, rfl, hc, h | ⟨b, o, rfl, hb, hA⟩⟩ := hN
  · subst h; exact Tryz.slices_Index_string_empty a c s w
  · have := Tryz.slices_Index_string b o ns.length c ns s w (Nat.le_refl _) hl (fun j hj => hA j _ (by
      rw [List.getD_eq_getElem?_getD, List.getElem?_eq_getElem hj]; rfl))
    rw [List.take_length] at this
    exact this
set_option maxHeartbeats 2000000 in
set_option maxRecDepth 100000 in
theorem place_any (k x : Int) (tx : ByteArray) (nm : Value) (ns : List ByteArray) (a : Option Addr) (m c : Nat) (s : ByteArray) (w : World) (hN : Reads w nm ns) (hs : s.size ≤ 9223372036854775806) :
    Calls Tryz.prog 124 #[.agg #[.int .i64 k, .int .i64 x, .string tx, nm, .slice a m c], .string s] w fun e w' => e = .returned (.tuple #[.int .i64 (placeI k ns s), .bool (placeB k ns m s)]) ∧ Below w.heap.size w w' := by
  have hB : ∀ o, Below w.heap.size w (w.alloc o) := fun o => (Below.refl _ _).alloc (Nat.le_refl _) _
  obtain ⟨an, cn, hnm, hcn, hA⟩ := id hN
  by_cases h6 : k = 6
  · subst h6
    have hix : ∀ o, Calls Tryz.prog 141 #[nm, .string s] (w.alloc o) fun e w' => e = .returned (.int .i64 (Lib.idxOfS ns s)) ∧ w' = w.alloc o := fun o => sindex_any nm ns s _ (hN.keep (hB o))
    clear hA hN
    subst hnm
    unfold placeI placeB
    rw [if_pos rfl, if_pos rfl]
    generalize Lib.idxOfS ns s = z at *
    by_cases h0 : 0 ≤ z
    · by_cases h1 : z < m
      all_goals
        go_enter Tryz.func124, Tryz.ntmps124
        go_wp2_with fail
        refine (hix _).mono ?_
        rintro e w1 ⟨rfl, rfl⟩
        clear hix
        go_wp2_with fail
        go_region
        go_wp2_with fail
        go_ret2
        exact ⟨by simp [h0, h1], below_drew (hB _)⟩
    · have hd : decide (0 ≤ z) = false := by simpa using h0
      rw [hd, Bool.false_and]
      go_enter Tryz.func124, Tryz.ntmps124
      go_wp2_with fail
      refine (hix _).mono ?_
      rintro e w1 ⟨rfl, rfl⟩
      clear hix
      go_wp2_with fail
      go_region
      go_wp2_with fail
      go_ret2
      exact ⟨rfl, below_drew (hB _)⟩
  · have hk6 : (k == 6) = false := by simpa using h6
    clear hA hN
    subst hnm
    by_cases h5 : k = 5
    · subst h5
      have hix : ∀ o, Calls Tryz.prog 168 #[.string s] (w.alloc o) fun e w' => e = .returned (idxV s) ∧ Below (w.alloc o).heap.size (w.alloc o) w' := fun o => index_any s hs _
      unfold placeI placeB
      rw [if_neg h6, if_neg h6, if_pos rfl, if_pos rfl]
      unfold idxV at hix
      generalize idx s = z at *
      cases z with
      | none =>
        go_enter Tryz.func124, Tryz.ntmps124
        go_wp2_with fail
        refine (hix _).mono ?_
        rintro e w1 ⟨rfl, hb1⟩
        clear hix
        go_wp2_with fail
        go_region
        go_wp2_with fail
        go_ret2
        exact ⟨rfl, below_drew (below_box hb1)⟩
      | some z =>
        by_cases h1 : z < m
        all_goals
          go_enter Tryz.func124, Tryz.ntmps124
          go_wp2_with fail
          refine (hix _).mono ?_
          rintro e w1 ⟨rfl, hb1⟩
          clear hix
          have y4 : w1.cell? ⟨w.heap.size, 4, none⟩ = some (.slice a m c) := box_cells hb1 4
          go_wp2_with fail
          go_region
          go_wp2_with fail
          go_ret2
          exact ⟨by simp [h1], below_drew (below_box hb1)⟩
    · have hk5 : (k == 5) = false := by simpa using h5
      unfold placeI placeB
      rw [if_neg h6, if_neg h6, if_neg h5, if_neg h5]
      go_enter Tryz.func124, Tryz.ntmps124
      go_wp2_with fail
      go_region
      go_wp2_with fail
      go_ret2
      exact ⟨rfl, below_drew (hB _)⟩
theorem placeB_true {k : Int} {ns : List ByteArray} {m : Nat} {s : ByteArray} (h : placeB k ns m s = true) : ∃ i : Nat, placeI k ns s = i ∧ i < m := by
  unfold placeB at h
  unfold placeI
  by_cases h6 : k = 6
  · rw [if_pos h6] at *
    simp at h
    exact ⟨(Lib.idxOfS ns s).toNat, by omega, by omega⟩
  · rw [if_neg h6] at *
    by_cases h5 : k = 5
    · rw [if_pos h5] at *
      simp at h
      exact ⟨_, rfl, by omega⟩
    · rw [if_neg h5] at h; cases h

end Go.Proofs.YthgnkhpomhcdkaaGreatDoor
/-! dotpath.Get of every Value and path (taken over from r3b/B2). -/
namespace Go.Proofs.YthgnkhpomhcdkaaGreatDoor
open Go Go.RowKit Dp

def Sized (l : List ByteArray) : Prop := ∀ s ∈ l, s.size ≤ 9223372036854775806


/-- The number of the item that a segment names. -/
def placeT (t : Tr) (s : ByteArray) : Option Nat := if placeB t.kind t.names t.items.length s = true then some (placeI t.kind t.names s).toNat else none
def getT : Tr → List ByteArray → Option Tr
  | t, [] => some t
  | t, s :: r => match placeT t s with
    | none => none
    | some i => match t.items[i]? with
      | none => none
      | some u => getT u r
theorem getT_none {t : Tr} {s : ByteArray} {r : List ByteArray} (h : placeB t.kind t.names t.items.length s = false) : getT t (s :: r) = none := by
  simp [getT, placeT, h]
theorem getT_some {t u : Tr} {s : ByteArray} {r : List ByteArray} {i : Nat} (h : placeB t.kind t.names t.items.length s = true) (hi : placeI t.kind t.names s = i) (hu : t.items[i]? = some u) : getT t (s :: r) = getT u r := by
  simp [getT, placeT, h, hi, hu]
theorem drop_cons {l : List ByteArray} {q : Nat} {x : ByteArray} (h : l[q]? = some x) : l.drop q = x :: l.drop (q + 1) := by
  obtain ⟨hlt, e⟩ := List.getElem?_eq_some_iff.1 h
  rw [List.drop_eq_getElem_cons hlt, e]

/-- What Get answers. -/
def Got (w : World) (r : Option Tr) (e : Ending) (w' : World) : Prop :=
  Below w.heap.size w w' ∧ match r with
    | none => e = .returned (.tuple #[zeroV, .bool false])
    | some u => ∃ cs, e = .returned (.tuple #[.agg cs.toArray, .bool true]) ∧ VRep w' u cs

set_option maxHeartbeats 2000000 in
set_option maxRecDepth 100000 in
theorem get_any (t : Tr) (cs : List Value) (pv : Value) (l : List ByteArray) (w : World) (hV : VRep w t cs) (hP : Reads w pv l) (hl : l.length ≤ 9223372036854775806) (hS : Hid (Sized l)) :
    Calls Tryz.prog 82 #[.agg cs.toArray, pv] w (Got w (getT t l)) := by
  obtain ⟨a, c, rfl, hc, hA⟩ := hP
  obtain ⟨k0, x0, s0, an0, ln0, cn0, ai0, li0, ci0, rfl⟩ := vrep_five hV
  unfold five
  replace hV : Hid (VRep w t (five k0 x0 s0 (.slice an0 ln0 cn0) (.slice ai0 li0 ci0))) := hV
  replace hA : Hid (l = [] ∨ ∃ b o, a = some ⟨b, o, none⟩ ∧ b < w.heap.size ∧ ∀ j s, l[j]? = some s → w.cell? ⟨b, o + j, none⟩ = some (.string s)) := hA
  have hB2 : ∀ o o', Below w.heap.size w ((w.alloc o).alloc o') := fun o o' => ((Below.refl _ w).alloc (Nat.le_refl _) o).alloc (by simp) o'
  go_enter Tryz.func82, Tryz.ntmps82
  go_wp2_with fail
  go_loopw [12] (fun i wr => ∃ (q : Nat) (u : Tr) (k1 x1 : Int) (s1 : ByteArray) (an1 : Option Addr) (ln1 cn1 : Nat) (ai1 : Option Addr) (li1 ci1 : Nat), q ≤ l.length ∧ i = .int .i64 q ∧ Below w.heap.size w wr ∧ wr.heap[w.heap.size]? = some (.cells #[.int .i64 k1, .int .i64 x1, .string s1, .slice an1 ln1 cn1, .slice ai1 li1 ci1] 28 (0, 0)) ∧
      wr.heap[w.heap.size + 1]? = some (.cells #[.int .i64 0, .int .i64 0, .string ⟨#[]⟩, .slice none 0 0, .slice none 0 0] 28 (0, 0)) ∧ Hid (VRep w u (five k1 x1 s1 (.slice an1 ln1 cn1) (.slice ai1 li1 ci1))) ∧ Hid (getT t l = getT u (l.drop q))) (fun i _ => l.length - (intOf i).toNat)
  case atStart =>
    exact ⟨0, t, k0, x0, s0, an0, ln0, cn0, ai0, li0, ci0, Nat.zero_le _, rfl, hB2 _ _, new1 w _ _, new2 w _ _, hV, by simp [Hid]⟩
  case round =>
    obtain ⟨q, u, k1, x1, s1, an1, ln1, cn1, ai1, li1, ci1, hq, rfl, hbel, hb0, hb1, hU, hG⟩ := hrel
    obtain ⟨y0, y1, y2, y3, y4, yf⟩ := row_cells hb0
    obtain ⟨z0, z1, z2, z3, z4, zf⟩ := row_cells hb1
    by_cases hlt : q < l.length
    · have hd : decide ((q : Int) < (l.length : Int)) = true := by simp; omega
      obtain ⟨b, o, rfl, hbl, hA⟩ := hA.out.resolve_left (by intro e; subst e; simp at hlt)
      obtain ⟨x, hx⟩ : ∃ x, Hid (l[q]? = some x) := ⟨_, List.getElem?_eq_getElem hlt⟩
      have c1 : wr.cell? ⟨b, o + q, none⟩ = some (.string x) := (hbel.cell (p := ⟨b, o + q, none⟩) hbl).trans (hA q x hx.out)
      clear hA
      have hxs : x.size ≤ 9223372036854775806 := hS.out x (List.mem_of_getElem? hx.out)
      cases u with
      | node ku xu su nsu itsu =>
        have hU' := hU.out
        unfold VRep at hU'
        obtain ⟨nm, ai, ci, he, hN, hci, hI⟩ := hU'
        obtain ⟨rfl, rfl, rfl, rfl, rfl, rfl, rfl⟩ : k1 = ku ∧ x1 = xu ∧ s1 = su ∧ .slice an1 ln1 cn1 = nm ∧ ai1 = ai ∧ li1 = itsu.length ∧ ci1 = ci := by simpa [five] using he
        clear he
        have hpl := place_any k1 x1 s1 _ nsu ai1 itsu.length ci1 x wr (hN.keep hbel) hxs
        go_wp2_with fail
        refine hpl.mono ?_
        rintro e w1 ⟨rfl, hb⟩
        clear hpl y0 y1 y2 y3 y4 yf z0 z1 z2 z3 z4 zf c1
        have hbel1 : Below w.heap.size w w1 := hbel.trans (hb.mono hbel.size)
        have hs0 := hbel.size
        have hB0 : w.heap.size < wr.heap.size := (Array.getElem?_eq_some_iff.1 hb0).1
        have hB1 : w.heap.size + 1 < wr.heap.size := (Array.getElem?_eq_some_iff.1 hb1).1
        replace hb0 := (hb.block _ hB0).trans hb0
        replace hb1 := (hb.block _ hB1).trans hb1
        obtain ⟨y0, y1, y2, y3, y4, yf⟩ := row_cells hb0
        obtain ⟨z0, z1, z2, z3, z4, zf⟩ := row_cells hb1
        have yf0 := yf 0; have yf1 := yf 1; have yf2 := yf 2; have yf3 := yf 3; have yf4 := yf 4
        have zf0 := zf 0; have zf1 := zf 1; have zf2 := zf 2; have zf3 := zf 3; have zf4 := zf 4
        clear yf zf
        replace hG : Hid (getT t l = getT (.node k1 x1 s1 nsu itsu) (x :: l.drop (q + 1))) := by rw [Hid, hG.out, drop_cons hx.out]
        cases hpb : placeB k1 nsu itsu.length x
        · have hG2 : Hid (getT t l = none) := hG.out.trans (getT_none hpb)
          go_wp2_with fail
          have hr := put5_cells hb1 (.int .i64 0) (.int .i64 0) (.string ⟨#[]⟩) (.slice none 0 0) (.slice none 0 0)
          have r0 := hr 0; have r1 := hr 1; have r2 := hr 2; have r3 := hr 3; have r4 := hr 4
          clear hr
          refine bodyPost_ret (v := .tuple #[zeroV, .bool false]) (by simp [results, Tryz.results82, go_sem, r0, r1, r2, r3, r4, zeroV]) rfl ?_
          rw [hG2.out]
          exact ⟨hbel1.trans (put5_below (by omega) _ _ _ _ _), rfl⟩
        · obtain ⟨i, hi, him⟩ := placeB_true hpb
          obtain ⟨b2, o2, rfl, hb2, hI⟩ := hI.resolve_left (by intro e; subst e; simp at him)
          obtain ⟨u', hu'⟩ : ∃ u', itsu[i]? = some u' := ⟨_, List.getElem?_eq_getElem him⟩
          obtain ⟨cs', hcs', hVu⟩ := VRepL.at itsu o2 i u' hI hu'
          obtain ⟨k2, x2, s2, an2, ln2, cn2, ai2, li2, ci2, rfl⟩ := vrep_five hVu
          have g0 : w1.cell? ⟨b2, o2 + i * 5, none⟩ = some (.int .i64 k2) := (hbel1.cell (p := ⟨b2, o2 + i * 5, none⟩) hb2).trans (hcs' 0 _ rfl)
          have g1 : w1.cell? ⟨b2, o2 + i * 5 + 1, none⟩ = some (.int .i64 x2) := (hbel1.cell (p := ⟨b2, o2 + i * 5 + 1, none⟩) hb2).trans (hcs' 1 _ rfl)
          have g2 : w1.cell? ⟨b2, o2 + i * 5 + 2, none⟩ = some (.string s2) := (hbel1.cell (p := ⟨b2, o2 + i * 5 + 2, none⟩) hb2).trans (hcs' 2 _ rfl)
          have g3 : w1.cell? ⟨b2, o2 + i * 5 + 3, none⟩ = some (.slice an2 ln2 cn2) := (hbel1.cell (p := ⟨b2, o2 + i * 5 + 3, none⟩) hb2).trans (hcs' 3 _ rfl)
          have g4 : w1.cell? ⟨b2, o2 + i * 5 + 4, none⟩ = some (.slice ai2 li2 ci2) := (hbel1.cell (p := ⟨b2, o2 + i * 5 + 4, none⟩) hb2).trans (hcs' 4 _ rfl)
          have hG2 : Hid (getT t l = getT u' (l.drop (q + 1))) := hG.out.trans (getT_some hpb hi hu')
          have hVu1 : Hid (VRep w u' (five k2 x2 s2 (.slice an2 ln2 cn2) (.slice ai2 li2 ci2))) := hVu
          rw [hi]
          clear hi hpb hU hI hcs' hVu hN hG hu'
          go_wp2_with fail
          go_roundw
          case rel =>
            refine ⟨q + 1, u', k2, x2, s2, an2, ln2, cn2, ai2, li2, ci2, by omega, by simp, hbel1.trans (put5_below (Nat.le_refl _) _ _ _ _ _), put5_at hb0 _ _ _ _ _, (put5_far _ _ _ _ _ (by omega)).trans hb1, ?_, hG2⟩
            exact hVu1
          case measure => simp [intOf]; omega
    · have hd : decide ((q : Int) < (l.length : Int)) = false := by simp; omega
      have hG2 : Hid (getT t l = some u) := by rw [Hid, hG.out, List.drop_of_length_le (by omega)]; cases u; rfl
      have yf0 := yf 0; have yf1 := yf 1; have yf2 := yf 2; have yf3 := yf 3; have yf4 := yf 4
      have zf0 := zf 0; have zf1 := zf 1; have zf2 := zf 2; have zf3 := zf 3; have zf4 := zf 4
      clear yf zf
      go_wp2_with fail
      have hr := put5_cells hb1 (.int .i64 k1) (.int .i64 x1) (.string s1) (.slice an1 ln1 cn1) (.slice ai1 li1 ci1)
      have r0 := hr 0; have r1 := hr 1; have r2 := hr 2; have r3 := hr 3; have r4 := hr 4
      clear hr
      refine bodyPost_ret (v := .tuple #[.agg #[.int .i64 k1, .int .i64 x1, .string s1, .slice an1 ln1 cn1, .slice ai1 li1 ci1], .bool true]) (by simp [results, Tryz.results82, go_sem, r0, r1, r2, r3, r4]) rfl ?_
      rw [hG2.out]
      exact ⟨hbel.trans (put5_below (by omega) _ _ _ _ _), _, rfl, VRep.keep (hbel.trans (put5_below (by omega) _ _ _ _ _)) u _ hU.out⟩
end Go.Proofs.YthgnkhpomhcdkaaGreatDoor
