import Derived.Test.YtgjemghfejaifaaGreatDoorZB1
/-! Check of every value. -/
namespace Go.Proofs.YtgjemghfejaifaaGreatDoor
open Go Go.RowKit Go.Maps

mutual
/-- What Check tells of a value at a depth. -/
def checkT : Nat → Tr → Int
  | d, .node k x s ns its =>
    if aloneT d k x s ns.length its.length = 0 then (if k = 6 then membersT (d + 1) [] ns its else itemsT (d + 1) its) else aloneT d k x s ns.length its.length
def itemsT : Nat → List Tr → Int
  | _, [] => 0
  | d, t :: ts => if checkT d t = 0 then itemsT d ts else checkT d t
def membersT : Nat → List ByteArray → List ByteArray → List Tr → Int
  | _, _, _, [] => 0
  | _, _, [], _ :: _ => 0
  | d, had, n :: ns, t :: ts => if Lib.validD n.data.toList = false then 18 else if hasName had n = true then 16 else if checkT d t = 0 then membersT d (had ++ [n]) ns ts else checkT d t
end
theorem itemsT_at {d : Nat} {its : List Tr} {q : Nat} {u : Tr} (h : its[q]? = some u) : itemsT d (its.drop q) = if checkT d u = 0 then itemsT d (its.drop (q + 1)) else checkT d u := by
  have hlt := (List.getElem?_eq_some_iff.1 h).1
  have : its.drop q = u :: its.drop (q + 1) := by
    rw [List.drop_eq_getElem_cons hlt, (List.getElem?_eq_some_iff.1 h).2]
  rw [this, itemsT]
theorem membersT_at {d : Nat} {ns : List ByteArray} {its : List Tr} {q : Nat} {nm : ByteArray} {u : Tr} (hn : ns[q]? = some nm) (h : its[q]? = some u) : membersT d (ns.take q) (ns.drop q) (its.drop q) =
    if Lib.validD nm.data.toList = false then 18 else if hasName (ns.take q) nm = true then 16 else if checkT d u = 0 then membersT d (ns.take (q + 1)) (ns.drop (q + 1)) (its.drop (q + 1)) else checkT d u := by
  have hlt := (List.getElem?_eq_some_iff.1 h).1
  have hlt' := (List.getElem?_eq_some_iff.1 hn).1
  have e1 : its.drop q = u :: its.drop (q + 1) := by
    rw [List.drop_eq_getElem_cons hlt, (List.getElem?_eq_some_iff.1 h).2]
  have e2 : ns.drop q = nm :: ns.drop (q + 1) := by
    rw [List.drop_eq_getElem_cons hlt', (List.getElem?_eq_some_iff.1 hn).2]
  have e3 : ns.take (q + 1) = ns.take q ++ [nm] := by rw [List.take_add_one, hn]; rfl
  rw [e1, e2, e3, membersT]

theorem key_big (s : ByteArray) (hs : s.size ≤ 140737488351232) : keyOf Tryz.prog 9 (.string s) = some (keyL s) := by
  unfold keyOf
  rw [Tryz.underlying9]
  have : s.size ≤ maxLen := by unfold maxLen; omega
  simp [mapKey, Tryz.underlying9, keyL, this]
set_option maxHeartbeats 800000 in
theorem add_old (m : Nat) (ns : List ByteArray) (s : ByteArray) (hs : s.size ≤ 140737488351232) (w : World) (hS : SetAt m ns w) (hh : hasName ns s = true) :
    Calls Tryz.prog 67 #[.map (some m), .string s] w fun e w' => e = .returned (.bool false) ∧ Below w.heap.size w w' := by
  have hown : w.ownsMap Tryz.prog 9 (unitElem (H := Unit)) m ns.length (setOf (.agg []) (ns.map keyL)) := hS
  have hkey := key_big s hs
  have hhas := has_set ns s
  rw [hh] at hhas
  clear hS hh
  go_enter Tryz.func67, Tryz.ntmps67
  go_wp2_with (at_lookup; refine wpList_lookup_own_unit _ rfl _ _ 124 rfl 9 71 law9 Tryz.underlying124 (zero103 _) m ns.length _ rfl hown _ _ rfl hkey ?_)
  go_ret
  exact ⟨rfl, (Below.refl _ _).alloc (Nat.le_refl _) _⟩
set_option maxHeartbeats 800000 in
theorem add_new (m : Nat) (ns : List ByteArray) (s : ByteArray) (hs : s.size ≤ 140737488351232) (w : World) (hS : SetAt m ns w) (hl : ns.length ≤ 140737488351232) (hh : hasName ns s = false) :
    Calls Tryz.prog 67 #[.map (some m), .string s] w fun e w' => e = .returned (.bool true) ∧ SetAt m (ns ++ [s]) w' ∧ Kp m w w' := by
  have hown : w.ownsMap Tryz.prog 9 (unitElem (H := Unit)) m ns.length (setOf (.agg []) (ns.map keyL)) := hS
  have hkey := key_big s hs
  have hhas := has_set ns s
  rw [hh] at hhas
  clear hS hh
  go_enter Tryz.func67, Tryz.ntmps67
  go_wp2_with (first
    | (at_lookup; refine wpList_lookup_own_unit _ rfl _ _ 124 rfl 9 71 law9 Tryz.underlying124 (zero103 _) m ns.length _ rfl hown _ _ rfl hkey ?_)
    | (at_mapUpdate; refine wpList_mapUpdate_own _ rfl _ _ _ 124 rfl 9 71 law9 Tryz.underlying124 (unitElem (H := Unit)) m ns.length _ rfl (hown.alloc _) (by unfold maxLen; omega) _ _ _ rfl rfl hkey _ [] unitElem_mk ?_; intro w1 hown1 hgrow1))
  go_ret
  refine ⟨rfl, ?_, ?_⟩
  · unfold SetAt
    rw [List.map_append, List.map_cons, List.map_nil, setOf_snoc, List.length_append]
    exact hown1
  · exact ((Kp.refl _ _).alloc _).trans ⟨hgrow1.os, hgrow1.tape, hgrow1.output, hgrow1.size, fun k hk hm => hgrow1.block k hk (by simp; exact hm)⟩

theorem itemsAt_keep {w w' : World} {ai : Option Addr} {its : List Tr} (h : ItemsAt' w ai its) (hb : Below w.heap.size w w') : ItemsAt' w' ai its := by
  rcases h with h | ⟨b, o, h1, h2, h3⟩
  · exact .inl h
  · exact .inr ⟨b, o, h1, Nat.lt_of_lt_of_le h2 hb.size, VRepL.keep hb h2 o its h3⟩
/-- What the walk asks of the items. -/
def CheckOks (d : Nat) (its : List Tr) : Prop := d ≤ 63 → ∀ (i : Nat) (u : Tr), its[i]? = some u → ∀ (cs : List Value) (w : World), VRep w u cs → Lib.Utf8Tabs 1 2 w → 3 ≤ w.heap.size →
  Calls Tryz.prog 27 #[.agg cs.toArray, .int .i64 ((d : Int) + 1)] w fun e w' => e = .returned (.int .i64 (checkT (d + 1) u)) ∧ Below w.heap.size w w'

set_option maxHeartbeats 4000000 in
set_option maxRecDepth 100000 in
theorem members_code (k x : Int) (s : ByteArray) (an : Option Addr) (n cn : Nat) (ns : List ByteArray) (ai : Option Addr) (ci : Nat) (its : List Tr) (d : Nat) (w : World) (hd : d ≤ 63) (hn : Hid (ns.length = n)) (hm : Hid (its.length = n)) (hnl : n ≤ 8796093021952) (hz : Hid (∀ n ∈ ns, n.size ≤ 140737488351232))
    (hR : Hid (Reads w (.slice an n cn) ns)) (hL : Hid (ItemsAt' w ai its)) (hU : Hid (Lib.Utf8Tabs 1 2 w)) (h8 : 3 ≤ w.heap.size) (hI : Hid (CheckOks d its)) :
    Calls Tryz.prog 50 #[.agg #[.int .i64 k, .int .i64 x, .string s, .slice an n cn, .slice ai n ci], .int .i64 (d : Int)] w fun e w' => e = .returned (.int .i64 (membersT (d + 1) [] ns its)) ∧ Below w.heap.size w w' := by
  obtain ⟨c, hc⟩ : ∃ c, Hid (membersT (d + 1) [] ns its = c) := ⟨_, hid_e rfl⟩
  rw [hc.out]
  have hmm := make_hint
  have hw0 : (0 : Int) ≤ (n : Int) := by omega
  have hd0 : (0 : Int) ≤ (d : Int) := by omega
  have hd1 : (d : Int) ≤ 100 := by omega
  go_enter Tryz.func50, Tryz.ntmps50
  go_wp2_with fail
  have hS0 : Hid (SetAt (w.heap.size + 1) [] ((w.alloc (.cells #[.int .i64 k, .int .i64 x, .string s, .slice an n cn, .slice ai n ci] 25)).alloc (.map #[] 0))) := by
    have h0 : SetAt (w.alloc (.cells #[.int .i64 k, .int .i64 x, .string s, .slice an n cn, .slice ai n ci] 25)).heap.size [] ((w.alloc (.cells #[.int .i64 k, .int .i64 x, .string s, .slice an n cn, .slice ai n ci] 25)).alloc (.map #[] 0)) := World.ownsMap_made _ _ _ _
    rw [World.size_alloc] at h0
    exact h0
  go_loopw [16] (fun i wr => ∃ q : Nat, q ≤ n ∧ i = .int .i64 q ∧ Below w.heap.size w wr ∧ wr.heap[w.heap.size]? = some (.cells #[.int .i64 k, .int .i64 x, .string s, .slice an n cn, .slice ai n ci] 25 (0, 0)) ∧ SetAt (w.heap.size + 1) (ns.take q) wr ∧ Hid (membersT (d + 1) (ns.take q) (ns.drop q) (its.drop q) = c)) (fun i wr => n - (intOf i).toNat)
  case atStart => exact ⟨0, Nat.zero_le _, rfl, ((Below.refl _ _).alloc (Nat.le_refl _) _).alloc (by simp) _, (alloc_old (by simp)).trans (heap_alloc_new w _), hS0.out, hc⟩
  case round =>
    clear hS0
    obtain ⟨q, hq, rfl, hbw, hbox, hSet, hM⟩ := hrel
    have hsz := hbw.size
    have hslt := hSet.lt
    by_cases hlt : q < n
    · obtain ⟨u, hu⟩ : ∃ u, Hid (its[q]? = some u) := ⟨_, hid_e (List.getElem?_eq_getElem (by rw [hm.out]; exact hlt))⟩
      obtain ⟨nm, hnm⟩ : ∃ u, Hid (ns[q]? = some u) := ⟨_, hid_e (List.getElem?_eq_getElem (by rw [hn.out]; exact hlt))⟩
      have hst := hid_e (membersT_at (d := d + 1) hnm.out hu.out)
      have HSz : nm.size ≤ 140737488351232 := hz.out nm (List.mem_of_getElem? hnm.out)
      obtain ⟨b, o, hai, hb, hV⟩ := hL.out.resolve_left (by intro e; have := hm.out; rw [e] at this; simp at this; omega)
      obtain ⟨cs, hC, hr⟩ := VRepL.at its o q u hV hu.out
      obtain ⟨k2, x2, s2, an2, ln2, cn2, ai2, li2, ci2, rfl⟩ := vrep_five hr
      obtain ⟨an0, cn0, hane, -, hrd⟩ := hR.out
      obtain ⟨gn, on, rfl, -, hrd⟩ := hrd.resolve_left (by intro e; have := hn.out; rw [e] at this; simp at this; omega)
      simp only [Value.slice.injEq] at hane
      obtain ⟨rfl, -, -⟩ := hane
      subst hai
      have nc := stay hbw (hrd q nm hnm.out)
      have HCA := hid_e hC
      have HR := hid_e hr
      have HBX := hid_e hbox
      have i1 : (q : Int) < (n : Int) := by omega
      have hUr := hid_e (utf_below hU.out hbw h8)
      have htl : (ns.take q).length ≤ 140737488351232 := by rw [List.length_take]; omega
      obtain ⟨vb, hvb⟩ : ∃ z, Hid (Lib.validD nm.data.toList = z) := ⟨_, hid_e rfl⟩
      obtain ⟨hb0, hhb⟩ : ∃ z, Hid (hasName (ns.take q) nm = z) := ⟨_, hid_e rfl⟩
      obtain ⟨r, hr0⟩ : ∃ z, Hid (checkT (d + 1) u = z) := ⟨_, hid_e rfl⟩
      clear hV hC hr hrd hbox
      go_wp2_with fail
      refine (Tryz.valid nm wr (by omega) hUr.out).mono ?_
      rintro e w2 ⟨rfl, hb2⟩
      rw [hvb.out]
      have hbw2 : Below w.heap.size w w2 := hbw.trans (hb2.mono hsz)
      cases vb
      · have hc' : Hid (c = 18) := by rw [Hid, ← hM.out, hst.out, if_pos hvb.out]
        go_wp2_with fail
        go_ret
        exact ⟨ret_int hc'.out.symm, hbw2⟩
      have hSet2 : SetAt (w.heap.size + 1) (ns.take q) w2 := hSet.keep (hb2.block _ hslt)
      go_wp2_with fail
      cases hb0
      · refine (add_new (w.heap.size + 1) (ns.take q) nm HSz w2 hSet2 htl hhb.out).mono ?_
        rintro e w3 ⟨rfl, hSet3, hK3⟩
        have hs2 := hb2.size
        have hs3 := hK3.size
        have hbox3 : w3.heap[w.heap.size]? = some (.cells #[.int .i64 k, .int .i64 x, .string s, .slice (some ⟨gn, on, none⟩) n cn, .slice (some ⟨b, o, none⟩) n ci] 25 (0, 0)) := (hK3.block w.heap.size (by omega) (by omega)).trans ((hb2.block w.heap.size (by omega)).trans HBX.out)
        have hbw3 : Below w.heap.size w w3 := hbw.trans ⟨hK3.os.trans hb2.os, hK3.tape.trans hb2.tape, hK3.output.trans hb2.output, by omega, fun k hk => (hK3.block k (by omega) (by omega)).trans (hb2.block k (by omega))⟩
        have y4 : w3.cell? ⟨w.heap.size, 4, none⟩ = some (.slice (some ⟨b, o, none⟩) n ci) := cell_of hbox3 4
        have HB3 := hid_e hbox3
        have z0 := stay hbw3 (HCA.out 0 _ rfl)
        have z1 := stay hbw3 (HCA.out 1 _ rfl)
        have z2 := stay hbw3 (HCA.out 2 _ rfl)
        have z3 := stay hbw3 (HCA.out 3 _ rfl)
        have z4 := stay hbw3 (HCA.out 4 _ rfl)
        simp only [Nat.add_zero] at z0
        have hcall := hid_e (hI.out hd q u hu.out _ w3 (VRep.keep hbw3 _ _ HR.out) (utf_below hU.out hbw3 h8) (by omega))
        rw [hr0.out] at hcall
        clear hbox3 hSet hSet2 hb2 hK3 HBX hbw hUr nc hbw2
        go_wp2_with fail
        go_fit hcall.out
        rintro e w4 ⟨rfl, hb4⟩
        have hslt3 := hSet3.lt
        have hbw4 : Below w.heap.size w w4 := hbw3.trans (hb4.mono (by omega))
        by_cases h0 : r = 0
        · subst h0
          have hSet4 : SetAt (w.heap.size + 1) (ns.take (q + 1)) w4 := by
            rw [show ns.take (q + 1) = ns.take q ++ [nm] by rw [List.take_add_one, hnm.out]; rfl]
            exact hSet3.keep (hb4.block _ hslt3)
          have HB4 := hid_e ((hb4.block w.heap.size (by omega)).trans HB3.out)
          have hM4 : Hid (membersT (d + 1) (ns.take (q + 1)) (ns.drop (q + 1)) (its.drop (q + 1)) = c) := by
            rw [Hid, ← hM.out, hst.out, if_neg (by rw [hvb.out]; decide), if_neg (by rw [hhb.out]; decide), if_pos hr0.out]
          clear hb4 hcall z0 z1 z2 z3 z4 y4 hM hst
          go_wp2_with fail
          go_roundw
          case rel => exact ⟨q + 1, by omega, by go_num, hbw4, HB4.out, hSet4, hM4⟩
          case measure => simp [intOf]; omega
        · have hc' : Hid (c = r) := by rw [Hid, ← hM.out, hst.out, if_neg (by rw [hvb.out]; decide), if_neg (by rw [hhb.out]; decide), if_neg (by rw [hr0.out]; exact h0), hr0.out]
          have h0' : (r == 0) = false := by simpa using h0
          clear hb4 hcall z0 z1 z2 z3 z4 y4 hM hst
          go_wp2_with fail
          go_ret
          exact ⟨ret_int hc'.out.symm, hbw4⟩
      · refine (add_old (w.heap.size + 1) (ns.take q) nm HSz w2 hSet2 hhb.out).mono ?_
        rintro e w3 ⟨rfl, hb3⟩
        have hc' : Hid (c = 16) := by rw [Hid, ← hM.out, hst.out, if_neg (by rw [hvb.out]; decide), if_pos hhb.out]
        have hbw3 : Below w.heap.size w w3 := hbw2.trans (hb3.mono hbw2.size)
        go_wp2_with fail
        go_ret
        exact ⟨ret_int hc'.out.symm, hbw3⟩
    · have hc' : Hid (c = 0) := by
        have h1 := hM.out
        rw [show its.drop q = [] from List.drop_eq_nil_of_le (by rw [hm.out]; omega)] at h1
        rw [Hid, ← h1]
        cases ns.drop q <;> rw [membersT]
      go_wp2_with fail
      go_ret
      exact ⟨ret_int hc'.out.symm, hbw⟩
end Go.Proofs.YtgjemghfejaifaaGreatDoor
