import Derived.Test.YthgnkhpomhcdkaaGreatDoorK0
import Derived.Test.YthgnkhpomhcdkaaGreatDoorMA1
/-! Check of every value: what a value's own cells tell. -/
namespace Go.Proofs.YthgnkhpomhcdkaaGreatDoor
open Go Go.RowKit Go.Maps

def keepsB (k x : Int) (s : ByteArray) (n m : Nat) : Bool :=
  (x == 0 || k == 3) && (decide (s = ⟨#[]⟩) || k == 4) && ((n : Int) == 0 || k == 6) && ((m : Int) == 0 || (k == 5 || k == 6))
def deepB (k : Int) : Int := if (k == 5 || k == 6) = true then 63 else 64
/-- What Check tells of a value but for what stands in it. -/
def aloneT (d k x : Int) (s : ByteArray) (n m : Nat) : Int :=
  if deepB k < d then 17 else if k < 0 ∨ 6 < k then 18 else if keepsB k x s n m = false then 18 else if Lib.validD s.data.toList = false then 18 else if k = 6 ∧ n ≠ m then 18 else 0

theorem deep_code (k : Int) (w : World) : Calls Tryz.prog 189 #[.int .i64 k] w fun e w' => e = .returned (.int .i64 (deepB k)) ∧ w' = w := by
  unfold deepB
  go_enter Tryz.func189, Tryz.ntmps189
  cases h : (k == 5 || k == 6)
  all_goals
    go_wp2_with (go_at_call 239; refine (nest_any _ _).mono ?_; rintro e w' ⟨rfl, rfl⟩; rw [h])
    go_ret
    exact ⟨rfl, rfl⟩
set_option maxHeartbeats 2000000 in
theorem keeps_code (k x : Int) (s : ByteArray) (a1 : Option Addr) (l1 c1 : Nat) (a2 : Option Addr) (l2 c2 : Nat) (w : World) :
    Calls Tryz.prog 190 #[.agg #[.int .i64 k, .int .i64 x, .string s, .slice a1 l1 c1, .slice a2 l2 c2]] w fun e w' => e = .returned (.bool (keepsB k x s l1 l2)) ∧ Below w.heap.size w w' := by
  have hB : ∀ o, Below w.heap.size w (w.alloc o) := fun o => (Below.refl _ _).alloc (Nat.le_refl _) _
  unfold keepsB
  by_cases hs : s = ⟨#[]⟩
  · subst hs
    go_enter Tryz.func190, Tryz.ntmps190
    go_wp2_with (go_at_call 239; refine (nest_any _ _).mono ?_; rintro e w' ⟨rfl, rfl⟩)
    all_goals (go_ret; exact ⟨ret_bool (by try simp [*]), hB _⟩)
  · have hs' : ¬ s.toList = [] := fun e => hs (by
      rw [ByteArray.toList_eq] at e
      exact ByteArray.ext (Array.toList_inj.1 (by simpa using e)))
    have hsd : decide (s = ⟨#[]⟩) = false := by simpa using hs
    rw [hsd]
    go_enter Tryz.func190, Tryz.ntmps190
    go_wp2_with (go_at_call 239; refine (nest_any _ _).mono ?_; rintro e w' ⟨rfl, rfl⟩)
    all_goals (go_ret; exact ⟨ret_bool (by try simp [*]), hB _⟩)

set_option maxHeartbeats 2000000 in
theorem alone_code (k x : Int) (s : ByteArray) (a1 : Option Addr) (l1 c1 : Nat) (a2 : Option Addr) (l2 c2 : Nat) (d : Int) (w : World) (hs : s.size ≤ 140737488351232) (hU : Hid (Lib.Utf8Tabs 2 3 w)) (h8 : 4 ≤ w.heap.size) :
    Calls Tryz.prog 152 #[.agg #[.int .i64 k, .int .i64 x, .string s, .slice a1 l1 c1, .slice a2 l2 c2], .int .i64 d] w fun e w' => e = .returned (.int .i64 (aloneT d k x s l1 l2)) ∧ Below w.heap.size w w' := by
  have hB : ∀ o, Below w.heap.size w (w.alloc o) := fun o => (Below.refl _ _).alloc (Nat.le_refl _) _
  obtain ⟨c, hc⟩ : ∃ c, Hid (aloneT d k x s l1 l2 = c) := ⟨_, hid_e rfl⟩
  rw [hc.out]
  obtain ⟨dp, hdp⟩ : ∃ z, Hid (deepB k = z) := ⟨_, hid_e rfl⟩
  obtain ⟨kb, hkb⟩ : ∃ z, Hid (keepsB k x s l1 l2 = z) := ⟨_, hid_e rfl⟩
  obtain ⟨vb, hvb⟩ : ∃ z, Hid (Lib.validD s.data.toList = z) := ⟨_, hid_e rfl⟩
  go_enter Tryz.func152, Tryz.ntmps152
  by_cases hd : dp < d
  · have hc' : Hid (c = 17) := by
      have h1 := hc.out; unfold aloneT at h1; rw [hdp.out, if_pos hd] at h1; exact h1.symm
    go_wp2_with (go_at_call 189; refine (deep_code _ _).mono ?_; rintro e w' ⟨rfl, rfl⟩; rw [hdp.out])
    go_ret
    exact ⟨ret_int hc'.out.symm, hB _⟩
  by_cases hk0 : k < 0
  · have hc' : Hid (c = 18) := by
      have h1 := hc.out; unfold aloneT at h1; rw [hdp.out, if_neg hd, if_pos (.inl hk0)] at h1; exact h1.symm
    go_wp2_with (go_at_call 189; refine (deep_code _ _).mono ?_; rintro e w' ⟨rfl, rfl⟩; rw [hdp.out])
    go_ret
    exact ⟨ret_int hc'.out.symm, hB _⟩
  by_cases hk6 : 6 < k
  · have hc' : Hid (c = 18) := by
      have h1 := hc.out; unfold aloneT at h1; rw [hdp.out, if_neg hd, if_pos (.inr hk6)] at h1; exact h1.symm
    go_wp2_with (go_at_call 189; refine (deep_code _ _).mono ?_; rintro e w' ⟨rfl, rfl⟩; rw [hdp.out])
    go_ret
    exact ⟨ret_int hc'.out.symm, hB _⟩
  have HC : Hid ((if keepsB k x s l1 l2 = false then 18 else if Lib.validD s.data.toList = false then 18 else if k = 6 ∧ l1 ≠ l2 then 18 else 0) = c) := by
    have h1 := hc.out; unfold aloneT at h1; rw [hdp.out, if_neg hd, if_neg (by omega)] at h1; exact h1
  go_wp2_with (go_at_call 189; refine (deep_code _ _).mono ?_; rintro e w' ⟨rfl, rfl⟩; rw [hdp.out])
  refine (keeps_code k x s a1 l1 c1 a2 l2 c2 _).mono ?_
  rintro e w1 ⟨rfl, hb1⟩
  rw [hkb.out]
  have z2 : w1.cell? ⟨w.heap.size, 2, none⟩ = some (.string s) := box_cells hb1 2
  have hU1 := hid_e (utf_below (utf_alloc hU.out h8 (.cells #[.int .i64 k, .int .i64 x, .string s, .slice a1 l1 c1, .slice a2 l2 c2] 28)) hb1 (by rw [World.size_alloc]; omega))
  cases kb
  · have hc' : Hid (c = 18) := by have h1 := HC.out; rw [if_pos hkb.out] at h1; exact h1.symm
    go_wp2_with fail
    go_ret
    exact ⟨ret_int hc'.out.symm, below_box hb1⟩
  go_wp2_with fail
  refine (Tryz.valid s w1 (by omega) hU1.out).mono ?_
  rintro e w2 ⟨rfl, hb2⟩
  rw [hvb.out]
  have hb12 := hb1.trans (hb2.mono hb1.size)
  have y0 : w2.cell? ⟨w.heap.size, 0, none⟩ = some (.int .i64 k) := box_cells hb12 0
  have y3 : w2.cell? ⟨w.heap.size, 3, none⟩ = some (.slice a1 l1 c1) := box_cells hb12 3
  have y4 : w2.cell? ⟨w.heap.size, 4, none⟩ = some (.slice a2 l2 c2) := box_cells hb12 4
  cases vb
  · have hc' : Hid (c = 18) := by have h1 := HC.out; rw [if_neg (by rw [hkb.out]; decide), if_pos hvb.out] at h1; exact h1.symm
    go_wp2_with fail
    go_ret
    exact ⟨ret_int hc'.out.symm, below_box hb12⟩
  have HC' : Hid ((if k = 6 ∧ l1 ≠ l2 then 18 else 0) = c) := by
    have h1 := HC.out; rw [if_neg (by rw [hkb.out]; decide), if_neg (by rw [hvb.out]; decide)] at h1; exact h1
  by_cases h6 : k = 6
  · by_cases hl : l1 = l2
    · have hc' : Hid (c = 0) := by have h1 := HC'.out; rw [if_neg (fun h => h.2 hl)] at h1; exact h1.symm
      have hl' : ((l1 : Int) == (l2 : Int)) = true := by simp [hl]
      go_wp2_with fail
      go_ret
      exact ⟨ret_int hc'.out.symm, below_box hb12⟩
    · have hc' : Hid (c = 18) := by have h1 := HC'.out; rw [if_pos ⟨h6, hl⟩] at h1; exact h1.symm
      have hl' : ((l1 : Int) == (l2 : Int)) = false := by simp; omega
      go_wp2_with fail
      go_ret
      exact ⟨ret_int hc'.out.symm, below_box hb12⟩
  · have hc' : Hid (c = 0) := by have h1 := HC'.out; rw [if_neg (fun h => h6 h.1)] at h1; exact h1.symm
    go_wp2_with fail
    go_ret
    exact ⟨ret_int hc'.out.symm, below_box hb12⟩
end Go.Proofs.YthgnkhpomhcdkaaGreatDoor
/-! Check of every value. -/
namespace Go.Proofs.YthgnkhpomhcdkaaGreatDoor
open Go Go.RowKit Go.Maps

mutual
/-- What Check tells of a value at a depth. -/
def checkT : Nat → Tr → Int
  | d, .node k x s ns its =>
    if aloneT d k x s ns.length its.length = 0 then (if k = 6 then membersT (d + 1) [] ns its else itemsT (d + 1) its) else aloneT d k x s ns.length its.length
def itemsT : Nat → List Tr → Int
  | _, [] => 0
  | d, t :: ts => if checkT d t = 0 then itemsT d ts else checkT d t
def membersT : Nat → List ByteArray → List ByteArray → List Tr → Int
  | _, _, _, [] => 0
  | _, _, [], _ :: _ => 0
  | d, had, n :: ns, t :: ts => if Lib.validD n.data.toList = false then 18 else if hasName had n = true then 16 else if checkT d t = 0 then membersT d (had ++ [n]) ns ts else checkT d t
end
theorem itemsT_at {d : Nat} {its : List Tr} {q : Nat} {u : Tr} (h : its[q]? = some u) : itemsT d (its.drop q) = if checkT d u = 0 then itemsT d (its.drop (q + 1)) else checkT d u := by
  have hlt := (List.getElem?_eq_some_iff.1 h).1
  have : its.drop q = u :: its.drop (q + 1) := by
    rw [List.drop_eq_getElem_cons hlt, (List.getElem?_eq_some_iff.1 h).2]
  rw [this, itemsT]
theorem membersT_at {d : Nat} {ns : List ByteArray} {its : List Tr} {q : Nat} {nm : ByteArray} {u : Tr} (hn : ns[q]? = some nm) (h : its[q]? = some u) : membersT d (ns.take q) (ns.drop q) (its.drop q) =
    if Lib.validD nm.data.toList = false then 18 else if hasName (ns.take q) nm = true then 16 else if checkT d u = 0 then membersT d (ns.take (q + 1)) (ns.drop (q + 1)) (its.drop (q + 1)) else checkT d u := by
  have hlt := (List.getElem?_eq_some_iff.1 h).1
  have hlt' := (List.getElem?_eq_some_iff.1 hn).1
  have e1 : its.drop q = u :: its.drop (q + 1) := by
    rw [List.drop_eq_getElem_cons hlt, (List.getElem?_eq_some_iff.1 h).2]
  have e2 : ns.drop q = nm :: ns.drop (q + 1) := by
    rw [List.drop_eq_getElem_cons hlt', (List.getElem?_eq_some_iff.1 hn).2]
  have e3 : ns.take (q + 1) = ns.take q ++ [nm] := by rw [List.take_add_one, hn]; rfl
  rw [e1, e2, e3, membersT]

theorem key_big (s : ByteArray) (hs : s.size ≤ 140737488351232) : keyOf Tryz.prog 9 (.string s) = some (keyL s) := by
  unfold keyOf
  rw [Tryz.underlying9]
  have : s.size ≤ maxLen := by unfold maxLen; omega
  simp [mapKey, Tryz.underlying9, keyL, this]
set_option maxHeartbeats 800000 in
theorem add_old (m : Nat) (ns : List ByteArray) (s : ByteArray) (hs : s.size ≤ 140737488351232) (w : World) (hS : SetAt m ns w) (hh : hasName ns s = true) :
    Calls Tryz.prog 192 #[.map (some m), .string s] w fun e w' => e = .returned (.bool false) ∧ Below w.heap.size w w' := by
  have hown : w.ownsMap Tryz.prog 9 (unitElem (H := Unit)) m ns.length (setOf (.agg []) (ns.map keyL)) := hS
  have hkey := key_big s hs
  have hhas := has_set ns s
  rw [hh] at hhas
  clear hS hh
  go_enter Tryz.func192, Tryz.ntmps192
  go_wp2_with (at_lookup; refine wpList_lookup_own_unit _ rfl _ _ 227 rfl 9 186 law9 Tryz.underlying227 (zero103 _) m ns.length _ rfl hown _ _ rfl hkey ?_)
  go_ret
  exact ⟨rfl, (Below.refl _ _).alloc (Nat.le_refl _) _⟩
set_option maxHeartbeats 800000 in
theorem add_new (m : Nat) (ns : List ByteArray) (s : ByteArray) (hs : s.size ≤ 140737488351232) (w : World) (hS : SetAt m ns w) (hl : ns.length ≤ 140737488351232) (hh : hasName ns s = false) :
    Calls Tryz.prog 192 #[.map (some m), .string s] w fun e w' => e = .returned (.bool true) ∧ SetAt m (ns ++ [s]) w' ∧ Kp m w w' := by
  have hown : w.ownsMap Tryz.prog 9 (unitElem (H := Unit)) m ns.length (setOf (.agg []) (ns.map keyL)) := hS
  have hkey := key_big s hs
  have hhas := has_set ns s
  rw [hh] at hhas
  clear hS hh
  go_enter Tryz.func192, Tryz.ntmps192
  go_wp2_with (first
    | (at_lookup; refine wpList_lookup_own_unit _ rfl _ _ 227 rfl 9 186 law9 Tryz.underlying227 (zero103 _) m ns.length _ rfl hown _ _ rfl hkey ?_)
    | (at_mapUpdate; refine wpList_mapUpdate_own _ rfl _ _ _ 227 rfl 9 186 law9 Tryz.underlying227 (unitElem (H := Unit)) m ns.length _ rfl (hown.alloc _) (by unfold maxLen; omega) _ _ _ rfl rfl hkey _ [] unitElem_mk ?_; intro w1 hown1 hgrow1))
  go_ret
  refine ⟨rfl, ?_, ?_⟩
  · unfold SetAt
    rw [List.map_append, List.map_cons, List.map_nil, setOf_snoc, List.length_append]
    exact hown1
  · exact ((Kp.refl _ _).alloc _).trans ⟨hgrow1.os, hgrow1.tape, hgrow1.output, hgrow1.size, fun k hk hm => hgrow1.block k hk (by simp; exact hm)⟩

theorem itemsAt_keep {w w' : World} {ai : Option Addr} {its : List Tr} (h : ItemsAt' w ai its) (hb : Below w.heap.size w w') : ItemsAt' w' ai its := by
  rcases h with h | ⟨b, o, h1, h2, h3⟩
  · exact .inl h
  · exact .inr ⟨b, o, h1, Nat.lt_of_lt_of_le h2 hb.size, VRepL.keep hb h2 o its h3⟩
/-- What the walk asks of the items. -/
def CheckOks (d : Nat) (its : List Tr) : Prop := d ≤ 63 → ∀ (i : Nat) (u : Tr), its[i]? = some u → ∀ (cs : List Value) (w : World), VRep w u cs → Lib.Utf8Tabs 2 3 w → 4 ≤ w.heap.size →
  Calls Tryz.prog 103 #[.agg cs.toArray, .int .i64 ((d : Int) + 1)] w fun e w' => e = .returned (.int .i64 (checkT (d + 1) u)) ∧ Below w.heap.size w w'

set_option maxHeartbeats 4000000 in
set_option maxRecDepth 100000 in
theorem members_code (k x : Int) (s : ByteArray) (an : Option Addr) (n cn : Nat) (ns : List ByteArray) (ai : Option Addr) (ci : Nat) (its : List Tr) (d : Nat) (w : World) (hd : d ≤ 63) (hn : Hid (ns.length = n)) (hm : Hid (its.length = n)) (hnl : n ≤ 8796093021952) (hz : Hid (∀ n ∈ ns, n.size ≤ 140737488351232))
    (hR : Hid (Reads w (.slice an n cn) ns)) (hL : Hid (ItemsAt' w ai its)) (hU : Hid (Lib.Utf8Tabs 2 3 w)) (h8 : 4 ≤ w.heap.size) (hI : Hid (CheckOks d its)) :
    Calls Tryz.prog 153 #[.agg #[.int .i64 k, .int .i64 x, .string s, .slice an n cn, .slice ai n ci], .int .i64 (d : Int)] w fun e w' => e = .returned (.int .i64 (membersT (d + 1) [] ns its)) ∧ Below w.heap.size w w' := by
  obtain ⟨c, hc⟩ : ∃ c, Hid (membersT (d + 1) [] ns its = c) := ⟨_, hid_e rfl⟩
  rw [hc.out]
  have hmm := make_hint
  have hw0 : (0 : Int) ≤ (n : Int) := by omega
  have hd0 : (0 : Int) ≤ (d : Int) := by omega
  have hd1 : (d : Int) ≤ 100 := by omega
  go_enter Tryz.func153, Tryz.ntmps153
  go_wp2_with fail
  have hS0 : Hid (SetAt (w.heap.size + 1) [] ((w.alloc (.cells #[.int .i64 k, .int .i64 x, .string s, .slice an n cn, .slice ai n ci] 28)).alloc (.map #[] 0))) := by
    have h0 : SetAt (w.alloc (.cells #[.int .i64 k, .int .i64 x, .string s, .slice an n cn, .slice ai n ci] 28)).heap.size [] ((w.alloc (.cells #[.int .i64 k, .int .i64 x, .string s, .slice an n cn, .slice ai n ci] 28)).alloc (.map #[] 0)) := World.ownsMap_made _ _ _ _
    rw [World.size_alloc] at h0
    exact h0
  go_loopw [16] (fun i wr => ∃ q : Nat, q ≤ n ∧ i = .int .i64 q ∧ Below w.heap.size w wr ∧ wr.heap[w.heap.size]? = some (.cells #[.int .i64 k, .int .i64 x, .string s, .slice an n cn, .slice ai n ci] 28 (0, 0)) ∧ SetAt (w.heap.size + 1) (ns.take q) wr ∧ Hid (membersT (d + 1) (ns.take q) (ns.drop q) (its.drop q) = c)) (fun i wr => n - (intOf i).toNat)
  case atStart => exact ⟨0, Nat.zero_le _, rfl, ((Below.refl _ _).alloc (Nat.le_refl _) _).alloc (by simp) _, (alloc_old (by simp)).trans (heap_alloc_new w _), hS0.out, hc⟩
  case round =>
    clear hS0
    obtain ⟨q, hq, rfl, hbw, hbox, hSet, hM⟩ := hrel
    have hsz := hbw.size
    have hslt := hSet.lt
    by_cases hlt : q < n
    · obtain ⟨u, hu⟩ : ∃ u, Hid (its[q]? = some u) := ⟨_, hid_e (List.getElem?_eq_getElem (by rw [hm.out]; exact hlt))⟩
      obtain ⟨nm, hnm⟩ : ∃ u, Hid (ns[q]? = some u) := ⟨_, hid_e (List.getElem?_eq_getElem (by rw [hn.out]; exact hlt))⟩
      have hst := hid_e (membersT_at (d := d + 1) hnm.out hu.out)
      have HSz : nm.size ≤ 140737488351232 := hz.out nm (List.mem_of_getElem? hnm.out)
      obtain ⟨b, o, hai, hb, hV⟩ := hL.out.resolve_left (by intro e; have := hm.out; rw [e] at this; simp at this; omega)
      obtain ⟨cs, hC, hr⟩ := VRepL.at its o q u hV hu.out
      obtain ⟨k2, x2, s2, an2, ln2, cn2, ai2, li2, ci2, rfl⟩ := vrep_five hr
      obtain ⟨an0, cn0, hane, -, hrd⟩ := hR.out
      obtain ⟨gn, on, rfl, -, hrd⟩ := hrd.resolve_left (by intro e; have := hn.out; rw [e] at this; simp at this; omega)
      simp only [Value.slice.injEq] at hane
      obtain ⟨rfl, -, -⟩ := hane
      subst hai
      have nc := stay hbw (hrd q nm hnm.out)
      have HCA := hid_e hC
      have HR := hid_e hr
      have HBX := hid_e hbox
      have i1 : (q : Int) < (n : Int) := by omega
      have hUr := hid_e (utf_below hU.out hbw h8)
      have htl : (ns.take q).length ≤ 140737488351232 := by rw [List.length_take]; omega
      obtain ⟨vb, hvb⟩ : ∃ z, Hid (Lib.validD nm.data.toList = z) := ⟨_, hid_e rfl⟩
      obtain ⟨hb0, hhb⟩ : ∃ z, Hid (hasName (ns.take q) nm = z) := ⟨_, hid_e rfl⟩
      obtain ⟨r, hr0⟩ : ∃ z, Hid (checkT (d + 1) u = z) := ⟨_, hid_e rfl⟩
      clear hV hC hr hrd hbox
      go_wp2_with fail
      refine (Tryz.valid nm wr (by omega) hUr.out).mono ?_
      rintro e w2 ⟨rfl, hb2⟩
      rw [hvb.out]
      have hbw2 : Below w.heap.size w w2 := hbw.trans (hb2.mono hsz)
      cases vb
      · have hc' : Hid (c = 18) := by rw [Hid, ← hM.out, hst.out, if_pos hvb.out]
        go_wp2_with fail
        go_ret
        exact ⟨ret_int hc'.out.symm, hbw2⟩
      have hSet2 : SetAt (w.heap.size + 1) (ns.take q) w2 := hSet.keep (hb2.block _ hslt)
      go_wp2_with fail
      cases hb0
      · refine (add_new (w.heap.size + 1) (ns.take q) nm HSz w2 hSet2 htl hhb.out).mono ?_
        rintro e w3 ⟨rfl, hSet3, hK3⟩
        have hs2 := hb2.size
        have hs3 := hK3.size
        have hbox3 : w3.heap[w.heap.size]? = some (.cells #[.int .i64 k, .int .i64 x, .string s, .slice (some ⟨gn, on, none⟩) n cn, .slice (some ⟨b, o, none⟩) n ci] 28 (0, 0)) := (hK3.block w.heap.size (by omega) (by omega)).trans ((hb2.block w.heap.size (by omega)).trans HBX.out)
        have hbw3 : Below w.heap.size w w3 := hbw.trans ⟨hK3.os.trans hb2.os, hK3.tape.trans hb2.tape, hK3.output.trans hb2.output, by omega, fun k hk => (hK3.block k (by omega) (by omega)).trans (hb2.block k (by omega))⟩
        have y4 : w3.cell? ⟨w.heap.size, 4, none⟩ = some (.slice (some ⟨b, o, none⟩) n ci) := cell_of hbox3 4
        have HB3 := hid_e hbox3
        have z0 := stay hbw3 (HCA.out 0 _ rfl)
        have z1 := stay hbw3 (HCA.out 1 _ rfl)
        have z2 := stay hbw3 (HCA.out 2 _ rfl)
        have z3 := stay hbw3 (HCA.out 3 _ rfl)
        have z4 := stay hbw3 (HCA.out 4 _ rfl)
        simp only [Nat.add_zero] at z0
        have hcall := hid_e (hI.out hd q u hu.out _ w3 (VRep.keep hbw3 _ _ HR.out) (utf_below hU.out hbw3 h8) (by omega))
        rw [hr0.out] at hcall
        clear hbox3 hSet hSet2 hb2 hK3 HBX hbw hUr nc hbw2
        go_wp2_with fail
        go_fit hcall.out
        rintro e w4 ⟨rfl, hb4⟩
        have hslt3 := hSet3.lt
        have hbw4 : Below w.heap.size w w4 := hbw3.trans (hb4.mono (by omega))
        by_cases h0 : r = 0
        · subst h0
          have hSet4 : SetAt (w.heap.size + 1) (ns.take (q + 1)) w4 := by
            rw [show ns.take (q + 1) = ns.take q ++ [nm] by rw [List.take_add_one, hnm.out]; rfl]
            exact hSet3.keep (hb4.block _ hslt3)
          have HB4 := hid_e ((hb4.block w.heap.size (by omega)).trans HB3.out)
          have hM4 : Hid (membersT (d + 1) (ns.take (q + 1)) (ns.drop (q + 1)) (its.drop (q + 1)) = c) := by
            rw [Hid, ← hM.out, hst.out, if_neg (by rw [hvb.out]; decide), if_neg (by rw [hhb.out]; decide), if_pos hr0.out]
          clear hb4 hcall z0 z1 z2 z3 z4 y4 hM hst
          go_wp2_with fail
          go_roundw
          case rel => exact ⟨q + 1, by omega, by go_num, hbw4, HB4.out, hSet4, hM4⟩
          case measure => simp [intOf]; omega
        · have hc' : Hid (c = r) := by rw [Hid, ← hM.out, hst.out, if_neg (by rw [hvb.out]; decide), if_neg (by rw [hhb.out]; decide), if_neg (by rw [hr0.out]; exact h0), hr0.out]
          have h0' : (r == 0) = false := by simpa using h0
          clear hb4 hcall z0 z1 z2 z3 z4 y4 hM hst
          go_wp2_with fail
          go_ret
          exact ⟨ret_int hc'.out.symm, hbw4⟩
      · refine (add_old (w.heap.size + 1) (ns.take q) nm HSz w2 hSet2 hhb.out).mono ?_
        rintro e w3 ⟨rfl, hb3⟩
        have hc' : Hid (c = 16) := by rw [Hid, ← hM.out, hst.out, if_neg (by rw [hvb.out]; decide), if_pos hhb.out]
        have hbw3 : Below w.heap.size w w3 := hbw2.trans (hb3.mono hbw2.size)
        go_wp2_with fail
        go_ret
        exact ⟨ret_int hc'.out.symm, hbw3⟩
    · have hc' : Hid (c = 0) := by
        have h1 := hM.out
        rw [show its.drop q = [] from List.drop_eq_nil_of_le (by rw [hm.out]; omega)] at h1
        rw [Hid, ← h1]
        cases ns.drop q <;> rw [membersT]
      go_wp2_with fail
      go_ret
      exact ⟨ret_int hc'.out.symm, hbw⟩
end Go.Proofs.YthgnkhpomhcdkaaGreatDoor
/-! Check of every value: the walk down. -/
namespace Go.Proofs.YthgnkhpomhcdkaaGreatDoor
open Go Go.RowKit Go.Maps

theorem aloneT_ok {d : Nat} {k x : Int} {s : ByteArray} {n m : Nat} (h : aloneT d k x s n m = 0) : (d : Int) ≤ deepB k ∧ 0 ≤ k ∧ k ≤ 6 ∧ keepsB k x s n m = true ∧ Lib.validD s.data.toList = true ∧ (k = 6 → n = m) := by
  unfold aloneT at h
  split at h
  · simp at h
  split at h
  · simp at h
  split at h
  · simp at h
  split at h
  · simp at h
  split at h
  · simp at h
  · rename_i h1 h2 h3 h4 h5
    refine ⟨by omega, by omega, by omega, by simpa using h3, by simpa using h4, fun hk => ?_⟩
    by_cases e : n = m
    · exact e
    · exact absurd ⟨hk, e⟩ h5
theorem aloneT_items {d : Nat} {k x : Int} {s : ByteArray} {n m : Nat} (h : aloneT d k x s n m = 0) (hm : m ≠ 0) : d ≤ 63 := by
  obtain ⟨h1, h2, h3, h4, -⟩ := aloneT_ok h
  unfold keepsB at h4
  simp only [Bool.and_eq_true, Bool.or_eq_true, beq_iff_eq] at h4
  have h5 := h4.2
  unfold deepB at h1
  rcases h5 with h5 | h5
  · omega
  · rw [if_pos (by simpa using h5)] at h1
    omega
theorem aloneT_obj {d : Nat} {x : Int} {s : ByteArray} {n m : Nat} (h : aloneT d 6 x s n m = 0) : d ≤ 63 ∧ n = m := by
  obtain ⟨h1, h2, h3, h4, -, h6⟩ := aloneT_ok h
  unfold deepB at h1
  rw [if_pos (by decide)] at h1
  exact ⟨by omega, h6 rfl⟩

set_option maxHeartbeats 4000000 in
set_option maxRecDepth 100000 in
theorem checkAt_code (k x : Int) (s : ByteArray) (an : Option Addr) (cn : Nat) (ns : List ByteArray) (ai : Option Addr) (ci : Nat) (its : List Tr) (d : Nat) (w : World) (hd : d ≤ 64) (hs : s.size ≤ 140737488351232) (hnl : ns.length ≤ 8796093021952) (hml : its.length ≤ 8796093021952) (hz : Hid (∀ n ∈ ns, n.size ≤ 140737488351232))
    (hR : Hid (Reads w (.slice an ns.length cn) ns)) (hL : Hid (ItemsAt' w ai its)) (hU : Hid (Lib.Utf8Tabs 2 3 w)) (h8 : 4 ≤ w.heap.size) (hI : Hid (CheckOks d its)) :
    Calls Tryz.prog 103 #[.agg #[.int .i64 k, .int .i64 x, .string s, .slice an ns.length cn, .slice ai its.length ci], .int .i64 (d : Int)] w fun e w' => e = .returned (.int .i64 (checkT d (.node k x s ns its))) ∧ Below w.heap.size w w' := by
  have hB : ∀ o, Below w.heap.size w (w.alloc o) := fun o => (Below.refl _ _).alloc (Nat.le_refl _) _
  obtain ⟨c, hc⟩ : ∃ c, Hid (checkT d (.node k x s ns its) = c) := ⟨_, hid_e rfl⟩
  rw [hc.out]
  obtain ⟨al, hal⟩ : ∃ c, Hid (aloneT d k x s ns.length its.length = c) := ⟨_, hid_e rfl⟩
  have hC : Hid ((if al = 0 then (if k = 6 then membersT (d + 1) [] ns its else itemsT (d + 1) its) else al) = c) := by
    rw [Hid, ← hc.out, checkT, hal.out]
  have hd0 : (0 : Int) ≤ (d : Int) := by omega
  have hd1 : (d : Int) ≤ 100 := by omega
  have hcall := fun o => hid_e (alone_code k x s an ns.length cn ai its.length ci d (w.alloc o) hs (hid_e (utf_below hU.out (hB o) h8)) (by rw [World.size_alloc]; omega))
  rw [hal.out] at hcall
  go_enter Tryz.func103, Tryz.ntmps103
  go_wp2_with fail
  go_fit (hcall _).out
  rintro e w1 ⟨rfl, hb1⟩
  clear hcall
  have y0 : w1.cell? ⟨w.heap.size, 0, none⟩ = some (.int .i64 k) := box_cells hb1 0
  have y1 : w1.cell? ⟨w.heap.size, 1, none⟩ = some (.int .i64 x) := box_cells hb1 1
  have y2 : w1.cell? ⟨w.heap.size, 2, none⟩ = some (.string s) := box_cells hb1 2
  have y3 : w1.cell? ⟨w.heap.size, 3, none⟩ = some (.slice an ns.length cn) := box_cells hb1 3
  have y4 : w1.cell? ⟨w.heap.size, 4, none⟩ = some (.slice ai its.length ci) := box_cells hb1 4
  have hbw1 := below_box hb1
  clear hb1 hB
  by_cases h0 : al = 0
  · subst h0
    by_cases h6 : k = 6
    · subst h6
      obtain ⟨hd3, hnm⟩ := aloneT_obj hal.out
      have hcall := hid_e (members_code 6 x s an ns.length cn ns ai ci its d w1 hd3 (hid_e rfl) (hid_e hnm.symm) (by omega) hz (hid_e (hR.out.keep hbw1)) (hid_e (itemsAt_keep hL.out hbw1)) (hid_e (utf_below hU.out hbw1 h8)) (Nat.le_trans h8 hbw1.size) hI)
      have hc' : Hid (membersT (d + 1) [] ns its = c) := by have h1 := hC.out; rw [if_pos rfl, if_pos rfl] at h1; exact h1
      rw [hc'.out, hnm] at hcall
      rw [hnm] at y3
      go_wp2_with fail
      go_fit hcall.out
      rintro e w2 ⟨rfl, hb2⟩
      go_wp2_with fail
      go_ret
      exact ⟨rfl, hbw1.trans (hb2.mono hbw1.size)⟩
    · have hc' : Hid (itemsT (d + 1) its = c) := by have h1 := hC.out; rw [if_pos rfl, if_neg h6] at h1; exact h1
      have h6' : (k == 6) = false := by simpa using h6
      go_wp2_with fail
      clear y0 y1 y2 y3 y4
      go_loopw [24] (fun i wr => ∃ q : Nat, q ≤ its.length ∧ i = .int .i64 q ∧ Below w.heap.size w wr ∧ Hid (itemsT (d + 1) (its.drop q) = c)) (fun i wr => its.length - (intOf i).toNat)
      case atStart => exact ⟨0, Nat.zero_le _, rfl, hbw1, hc'⟩
      case round =>
        obtain ⟨q, hq, rfl, hbw, hM⟩ := hrel
        by_cases hlt : q < its.length
        · obtain ⟨u, hu⟩ : ∃ u, Hid (its[q]? = some u) := ⟨_, hid_e (List.getElem?_eq_getElem hlt)⟩
          have hst := hid_e (itemsT_at (d := d + 1) hu.out)
          have hd3 : d ≤ 63 := aloneT_items hal.out (by omega)
          obtain ⟨b, o, rfl, hb, hV⟩ := hL.out.resolve_left (by intro e; subst e; simp at hlt)
          obtain ⟨cs, hCs, hr⟩ := VRepL.at its o q u hV hu.out
          obtain ⟨k2, x2, s2, an2, ln2, cn2, ai2, li2, ci2, rfl⟩ := vrep_five hr
          have z0 := stay hbw (hCs 0 _ rfl)
          have z1 := stay hbw (hCs 1 _ rfl)
          have z2 := stay hbw (hCs 2 _ rfl)
          have z3 := stay hbw (hCs 3 _ rfl)
          have z4 := stay hbw (hCs 4 _ rfl)
          simp only [Nat.add_zero] at z0
          obtain ⟨r, hr0⟩ : ∃ z, Hid (checkT (d + 1) u = z) := ⟨_, hid_e rfl⟩
          have hsz := hbw.size
          have hcall := fun p => hid_e (hI.out hd3 q u hu.out _ (wr.alloc p) (VRep.keep (hbw.alloc hsz p) _ _ hr) (utf_below hU.out (hbw.alloc hsz p) h8) (by rw [World.size_alloc]; omega))
          rw [hr0.out] at hcall
          have i1 : (q : Int) < (its.length : Int) := by omega
          clear hV hCs hr
          go_wp2_with fail
          go_fit (hcall _).out
          rintro e w3 ⟨rfl, hb3⟩
          have hbw3 : Below w.heap.size w w3 := (hbw.alloc hsz _).trans (hb3.mono (by rw [World.size_alloc]; omega))
          clear hb3 hcall z0 z1 z2 z3 z4
          by_cases h0 : r = 0
          · subst h0
            have hM3 : Hid (itemsT (d + 1) (its.drop (q + 1)) = c) := by rw [Hid, ← hM.out, hst.out, if_pos hr0.out]
            go_wp2_with fail
            go_roundw
            case rel => exact ⟨q + 1, by omega, by go_num, hbw3, hM3⟩
            case measure => simp [intOf]; omega
          · have hc2 : Hid (c = r) := by rw [Hid, ← hM.out, hst.out, if_neg (by rw [hr0.out]; exact h0), hr0.out]
            have h0' : (r == 0) = false := by simpa using h0
            go_wp2_with fail
            go_ret
            exact ⟨ret_int hc2.out.symm, hbw3⟩
        · have hc2 : Hid (c = 0) := by
            rw [Hid, ← hM.out, List.drop_eq_nil_of_le (by omega), itemsT]
          go_wp2_with fail
          go_ret
          exact ⟨ret_int hc2.out.symm, hbw⟩
  · have hc' : Hid (c = al) := by have h1 := hC.out; rw [if_neg h0] at h1; exact h1.symm
    have h0' : (al == 0) = false := by simpa using h0
    go_wp2_with fail
    go_ret
    exact ⟨ret_int hc'.out.symm, hbw1⟩

/-- Only where a value is a list or an object are its items gone through. -/
theorem check_deep (t : Tr) (d : Nat) (cs : List Value) (w : World) (hd : d ≤ 64) (hV : VRep w t cs) (hS : SmallT t) (hU : Lib.Utf8Tabs 2 3 w) (h8 : 4 ≤ w.heap.size) :
    Calls Tryz.prog 103 #[.agg cs.toArray, .int .i64 (d : Int)] w fun e w' => e = .returned (.int .i64 (checkT d t)) ∧ Below w.heap.size w w' := by
  match t, hV, hS with
  | .node k x s ns its, hV, hS =>
    unfold VRep at hV
    unfold SmallT at hS
    obtain ⟨nm, a, c, rfl, hn, hc, hI⟩ := hV
    obtain ⟨an, cn, rfl, -, -⟩ := id hn
    obtain ⟨hs1, hs2, hs3, hs4, hs5⟩ := hS
    refine checkAt_code k x s an cn ns a c its d w hd hs1 (by omega) (by omega) (hid_e hs3) (hid_e hn) (hid_e hI) (hid_e hU) h8 (hid_e (fun hd' i u hu ds w' h1 h2 h3 => ?_))
    have hlt : SizeOf.sizeOf u < SizeOf.sizeOf its := tr_lt hu
    have := check_deep u (d + 1) ds w' (by omega) h1 (SmallL.at hs5 hu) h2 h3
    rw [show (((d + 1 : Nat) : Int)) = (d : Int) + 1 by omega] at this
    exact this
termination_by SizeOf.sizeOf t
decreasing_by simp only [Tr.node.sizeOf_spec]; omega
end Go.Proofs.YthgnkhpomhcdkaaGreatDoor
