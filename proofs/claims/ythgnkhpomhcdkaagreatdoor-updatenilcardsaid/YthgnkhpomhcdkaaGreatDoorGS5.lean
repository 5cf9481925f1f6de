import Derived.Test.YthgnkhpomhcdkaaGreatDoorGD6
/-! Taken over from r4b/S1. -/
namespace Go.Proofs.YthgnkhpomhcdkaaGreatDoor
open Go Go.RowKit Dp

theorem copy_n {P : Program} (w : World) (T ty elem : TypeId) (i : TypeInfo) (g n dCap : Nat) (a : Addr) (sCap : Nat) (cur : Array Value) (t : TypeId) (cs : List Value) (hu : P.underlying T = some (.slice elem)) (hi : P.info? elem = some i)
    (hg : w.heap[g]? = some (.cells cur t (0, 0))) (hn : cs.length = n * i.size) (hsrc : ∀ j v, cs[j]? = some v → w.cell? (a.add j) = some v) (hfit : cs.length ≤ cur.size) (h1 : ∀ v ∈ cs, v.oneCell' = true) :
    (Builtin.copy_ #[T, T] ty #[.slice (some ⟨g, 0, none⟩) n dCap, .slice (some a) n sCap]).run P w = .ok (goInt n) (w.setRow g (cs ++ cur.toList.drop cs.length).toArray) := by
  have hl := run_loadCells_list (P := P) w a cs hsrc
  have hst := run_storeCells_at P g 0 t cs 0 cur w hg (by simpa using hfit) h1
  simp at hst
  simp [Builtin.copy_, run_underlying hu, Builtin.lenOf, Builtin.firstCells, sizeOf, typeInfo, hi, ← hn, hl, hst]
theorem make_sn (l c : Nat) (hlc : l ≤ c) (hc : c * 16 ≤ 281474976710656) (w : World) : (Instr.makeSlice 25 (.int .i64 l) (.int .i64 c)).run Tryz.prog w = .ok (.slice (some ⟨w.heap.size, 0, none⟩) l c) (w.alloc (.cells (madeCells #[.string ⟨#[]⟩] c) 9)) := by
  obtain ⟨i9, hi9, hz90, hz91, hz92⟩ := info_parts A9
  have := run_make (P := Tryz.prog) w 25 9 i9 _ Tryz.underlying25 hi9 hz90 .i64 .i64 l c (by omega) (by omega) (by rw [hz92]; omega) (by omega)
  rw [this, hz91, Nat.mul_one, Int.toNat_natCast, Int.toNat_natCast]
  rfl
theorem make_vn (l c : Nat) (hlc : l ≤ c) (hc : c * 80 ≤ 281474976710656) (w : World) : (Instr.makeSlice 26 (.int .i64 l) (.int .i64 c)).run Tryz.prog w = .ok (.slice (some ⟨w.heap.size, 0, none⟩) l c) (w.alloc (.cells (madeCells #[.int .i64 0, .int .i64 0, .string ⟨#[]⟩, .slice none 0 0, .slice none 0 0] (c * 5)) 28)) := by
  obtain ⟨i, hi, hz0, hz1, hz2⟩ := info_parts A25
  have := run_make (P := Tryz.prog) w 26 28 i _ Tryz.underlying26 hi hz0 .i64 .i64 l c (by omega) (by omega) (by rw [hz2]; omega) (by omega)
  rw [this, hz1, Int.toNat_natCast, Int.toNat_natCast]
  rfl
/-- A list of n elements of these cells each lies there, if it has any. -/
def LiesAt (w : World) (a : Option Addr) (cs : List Value) : Prop := cs = [] ∨ ∃ b o, a = some ⟨b, o, none⟩ ∧ CellsAt w b o cs
theorem LiesAt.keep {w w' : World} {a : Option Addr} {cs : List Value} (h : LiesAt w a cs) (hb : Below w.heap.size w w') : LiesAt w' a cs := by
  rcases h with h | ⟨b, o, e, h⟩
  · exact .inl h
  · exact .inr ⟨b, o, e, fun j u hj => (hb.cell (p := ⟨b, o + j, none⟩) (cell_lt (h j u hj))).trans (h j u hj)⟩

set_option maxHeartbeats 1000000 in
set_option maxRecDepth 100000 in
theorem copied_sn (a : Option Addr) (n c : Nat) (cs : List Value) (w : World) (hn : cs.length = n) (hb : (n + 1) * 16 ≤ 281474976710656) (h1 : ∀ v ∈ cs, v.oneCell' = true) (hs : LiesAt w a cs) : Calls Tryz.prog 207 #[.slice a n c] w fun e w' => e = .returned (.slice (some ⟨w.heap.size, 0, none⟩) n (n + 1)) ∧ ∃ cur : Array Value, w' = w.alloc (.cells cur 9) ∧ cur.size = n + 1 ∧ cur.toList.take n = cs := by
  obtain ⟨i9, hi9, hz0, hz1, -⟩ := info_parts A9
  have hmk := fun w => make_sn n (n + 1) (by omega) hb w
  rw [Int.natCast_add, Int.natCast_one] at hmk
  rcases hs with rfl | ⟨b, o, rfl, hs⟩
  · subst hn
    exact (copied_s0 a c w).mono (by rintro e w' ⟨rfl, rfl⟩; exact ⟨rfl, _, rfl, rfl, rfl⟩)
  · have hcp := copy_n (P := Tryz.prog) (w.alloc (.cells (madeCells #[.string ⟨#[]⟩] (n + 1)) 9)) 25 3 9 i9 w.heap.size n (n + 1) ⟨b, o, none⟩ c _ 9 cs Tryz.underlying25 hi9 (heap_alloc_new w _) (by rw [hz1]; omega) (fun j v hj => by
      rw [add_lit]; exact cell_alloc' (hs j v hj) _) (by rw [size_madeCells]; omega) h1
    rw [World.setRow_alloc_new] at hcp
    have hsz : (cs ++ (madeCells #[Value.string ⟨#[]⟩] (n + 1)).toList.drop cs.length).toArray.size = n + 1 := by simp [size_madeCells]; omega
    have htk : (cs ++ (madeCells #[Value.string ⟨#[]⟩] (n + 1)).toList.drop cs.length).toArray.toList.take n = cs := by simp [← hn]
    generalize (cs ++ (madeCells #[Value.string ⟨#[]⟩] (n + 1)).toList.drop cs.length).toArray = cur at *
    clear hs
    go_enter Tryz.func207, Tryz.ntmps207
    go_wp2
    go_ret
    exact ⟨rfl, _, rfl, hsz, htk⟩
set_option maxHeartbeats 1000000 in
set_option maxRecDepth 100000 in
theorem copied_vn (a : Option Addr) (n c : Nat) (cs : List Value) (w : World) (hn : cs.length = n * 5) (hb : (n + 1) * 80 ≤ 281474976710656) (h1 : ∀ v ∈ cs, v.oneCell' = true) (hs : LiesAt w a cs) : Calls Tryz.prog 206 #[.slice a n c] w fun e w' => e = .returned (.slice (some ⟨w.heap.size, 0, none⟩) n (n + 1)) ∧ ∃ cur : Array Value, w' = w.alloc (.cells cur 28) ∧ cur.size = (n + 1) * 5 ∧ cur.toList.take (n * 5) = cs := by
  obtain ⟨i9, hi9, hz0, hz1, -⟩ := info_parts A25
  have hmk := fun w => make_vn n (n + 1) (by omega) hb w
  rw [Int.natCast_add, Int.natCast_one] at hmk
  rcases hs with rfl | ⟨b, o, rfl, hs⟩
  · obtain rfl : n = 0 := by simp at hn; omega
    exact (copied_v0 a c w).mono (by rintro e w' ⟨rfl, rfl⟩; exact ⟨rfl, _, rfl, rfl, rfl⟩)
  · have hcp := copy_n (P := Tryz.prog) (w.alloc (.cells (madeCells #[.int .i64 0, .int .i64 0, .string ⟨#[]⟩, .slice none 0 0, .slice none 0 0] ((n + 1) * 5)) 28)) 26 3 28 i9 w.heap.size n (n + 1) ⟨b, o, none⟩ c _ 28 cs Tryz.underlying26 hi9 (heap_alloc_new w _) (by rw [hz1]; omega) (fun j v hj => by
      rw [add_lit]; exact cell_alloc' (hs j v hj) _) (by rw [size_madeCells]; omega) h1
    rw [World.setRow_alloc_new] at hcp
    have hsz : (cs ++ (madeCells #[Value.int .i64 0, .int .i64 0, .string ⟨#[]⟩, .slice none 0 0, .slice none 0 0] ((n + 1) * 5)).toList.drop cs.length).toArray.size = (n + 1) * 5 := by simp [size_madeCells]; omega
    have htk : (cs ++ (madeCells #[Value.int .i64 0, .int .i64 0, .string ⟨#[]⟩, .slice none 0 0, .slice none 0 0] ((n + 1) * 5)).toList.drop cs.length).toArray.toList.take (n * 5) = cs := by simp [← hn]
    generalize (cs ++ (madeCells #[Value.int .i64 0, .int .i64 0, .string ⟨#[]⟩, .slice none 0 0, .slice none 0 0] ((n + 1) * 5)).toList.drop cs.length).toArray = cur at *
    clear hs
    go_enter Tryz.func206, Tryz.ntmps206
    go_wp2
    go_ret
    exact ⟨rfl, _, rfl, hsz, htk⟩

set_option maxHeartbeats 1000000 in
set_option maxRecDepth 100000 in
theorem bare6 (x : Int) (tx : ByteArray) (an : Option Addr) (ln cn : Nat) (ai : Option Addr) (li ci n : Nat) (hm : min ln li = n) (hn : ln ≤ cn) (hi : li ≤ ci) (w : World) :
    Calls Tryz.prog 169 #[.agg #[.int .i64 6, .int .i64 x, .string tx, .slice an ln cn, .slice ai li ci]] w fun e w' => e = .returned (.agg #[.int .i64 6, .int .i64 0, .string ⟨#[]⟩, .slice an n cn, .slice ai n ci]) ∧
      w' = ((w.alloc (.cells #[.int .i64 6, .int .i64 x, .string tx, .slice an ln cn, .slice ai li ci] 28)).alloc (.cells #[.int .i64 6, .int .i64 0, .string ⟨#[]⟩, .slice an n cn, .slice ai n ci] 28)).drew := by
  have hmI : min (ln : Int) (li : Int) = (n : Int) := by omega
  have h1 : n ≤ cn := by omega
  have h2 : n ≤ ci := by omega
  go_enter Tryz.func169, Tryz.ntmps169
  go_wp2
  go_region
  go_wp2
  go_returns
  exact ⟨rfl, rfl⟩
set_option maxHeartbeats 1000000 in
set_option maxRecDepth 100000 in
theorem bare5 (x : Int) (tx : ByteArray) (an : Option Addr) (ln cn : Nat) (ai : Option Addr) (li ci : Nat) (w : World) :
    Calls Tryz.prog 169 #[.agg #[.int .i64 5, .int .i64 x, .string tx, .slice an ln cn, .slice ai li ci]] w fun e w' => e = .returned (.agg #[.int .i64 5, .int .i64 0, .string ⟨#[]⟩, .slice none 0 0, .slice ai li ci]) ∧
      w' = ((w.alloc (.cells #[.int .i64 5, .int .i64 x, .string tx, .slice an ln cn, .slice ai li ci] 28)).alloc (.cells #[.int .i64 5, .int .i64 0, .string ⟨#[]⟩, .slice none 0 0, .slice ai li ci] 28)) := by
  go_enter Tryz.func169, Tryz.ntmps169
  go_wp2
  go_returns
  exact ⟨rfl, rfl⟩
set_option maxHeartbeats 1000000 in
set_option maxRecDepth 100000 in
theorem bare_none (k x : Int) (tx : ByteArray) (an : Option Addr) (ln cn : Nat) (ai : Option Addr) (li ci : Nat) (h5 : k ≠ 5) (h6 : k ≠ 6) (w : World) :
    Calls Tryz.prog 169 #[.agg #[.int .i64 k, .int .i64 x, .string tx, .slice an ln cn, .slice ai li ci]] w fun e w' => e = .returned (.agg #[.int .i64 k, .int .i64 0, .string ⟨#[]⟩, .slice none 0 0, .slice none 0 0]) ∧
      w' = ((w.alloc (.cells #[.int .i64 k, .int .i64 x, .string tx, .slice an ln cn, .slice ai li ci] 28)).alloc (.cells #[.int .i64 k, .int .i64 0, .string ⟨#[]⟩, .slice none 0 0, .slice none 0 0] 28)) := by
  have hk6 : (k == 6) = false := by simpa using h6
  have hk5 : (k == 5) = false := by simpa using h5
  go_enter Tryz.func169, Tryz.ntmps169
  go_wp2
  go_returns
  exact ⟨rfl, rfl⟩
/-- What anew answers: lists of its own, with room. -/
def Anew (w : World) (k : Int) (n : Nat) (ns cs : List Value) (e : Ending) (w' : World) : Prop :=
  Below w.heap.size w w' ∧ ∃ nm gi, e = .returned (.agg #[.int .i64 k, .int .i64 0, .string ⟨#[]⟩, nm, .slice (some ⟨gi, 0, none⟩) n (n + 1)]) ∧ w'.ownsRow w.heap.size 28 5 (.slice (some ⟨gi, 0, none⟩) n (n + 1)) n cs ∧
    ((k = 5 ∧ nm = .slice none 0 0) ∨ (k = 6 ∧ ∃ gn, gn ≠ gi ∧ nm = .slice (some ⟨gn, 0, none⟩) n (n + 1) ∧ w'.ownsRow w.heap.size 9 1 (.slice (some ⟨gn, 0, none⟩) n (n + 1)) n ns))
set_option maxHeartbeats 2000000 in
set_option maxRecDepth 100000 in
theorem anew6 (x : Int) (tx : ByteArray) (an : Option Addr) (ln cn : Nat) (ai : Option Addr) (li ci n : Nat) (ns cs : List Value) (hm : min ln li = n) (hcn : ln ≤ cn) (hci : li ≤ ci) (hns : ns.length = n) (hcs : cs.length = n * 5) (hb : (n + 1) * 80 ≤ 281474976710656) (n1 : ∀ v ∈ ns, v.oneCell' = true) (c1 : ∀ v ∈ cs, v.oneCell' = true) (w : World) (hN : LiesAt w an ns) (hI : LiesAt w ai cs) :
    Calls Tryz.prog 172 #[.agg #[.int .i64 6, .int .i64 x, .string tx, .slice an ln cn, .slice ai li ci]] w (Anew w 6 n ns cs) := by
  have hI' : ∀ p1 p2 p3 p4, LiesAt ((((w.alloc p1).alloc p2).alloc p3).alloc p4).drew ai cs := fun p1 p2 p3 p4 => hI.keep (below_drew ((((Below.refl _ w).alloc (Nat.le_refl _) p1).alloc (by simp) p2 |>.alloc (by simp; omega) p3).alloc (by simp; omega) p4))
  have hN' : ∀ p1 p2 p3 p4 p5, LiesAt (((((w.alloc p1).alloc p2).alloc p3).alloc p4).alloc p5).drew an ns := fun p1 p2 p3 p4 p5 => hN.keep (below_drew (((((Below.refl _ w).alloc (Nat.le_refl _) p1).alloc (by simp) p2 |>.alloc (by simp; omega) p3).alloc (by simp; omega) p4).alloc (by simp; omega) p5))
  have hH : ∀ p1 p2 p3 p4 p5 p6, Below w.heap.size w ((((((w.alloc p1).alloc p2).alloc p3).alloc p4).alloc p5).alloc p6).drew := fun p1 p2 p3 p4 p5 p6 => below_drew ((((((Below.refl _ w).alloc (Nat.le_refl _) p1).alloc (by simp) p2 |>.alloc (by simp; omega) p3).alloc (by simp; omega) p4).alloc (by simp; omega) p5).alloc (by simp; omega) p6)
  have hl5 : ∀ p1 p2 p3 p4 p5 p6, ((((((w.alloc p1).alloc p2).alloc p3).alloc p4).alloc p5).alloc p6).drew.heap[w.heap.size + 1 + 1 + 1 + 1]? = some p5 := fun p1 p2 p3 p4 p5 p6 => (Below.heap_alloc _ _ _ (by simp)).trans (heap_new' (by simp))
  have hl6 : ∀ p1 p2 p3 p4 p5 p6, ((((((w.alloc p1).alloc p2).alloc p3).alloc p4).alloc p5).alloc p6).drew.heap[w.heap.size + 1 + 1 + 1 + 1 + 1]? = some p6 := fun p1 p2 p3 p4 p5 p6 => heap_new' (by simp)
  clear hN hI
  go_enter Tryz.func172, Tryz.ntmps172
  go_wp2_with fail
  refine (bare6 x tx an ln cn ai li ci n hm hcn hci _).mono ?_
  rintro e w1 ⟨rfl, rfl⟩
  go_wp2_with fail
  refine (copied_vn ai n ci cs _ hcs hb c1 (hI' _ _ _ _)).mono ?_
  rintro e w1 ⟨rfl, curI, rfl, hsI, htI⟩
  clear hI'
  go_wp2_with fail
  refine (copied_sn an n cn ns _ hns (by omega) n1 (hN' _ _ _ _ _)).mono ?_
  rintro e w1 ⟨rfl, curN, rfl, hsN, htN⟩
  clear hN'
  go_wp2_with fail
  go_returns
  refine ⟨hH _ _ _ _ _ _, _, _, rfl, ⟨hcs, .inr ⟨_, _, curI, rfl, by omega, hl5 _ _ _ _ _ _, by omega, by unfold maxLen; omega, hsI, htI⟩⟩, .inr ⟨rfl, _, by omega, rfl, ⟨by omega, .inr ⟨_, _, curN, rfl, by omega, hl6 _ _ _ _ _ _, by omega, by unfold maxLen; omega, by omega, by simpa using htN⟩⟩⟩⟩
set_option maxHeartbeats 2000000 in
set_option maxRecDepth 100000 in
theorem anew5 (x : Int) (tx : ByteArray) (an : Option Addr) (ln cn : Nat) (ai : Option Addr) (n ci : Nat) (ns cs : List Value) (hcs : cs.length = n * 5) (hb : (n + 1) * 80 ≤ 281474976710656) (c1 : ∀ v ∈ cs, v.oneCell' = true) (w : World) (hI : LiesAt w ai cs) :
    Calls Tryz.prog 172 #[.agg #[.int .i64 5, .int .i64 x, .string tx, .slice an ln cn, .slice ai n ci]] w (Anew w 5 n ns cs) := by
  have hI' : ∀ p1 p2 p3 p4, LiesAt ((((w.alloc p1).alloc p2).alloc p3).alloc p4) ai cs := fun p1 p2 p3 p4 => hI.keep ((((Below.refl _ w).alloc (Nat.le_refl _) p1).alloc (by simp) p2 |>.alloc (by simp; omega) p3).alloc (by simp; omega) p4)
  have hH : ∀ p1 p2 p3 p4 p5, Below w.heap.size w (((((w.alloc p1).alloc p2).alloc p3).alloc p4).alloc p5) := fun p1 p2 p3 p4 p5 => ((((Below.refl _ w).alloc (Nat.le_refl _) p1).alloc (by simp) p2 |>.alloc (by simp; omega) p3).alloc (by simp; omega) p4).alloc (by simp; omega) p5
  have hl5 : ∀ p1 p2 p3 p4 p5, (((((w.alloc p1).alloc p2).alloc p3).alloc p4).alloc p5).heap[w.heap.size + 1 + 1 + 1 + 1]? = some p5 := fun p1 p2 p3 p4 p5 => heap_new' (by simp)
  clear hI
  go_enter Tryz.func172, Tryz.ntmps172
  go_wp2_with fail
  refine (bare5 x tx an ln cn ai n ci _).mono ?_
  rintro e w1 ⟨rfl, rfl⟩
  go_wp2_with fail
  refine (copied_vn ai n ci cs _ hcs hb c1 (hI' _ _ _ _)).mono ?_
  rintro e w1 ⟨rfl, curI, rfl, hsI, htI⟩
  clear hI'
  go_wp2_with fail
  go_returns
  refine ⟨hH _ _ _ _ _, _, _, rfl, ⟨hcs, .inr ⟨_, _, curI, rfl, by omega, hl5 _ _ _ _ _, by omega, by unfold maxLen; omega, hsI, htI⟩⟩, .inl ⟨rfl, rfl⟩⟩
end Go.Proofs.YthgnkhpomhcdkaaGreatDoor
/-! Taken over from r4b/S2. -/
namespace Go.Proofs.YthgnkhpomhcdkaaGreatDoor
open Go Go.RowKit Dp

/-- What anew keeps. -/
def keepNs (k : Int) (ns : List ByteArray) (its : List Tr) : List ByteArray := if k = 6 then ns.take (min ns.length its.length) else []
def keepIts (k : Int) (ns : List ByteArray) (its : List Tr) : List Tr := if k = 6 then its.take (min ns.length its.length) else its
/-- A turn, with X as its item. -/
def withT (k : Int) (ns : List ByteArray) (its : List Tr) (sg : ByteArray) (m : Nat) (X : Tr) : Tr :=
  if m < (keepIts k ns its).length then .node k 0 ⟨#[]⟩ (keepNs k ns its) ((keepIts k ns its).set m X)
  else .node k 0 ⟨#[]⟩ (if k = 6 then keepNs k ns its ++ [sg] else []) (keepIts k ns its ++ [X])
theorem five_ones {k x : Int} {s : ByteArray} {an : Option Addr} {ln cn : Nat} {ai : Option Addr} {li ci : Nat} : ∀ v ∈ five k x s (.slice an ln cn) (.slice ai li ci), v.oneCell' = true := by simp [five, Value.oneCell']
theorem ItemsRep.length {W : World} : {ts : List Tr} → {xs : List Value} → ItemsRep W ts xs → xs.length = ts.length * 5
  | [], xs, h => by unfold ItemsRep at h; subst h; rfl
  | t :: ts, xs, h => by
    unfold ItemsRep at h
    obtain ⟨cs, r, rfl, h1, _, h3⟩ := h
    rw [List.length_append, h1, h3.length, List.length_cons]; omega
theorem ItemsRep.ones {W : World} : {ts : List Tr} → {xs : List Value} → ItemsRep W ts xs → ∀ v ∈ xs, v.oneCell' = true
  | [], xs, h => by unfold ItemsRep at h; subst h; simp
  | t :: ts, xs, h => by
    unfold ItemsRep at h
    obtain ⟨cs, r, rfl, h1, h2, h3⟩ := h
    intro v hv
    rcases List.mem_append.1 hv with hv | hv
    · obtain ⟨_, _, _, _, _, _, _, _, _, rfl⟩ := vrep_five h2
      exact five_ones v hv
    · exact h3.ones v hv
theorem ItemsRep.mono {W W' : World} (hk : ∀ p u, W.cell? p = some u → W'.cell? p = some u) (hs : W.heap.size ≤ W'.heap.size) : {ts : List Tr} → {xs : List Value} → ItemsRep W ts xs → ItemsRep W' ts xs
  | [], xs, h => by unfold ItemsRep at *; exact h
  | t :: ts, xs, h => by
    unfold ItemsRep at *
    obtain ⟨cs, r, rfl, h1, h2, h3⟩ := h
    exact ⟨cs, r, rfl, h1, VRep.mono hk hs t cs h2, h3.mono hk hs⟩
theorem ItemsRep.take {W : World} : {ts : List Tr} → {xs : List Value} → (n : Nat) → ItemsRep W ts xs → ItemsRep W (ts.take n) (xs.take (n * 5))
  | [], xs, n, h => by unfold ItemsRep at h; subst h; simp [ItemsRep]
  | t :: ts, xs, 0, h => by simp [ItemsRep]
  | t :: ts, xs, n + 1, h => by
    unfold ItemsRep at h
    obtain ⟨cs, r, rfl, h1, h2, h3⟩ := h
    rw [List.take_succ_cons]
    unfold ItemsRep
    refine ⟨cs, r.take (n * 5), ?_, h1, h2, h3.take n⟩
    rw [List.take_append, h1, List.take_of_length_le (by omega), show (n + 1) * 5 - 5 = n * 5 by omega]
theorem ItemsRep.set {W : World} {X : Tr} {k x : Int} {s : ByteArray} {nm it : Value} (hX : VRep W X (five k x s nm it)) : {ts : List Tr} → {xs : List Value} → (m : Nat) → m < ts.length → ItemsRep W ts xs → ItemsRep W (ts.set m X) (((((xs.set (m * 5) (.int .i64 k)).set (m * 5 + 1) (.int .i64 x)).set (m * 5 + 2) (.string s)).set (m * 5 + 3) nm).set (m * 5 + 4) it)
  | [], xs, m, hm, h => by simp at hm
  | t :: ts, xs, 0, hm, h => by
    unfold ItemsRep at h
    obtain ⟨cs, r, rfl, h1, h2, h3⟩ := h
    obtain ⟨_, _, _, _, _, _, _, _, _, rfl⟩ := vrep_five h2
    rw [List.set_cons_zero]
    unfold ItemsRep
    exact ⟨five k x s nm it, r, rfl, rfl, hX, h3⟩
  | t :: ts, xs, m + 1, hm, h => by
    unfold ItemsRep at h
    obtain ⟨cs, r, rfl, h1, h2, h3⟩ := h
    rw [List.set_cons_succ]
    unfold ItemsRep
    refine ⟨cs, _, ?_, h1, h2, h3.set hX m (by simpa using hm)⟩
    rw [List.set_append_right _ _ (by omega), List.set_append_right _ _ (by omega), List.set_append_right _ _ (by omega), List.set_append_right _ _ (by omega), List.set_append_right _ _ (by omega), h1,
      show (m + 1) * 5 - 5 = m * 5 by omega, show (m + 1) * 5 + 1 - 5 = m * 5 + 1 by omega, show (m + 1) * 5 + 2 - 5 = m * 5 + 2 by omega, show (m + 1) * 5 + 3 - 5 = m * 5 + 3 by omega, show (m + 1) * 5 + 4 - 5 = m * 5 + 4 by omega]
/-- The items of a value, as cells. -/
theorem VRepL.items {w : World} {b : Nat} : (its : List Tr) → (o : Nat) → VRepL w b o its → ∃ xs, ItemsRep w its xs ∧ CellsAt w b o xs
  | [], o, _ => ⟨[], by unfold ItemsRep; rfl, fun j u hj => by simp at hj⟩
  | t :: ts, o, h => by
    unfold VRepL at h
    obtain ⟨cs, h1, h2, h3⟩ := h
    obtain ⟨r, h4, h5⟩ := VRepL.items ts (o + 5) h3
    have hl : cs.length = 5 := by obtain ⟨_, _, _, _, _, _, _, _, _, rfl⟩ := vrep_five h2; rfl
    refine ⟨cs ++ r, by unfold ItemsRep; exact ⟨cs, r, rfl, hl, h2, h4⟩, fun j u hj => ?_⟩
    rcases Nat.lt_or_ge j cs.length with hj' | hj'
    · rw [List.getElem?_append_left hj'] at hj; exact h1 j u hj
    · rw [List.getElem?_append_right hj', hl] at hj
      have := h5 (j - 5) u hj
      rwa [show o + 5 + (j - 5) = o + j by omega] at this
theorem CellsAt.take {w : World} {b o : Nat} {xs : List Value} (h : CellsAt w b o xs) (n : Nat) : CellsAt w b o (xs.take n) := fun j u hj => h j u (by
  rw [List.getElem?_take] at hj
  split at hj
  · exact hj
  · cases hj)
theorem LiesAt.take {w : World} {a : Option Addr} {xs : List Value} (h : LiesAt w a xs) (n : Nat) : LiesAt w a (xs.take n) := by
  rcases h with rfl | ⟨b, o, e, h⟩
  · exact .inl (by simp)
  · exact .inr ⟨b, o, e, h.take n⟩
/-- A value taken apart. -/
theorem VRep.parts {w : World} {k x : Int} {s : ByteArray} {ns : List ByteArray} {its : List Tr} {cs : List Value} (h : VRep w (.node k x s ns its) cs) : ∃ an cn ai ci xs, cs = five k x s (.slice an ns.length cn) (.slice ai its.length ci) ∧ (ns.length ≤ cn ∧ cn ≤ 9223372036854775807) ∧ (its.length ≤ ci ∧ ci ≤ 9223372036854775807) ∧ LiesAt w an (strs ns) ∧ LiesAt w ai xs ∧ ItemsRep w its xs := by
  unfold VRep at h
  obtain ⟨nm, a, c, rfl, ⟨an, cn, rfl, hcn, hN⟩, hc, hI⟩ := h
  have hN' : LiesAt w an (strs ns) := by
    rcases hN with rfl | ⟨b, o, rfl, _, hN⟩
    · exact .inl rfl
    · refine .inr ⟨b, o, rfl, fun j u hj => ?_⟩
      unfold strs at hj
      rw [List.getElem?_map] at hj
      cases hy : ns[j]? with
      | none => rw [hy] at hj; cases hj
      | some y => rw [hy] at hj; cases hj; exact hN j y hy
  rcases hI with rfl | ⟨b, o, rfl, _, hI⟩
  · exact ⟨an, cn, a, c, [], rfl, hcn, hc, hN', .inl rfl, by unfold ItemsRep; rfl⟩
  · obtain ⟨xs, h1, h2⟩ := VRepL.items its o hI
    exact ⟨an, cn, _, c, xs, rfl, hcn, hc, hN', .inr ⟨b, o, rfl, h2⟩, h1⟩
/-- A value put together. -/
theorem vrep_make {W : World} {k : Int} {ns : List ByteArray} {its : List Tr} {nm : Value} {gi ci lo : Nat} {xs : List Value} (hN : Reads W nm ns) (hI : ItemsRep W its xs) (hc : CellsAt W gi 0 xs) (hl : its.length ≤ ci ∧ ci ≤ 9223372036854775807) (hg : gi < W.heap.size) (_ : lo ≤ gi) :
    VRep W (.node k 0 ⟨#[]⟩ ns its) (five k 0 ⟨#[]⟩ nm (.slice (some ⟨gi, 0, none⟩) its.length ci)) := by
  unfold VRep
  exact ⟨nm, _, ci, rfl, hN, hl, .inr ⟨gi, 0, rfl, hg, ItemsRep.list its xs 0 hI hc⟩⟩
theorem strs_take (ns : List ByteArray) (n : Nat) : (strs ns).take n = strs (ns.take n) := by unfold strs; rw [List.map_take]
/-- All cells of the one world are cells of the other. -/
structure Sub (w0 w : World) : Prop where
  size : w0.heap.size ≤ w.heap.size
  cell : ∀ p u, w0.cell? p = some u → w.cell? p = some u
theorem Sub.of {w0 w : World} (h : Below w0.heap.size w0 w) : Sub w0 w := ⟨h.size, fun _ _ hc => stay h hc⟩
theorem Sub.below {w0 w W : World} (h : Sub w0 w) (hb : Below w.heap.size w W) : Sub w0 W := ⟨Nat.le_trans h.size hb.size, fun p u hc => stay hb (h.cell p u hc)⟩
theorem LiesAt.sub {w w' : World} {a : Option Addr} {cs : List Value} (h : LiesAt w a cs) (hb : Sub w w') : LiesAt w' a cs := by
  rcases h with h | ⟨b, o, e, hc⟩
  · exact .inl h
  · exact .inr ⟨b, o, e, fun j u hj => hb.cell _ _ (hc j u hj)⟩
/-- The row of an answer, as it is read. -/
theorem with_fin {w0 w W : World} {S : Nat → Prop} {k : Int} {ns : List ByteArray} {its : List Tr} {nm : Value} {gi ci : Nat} {xs : List Value} (h0 : Sub w0 w) (hS : ∀ p u, w0.cell? p = some u → S p.block) (hB : Below w.heap.size w W)
    (hrow : W.ownsRow w.heap.size 28 5 (.slice (some ⟨gi, 0, none⟩) its.length ci) its.length xs) (hN : SeenR W (fun k => w.heap.size ≤ k) nm ns)
    (hI : ∀ W', (∀ p u, w0.cell? p = some u → W'.cell? p = some u) → w0.heap.size ≤ W'.heap.size → Agree (fun k => S k ∨ w.heap.size ≤ k) W W' → ItemsRep W' its xs) :
    Seen W (fun k => S k ∨ w.heap.size ≤ k) (.node k 0 ⟨#[]⟩ ns its) (five k 0 ⟨#[]⟩ nm (.slice (some ⟨gi, 0, none⟩) its.length ci)) := fun W' ha => by
  obtain ⟨hc, hlt, hge, hle⟩ := owns_cells hrow
  refine vrep_make (lo := 0) (hN W' ⟨ha.1, fun p u hp hc => ha.2 p u (.inr hp) hc⟩) (hI W' (fun p u hc => ?_) (Nat.le_trans h0.size (Nat.le_trans hB.size ha.1)) ha) (fun j u hj => ha.2 _ _ (.inr hge) (hc j u hj)) (row_cap hrow) (Nat.lt_of_lt_of_le hlt ha.1) (Nat.zero_le _)
  exact ha.2 p u (.inl (hS p u hc)) (stay hB (h0.cell p u hc))
end Go.Proofs.YthgnkhpomhcdkaaGreatDoor
/-! Taken over from r4b/S3. -/
namespace Go.Proofs.YthgnkhpomhcdkaaGreatDoor
open Go Go.RowKit Dp

/-- What with answers. -/
def WithPost (w : World) (S : Nat → Prop) (R : Tr) (e : Ending) (w' : World) : Prop :=
  Below w.heap.size w w' ∧ ∃ cs k9 x9 s9 a9 l9 d9 i9 j9 e9, e = .returned (.agg cs.toArray) ∧ cs = five k9 x9 s9 (.slice a9 l9 d9) (.slice i9 j9 e9) ∧ Seen w' (fun k => S k ∨ w.heap.size ≤ k) R cs
theorem row_at5 {W : World} {lo : Nat} {e : TypeId} {g n cap : Nat} {xs : List Value} (h : W.ownsRow lo e 5 (.slice (some ⟨g, 0, none⟩) n cap) n xs) (j : Nat) (hj : j < n * 5) : ∃ u, W.cell? ⟨g, j, none⟩ = some u := by
  refine ⟨xs[j]'(by rw [h.1]; omega), ?_⟩
  have := h.cellAt j hj
  rw [List.getElem?_eq_getElem (by rw [h.1]; omega)] at this
  exact this
set_option maxHeartbeats 600000 in
set_option maxRecDepth 100000 in
theorem with_set (k x : Int) (tx : ByteArray) (an : Option Addr) (ln cn : Nat) (ai : Option Addr) (li ci : Nat) (sg : ByteArray) (m n : Nat) (hm : m < n) (k1 x1 : Int) (s1 : ByteArray) (an1 : Option Addr) (ln1 cn1 : Nat) (ai1 : Option Addr) (li1 ci1 : Nat) (ns : List ByteArray) (its : List Tr) (hn : its.length = n) (xs : List Value) (X : Tr) (S : Nat → Prop) (w0 w : World) (h0 : Sub w0 w) (hS : ∀ p u, w0.cell? p = some u → S p.block)
    (hI : ItemsRep w0 its xs) (hX : Seen w S X (five k1 x1 s1 (.slice an1 ln1 cn1) (.slice ai1 li1 ci1)))
    (hA : ∀ W, Below w.heap.size w W → Calls Tryz.prog 172 #[.agg #[.int .i64 k, .int .i64 x, .string tx, .slice an ln cn, .slice ai li ci]] W (Anew W k n (strs ns) xs)) (hk : k = 5 → ns = []) (hk6 : k = 6 → ns.length = n) :
    Calls Tryz.prog 171 #[.agg #[.int .i64 k, .int .i64 x, .string tx, .slice an ln cn, .slice ai li ci, .string sg, .int .i64 m], .agg #[.int .i64 k1, .int .i64 x1, .string s1, .slice an1 ln1 cn1, .slice ai1 li1 ci1]] w (WithPost w S (.node k 0 ⟨#[]⟩ ns (its.set m X))) := by
  have hB3 : ∀ p1 p2 p3, Below w.heap.size w (((w.alloc p1).alloc p2).alloc p3) := fun p1 p2 p3 => ((Below.refl _ w).alloc (Nat.le_refl _) p1).alloc (by simp) p2 |>.alloc (by simp; omega) p3
  have hn0 : ∀ o1 o2 o3, (((w.alloc o1).alloc o2).alloc o3).heap[w.heap.size]? = some o1 := fun o1 o2 o3 => (Below.heap_alloc _ _ _ (by simp; omega)).trans (new1 w o1 o2)
  have hn1 : ∀ o1 o2 o3, (((w.alloc o1).alloc o2).alloc o3).heap[w.heap.size + 1]? = some o2 := fun o1 o2 o3 => (Below.heap_alloc _ _ _ (by simp)).trans (new2 w o1 o2)
  have hn2 : ∀ o1 o2 o3, (((w.alloc o1).alloc o2).alloc o3).heap[w.heap.size + 1 + 1]? = some o3 := fun o1 o2 o3 => heap_new' (by simp)
  have hA' := fun p1 p2 p3 => hA _ (hB3 p1 p2 p3)
  clear hA
  go_enter Tryz.func171, Tryz.ntmps171
  go_wp2_with fail
  refine (hA' _ _ _).mono ?_
  rintro e w4 ⟨hb4, nm, gi, rfl, hrow, hnm⟩
  clear hA'
  have t0 := (hb4.block _ (by simp; omega)).trans (hn0 _ _ _)
  have t1 := (hb4.block _ (by simp)).trans (hn1 _ _ _)
  have t2 := (hb4.block _ (by simp)).trans (hn2 _ _ _)
  have HB : Below w.heap.size w w4 := (hB3 _ _ _).trans (hb4.mono (by simp; omega))
  have hsz : w.heap.size + 3 ≤ w4.heap.size := by have := hb4.size; simp at this; omega
  simp only [World.size_alloc] at hrow hnm
  clear hb4 hB3 hn0 hn1 hn2
  have hgi := ownsRow_ge hrow (g := gi) rfl
  have hnmS : SeenR w4 (fun k => w.heap.size + 1 + 1 + 1 ≤ k ∧ k ≠ gi) nm ns := by
    rcases hnm with ⟨rfl, rfl⟩ | ⟨rfl, gn, hne, rfl, hnr⟩
    · rw [hk rfl]; exact fun W' _ => ⟨none, 0, rfl, ⟨Nat.le_refl _, by omega⟩, .inl rfl⟩
    · obtain rfl := hk6 rfl
      exact fun W' ha => own_reads hnr (show _ ∧ _ from ⟨(ownsRow_ge hnr (g := gn) rfl).1, hne⟩) ha
  obtain ⟨anm, lnm, cnm, rfl⟩ : ∃ a l c, nm = .slice a l c := by
    rcases hnm with ⟨_, rfl⟩ | ⟨_, gn, _, rfl, _⟩
    · exact ⟨_, _, _, rfl⟩
    · exact ⟨_, _, _, rfl⟩
  clear hnm hk hk6
  obtain ⟨W5, hW5⟩ : ∃ W5, Hid (w4.alloc (.cells #[.int .i64 k, .int .i64 0, .string ⟨#[]⟩, .slice anm lnm cnm, .slice (some ⟨gi, 0, none⟩) n (n + 1)] 28) = W5) := ⟨_, rfl⟩
  have hb5 : Below w4.heap.size w4 W5 := by rw [← hW5.out]; exact (Below.refl _ w4).alloc (Nat.le_refl _) _
  have hs5 : W5.heap.size = w4.heap.size + 1 := by rw [← hW5.out]; simp
  have t5 : W5.heap[w4.heap.size]? = some (.cells #[.int .i64 k, .int .i64 0, .string ⟨#[]⟩, .slice anm lnm cnm, .slice (some ⟨gi, 0, none⟩) n (n + 1)] 28) := by rw [← hW5.out]; exact heap_alloc_new w4 _
  replace t0 := (hb5.block _ (by omega)).trans t0
  replace t1 := (hb5.block _ (by omega)).trans t1
  replace t2 := (hb5.block _ (by omega)).trans t2
  replace hrow := ownsRow_below hrow hb5
  have i6 : W5.cell? ⟨w.heap.size, 6, none⟩ = some (.int .i64 m) := by simp [World.cell?, t0]
  obtain ⟨y0, y1, y2, y3, y4, -⟩ := row_cells t1
  have v4' : W5.cell? ⟨w4.heap.size, 4, none⟩ = some (.slice (some ⟨gi, 0, none⟩) n (n + 1)) := by simp [World.cell?, t5]
  obtain ⟨u0, c0⟩ := row_at5 hrow (m * 5) (by omega)
  have f0 := hrow.frozenAt (m * 5)
  obtain ⟨u1, c1⟩ := row_at5 hrow (m * 5 + 1) (by omega)
  have f1 := hrow.frozenAt (m * 5 + 1)
  obtain ⟨u2, c2⟩ := row_at5 hrow (m * 5 + 2) (by omega)
  have f2 := hrow.frozenAt (m * 5 + 2)
  obtain ⟨u3, c3⟩ := row_at5 hrow (m * 5 + 3) (by omega)
  have f3 := hrow.frozenAt (m * 5 + 3)
  obtain ⟨u4, c4⟩ := row_at5 hrow (m * 5 + 4) (by omega)
  have f4 := hrow.frozenAt (m * 5 + 4)
  obtain ⟨W6, hW6⟩ : ∃ W6, Hid ((((((W5.setCell ⟨gi, m * 5, none⟩ (.int .i64 k1)).setCell ⟨gi, m * 5 + 1, none⟩ (.int .i64 x1)).setCell ⟨gi, m * 5 + 2, none⟩ (.string s1)).setCell ⟨gi, m * 5 + 3, none⟩ (.slice an1 ln1 cn1)).setCell ⟨gi, m * 5 + 4, none⟩ (.slice ai1 li1 ci1)) = W6) := ⟨_, rfl⟩
  have r6 := (((((hrow.stored (m * 5) (.int .i64 k1)).1.stored (m * 5 + 1) (.int .i64 x1)).1.stored (m * 5 + 2) (.string s1)).1.stored (m * 5 + 3) (.slice an1 ln1 cn1)).1.stored (m * 5 + 4) (.slice ai1 li1 ci1)).1
  rw [hW6.out] at r6
  have k6 : ∀ j, j ≠ gi → W6.heap[j]? = W5.heap[j]? := fun j hj => by rw [← hW6.out]; exact (Below.heap_setCell _ _ _ _ hj).trans ((Below.heap_setCell _ _ _ _ hj).trans ((Below.heap_setCell _ _ _ _ hj).trans ((Below.heap_setCell _ _ _ _ hj).trans (Below.heap_setCell _ _ _ _ hj))))
  have s6 : W6.heap.size = W5.heap.size := by rw [← hW6.out]; simp [World.setCell]
  have B5 : Below w.heap.size w W5 := HB.trans (hb5.mono HB.size)
  have B6 : Below w.heap.size w W6 := ⟨by rw [← hW6.out]; exact B5.os, by rw [← hW6.out]; exact B5.tape, by rw [← hW6.out]; exact B5.output, by rw [s6]; exact B5.size, fun j hj => (k6 j (by omega)).trans (B5.block j hj)⟩
  have t56 := (k6 _ (by omega)).trans t5
  have t26 := (k6 _ (by omega)).trans t2
  obtain ⟨v0, v1, v2, v3, v4, -⟩ := row_cells t56
  obtain ⟨z0, z1, z2, z3, z4, zf⟩ := row_cells t26
  have g0 := zf 0; have g1 := zf 1; have g2 := zf 2; have g3 := zf 3; have g4 := zf 4
  clear zf
  have nm6 : SeenR W6 (fun k => w.heap.size + 1 + 1 + 1 ≤ k ∧ k ≠ gi) (.slice anm lnm cnm) ns := fun W' ha => hnmS W' ⟨by have := ha.1; omega, fun p u hp hc => ha.2 p u hp ((World.cell?_of_block (w := W5) (k6 p.block hp.2)).trans ((hb5.cell (cell_lt hc)).trans hc))⟩
  have hd : decide ((m : Int) < (n : Int)) = true := by simp; omega
  have i1 : (m : Int) < (n : Int) := by omega
  have i2 : (0 : Int) ≤ (m : Int) := by omega
  replace nm6 := hid_of nm6; replace r6 := hid_of r6; replace t26 := hid_of t26; replace B6 := hid_of B6; replace s6 := hid_of s6; replace hs5 := hid_of hs5; replace hsz := hid_of hsz
  replace hX := hid_of hX; replace hI := hid_of hI; replace h0 := hid_of h0; replace HB := hid_of HB; replace hS := hid_of hS; replace hgi := hid_of hgi
  clear k6 B5 hb5 t5 t2 t1 t0 hnmS hrow t56
  go_wp2_with (first | rw [hW5.out] | rw [hW6.out])
  have hr := put5_cells t26.out (.int .i64 k) (.int .i64 0) (.string ⟨#[]⟩) (.slice anm lnm cnm) (.slice (some ⟨gi, 0, none⟩) n (n + 1))
  have q0 := hr 0; have q1 := hr 1; have q2 := hr 2; have q3 := hr 3; have q4 := hr 4
  clear hr
  refine bodyPost_ret (v := .agg #[.int .i64 k, .int .i64 0, .string ⟨#[]⟩, .slice anm lnm cnm, .slice (some ⟨gi, 0, none⟩) n (n + 1)]) (by simp [results, Tryz.results171, go_sem, q0, q1, q2, q3, q4]) rfl ?_
  clear q0 q1 q2 q3 q4 z0 z1 z2 z3 z4 g0 g1 g2 g3 g4 v0 v1 v2 v3 v4
  have hgi1 := hgi.out; have hsz1 := hsz.out; have hs51 := hs5.out; have s61 := s6.out
  have hBf : Below w.heap.size w (put5 W6 (w.heap.size + 1 + 1) (.int .i64 k) (.int .i64 0) (.string ⟨#[]⟩) (.slice anm lnm cnm) (.slice (some ⟨gi, 0, none⟩) n (n + 1))) := B6.out.trans (put5_below (by omega) _ _ _ _ _)
  refine ⟨hBf, five k 0 ⟨#[]⟩ (.slice anm lnm cnm) (.slice (some ⟨gi, 0, none⟩) n (n + 1)), _, _, _, _, _, _, _, _, _, rfl, rfl, ?_⟩
  have hlen : (its.set m X).length = n := by rw [List.length_set]; exact hn
  have hfin := with_fin (k := k) (ns := ns) (its := its.set m X) (nm := .slice anm lnm cnm) (gi := gi) (ci := n + 1) h0.out hS.out hBf (by
    rw [hlen]
    exact ownsRow_keep (ownsRow_lo r6.out (by omega)) (fun g hg => by cases hg; exact put5_far _ _ _ _ _ (show gi ≠ w.heap.size + 1 + 1 by omega))) (fun W' ha => nm6.out W' ⟨by have := ha.1; rw [put5_size] at this; exact this, fun p u hp hc => ha.2 p u (show w.heap.size ≤ p.block by have := hp.1; omega) ((World.cell?_of_block (w := W6) (put5_far _ _ _ _ _ (show p.block ≠ w.heap.size + 1 + 1 by have := hp.1; omega))).trans hc)⟩) (fun W' hk hs ha => by
      refine ItemsRep.set (seen_next hX.out hBf (fun _ h => .inl h) ha) m (by omega) (hI.out.mono hk hs))
  rw [hlen] at hfin
  exact hfin
end Go.Proofs.YthgnkhpomhcdkaaGreatDoor
/-! Taken over from r4b/S4. -/
namespace Go.Proofs.YthgnkhpomhcdkaaGreatDoor
open Go Go.RowKit Dp

/-- Ahead of the items' append: the box of v (at B), x's (at b + 1), the answer's (at b + 2), the row of the items. -/
structure AtApp (w W : World) (B gi n : Nat) (k : Int) (nm : Value) (ns : List ByteArray) (k1 x1 : Int) (s1 : ByteArray) (nx ix : Value) (xs : List Value) : Prop where
  lo : w.heap.size + 3 ≤ B
  hi : B < W.heap.size
  gne : gi ≠ B
  below : Below w.heap.size w W
  x : W.heap[w.heap.size + 1]? = some (.cells #[.int .i64 k1, .int .i64 x1, .string s1, nx, ix] 28 (0, 0))
  r : W.heap[w.heap.size + 1 + 1]? = some (.cells #[.int .i64 0, .int .i64 0, .string ⟨#[]⟩, .slice none 0 0, .slice none 0 0] 28 (0, 0))
  box : W.heap[B]? = some (.cells #[.int .i64 k, .int .i64 0, .string ⟨#[]⟩, nm, .slice (some ⟨gi, 0, none⟩) n (n + 1)] 28 (0, 0))
  row : W.ownsRow (w.heap.size + 1 + 1 + 1) 28 5 (.slice (some ⟨gi, 0, none⟩) n (n + 1)) n xs
  names : SeenR W (fun j => w.heap.size + 1 + 1 + 1 ≤ j ∧ j ≠ gi ∧ j ≠ B) nm ns
theorem set_at {W : World} {B j : Nat} {cur : Array Value} {t : TypeId} (h : W.heap[B]? = some (.cells cur t (0, 0))) (v : Value) : (W.setCell ⟨B, j, none⟩ v).heap[B]? = some (.cells (cur.setIfInBounds j v) t (0, 0)) := by
  simp [World.setCell, Array.getElem?_modify, h]
theorem grown_app {W w8 : World} {o : Obj} {v : Value} {g : Nat} (hv : v.ownBlock = some g) (h : (W.alloc o).grownBy w8 v.ownBlock) : ∀ j, j < W.heap.size → j ≠ g → w8.heap[j]? = W.heap[j]? := fun j hj hne =>
  (h.block j (by rw [World.size_alloc]; omega) (fun e => by rw [hv] at e; cases e; exact hne rfl)).trans (Below.heap_alloc W o j hj)
/-- Behind the names' append. -/
theorem app_names {w W w6 W7 : World} {B gi gn g6 c6 n : Nat} {k : Int} {ns : List ByteArray} {k1 x1 : Int} {s1 : ByteArray} {nx ix : Value} {xs : List Value} {o : Obj} {sg : ByteArray} (hns : ns.length = n)
    (h : AtApp w W B gi n k (.slice (some ⟨gn, 0, none⟩) n (n + 1)) ns k1 x1 s1 nx ix xs) (hgn : w.heap.size + 1 + 1 + 1 ≤ gn ∧ gn < W.heap.size) (hne : gn ≠ gi) (hnB : gn ≠ B)
    (hown : w6.ownsRow (w.heap.size + 1 + 1 + 1) 9 1 (.slice (some ⟨g6, 0, none⟩) (n + 1) c6) (n + 1) (strs ns ++ [.string sg])) (hgrow : (W.alloc o).grownBy w6 (Value.slice (some ⟨gn, 0, none⟩) n (n + 1)).ownBlock) (hat : (Value.slice (some ⟨gn, 0, none⟩) n (n + 1)).ownBlock = some g6 ∨ g6 = (W.alloc o).heap.size)
    (hW7 : w6.setCell ⟨B, 3, none⟩ (.slice (some ⟨g6, 0, none⟩) (n + 1) c6) = W7) : AtApp w W7 B gi n k (.slice (some ⟨g6, 0, none⟩) (n + 1) c6) (ns ++ [sg]) k1 x1 s1 nx ix xs := by
  have hfar := grown_app (g := gn) rfl hgrow
  have hgi := ownsRow_ge h.row (g := gi) rfl
  have hlo := h.lo
  have hhi := h.hi
  have hsz := hgrow.size
  rw [World.size_alloc] at hsz hat
  have hg6 : g6 ≠ B ∧ g6 ≠ gi ∧ w.heap.size + 1 + 1 + 1 ≤ g6 := by
    rcases hat with e | e
    · simp [Value.ownBlock] at e; subst e; exact ⟨hnB, hne, hgn.1⟩
    · omega
  have h7 : ∀ j, j ≠ B → W7.heap[j]? = w6.heap[j]? := fun j hj => by rw [← hW7]; exact Below.heap_setCell _ _ _ _ hj
  have s7 : W7.heap.size = w6.heap.size := by rw [← hW7]; simp [World.setCell]
  have hle := h.below.size
  refine ⟨h.lo, by omega, h.gne, ⟨?_, ?_, ?_, by omega, fun j hj => ?_⟩, ?_, ?_, ?_, ?_, ?_⟩
  · rw [← hW7]; exact hgrow.os.trans h.below.os
  · rw [← hW7]; exact hgrow.tape.trans h.below.tape
  · rw [← hW7]; exact hgrow.output.trans h.below.output
  · exact (h7 j (by omega)).trans ((hfar j (by omega) (by omega)).trans (h.below.block j hj))
  · exact (h7 _ (by omega)).trans ((hfar _ (by omega) (by omega)).trans h.x)
  · exact (h7 _ (by omega)).trans ((hfar _ (by omega) (by omega)).trans h.r)
  · rw [← hW7]
    exact set_at ((hfar B h.hi (fun e => hnB e.symm)).trans h.box) _
  · exact ownsRow_keep h.row (fun g hg => by cases hg; exact (h7 _ h.gne).trans (hfar _ hgi.2 (fun e => hne e.symm)))
  · refine fun W' ha => ?_
    have hk : W7.ownsRow (w.heap.size + 1 + 1 + 1) 9 1 (.slice (some ⟨g6, 0, none⟩) (n + 1) c6) (n + 1) (strs ns ++ [.string sg]) := ownsRow_keep hown (fun g hg => by cases hg; exact h7 _ hg6.1)
    have hl : (ns ++ [sg]).length = n + 1 := by simp [hns]
    rw [← strs_snoc, ← hl] at hk
    rw [← hl]
    exact own_reads hk (show _ ∧ _ ∧ _ from ⟨hg6.2.2, hg6.2.1, hg6.1⟩) ha
/-- Behind the items' append: the answer. -/
theorem app_items {w w0 W w8 W9 Wf : World} {S : Nat → Prop} {B gi g8 c8 n : Nat} {k : Int} {nm : Value} {ns : List ByteArray} {k1 x1 : Int} {s1 : ByteArray} {an1 : Option Addr} {ln1 cn1 : Nat} {ai1 : Option Addr} {li1 ci1 : Nat} {xs : List Value} {o : Obj} {its : List Tr} {X : Tr} (hn : its.length = n) (h0 : Sub w0 w) (hS : ∀ p u, w0.cell? p = some u → S p.block) (hI : ItemsRep w0 its xs) (hX : Seen w S X (five k1 x1 s1 (.slice an1 ln1 cn1) (.slice ai1 li1 ci1)))
    (h : AtApp w W B gi n k nm ns k1 x1 s1 (.slice an1 ln1 cn1) (.slice ai1 li1 ci1) xs)
    (hown : w8.ownsRow (w.heap.size + 1 + 1 + 1) 28 5 (.slice (some ⟨g8, 0, none⟩) (n + 1) c8) (n + 1) (xs ++ [.int .i64 k1, .int .i64 x1, .string s1, .slice an1 ln1 cn1, .slice ai1 li1 ci1])) (hgrow : (W.alloc o).grownBy w8 (Value.slice (some ⟨gi, 0, none⟩) n (n + 1)).ownBlock) (hat : (Value.slice (some ⟨gi, 0, none⟩) n (n + 1)).ownBlock = some g8 ∨ g8 = (W.alloc o).heap.size)
    (hW9 : w8.setCell ⟨B, 4, none⟩ (.slice (some ⟨g8, 0, none⟩) (n + 1) c8) = W9) :
    W9.heap[B]? = some (.cells #[.int .i64 k, .int .i64 0, .string ⟨#[]⟩, nm, .slice (some ⟨g8, 0, none⟩) (n + 1) c8] 28 (0, 0)) ∧ W9.heap[w.heap.size + 1 + 1]? = some (.cells #[.int .i64 0, .int .i64 0, .string ⟨#[]⟩, .slice none 0 0, .slice none 0 0] 28 (0, 0)) ∧
    (put5 W9 (w.heap.size + 1 + 1) (.int .i64 k) (.int .i64 0) (.string ⟨#[]⟩) nm (.slice (some ⟨g8, 0, none⟩) (n + 1) c8) = Wf → Below w.heap.size w Wf ∧ Seen Wf (fun k => S k ∨ w.heap.size ≤ k) (.node k 0 ⟨#[]⟩ ns (its ++ [X])) (five k 0 ⟨#[]⟩ nm (.slice (some ⟨g8, 0, none⟩) (n + 1) c8))) := by
  have hfar := grown_app (g := gi) rfl hgrow
  have hgi := ownsRow_ge h.row (g := gi) rfl
  have hlo := h.lo
  have hhi := h.hi
  have hsz := hgrow.size
  rw [World.size_alloc] at hsz hat
  have hg8 : g8 ≠ B ∧ w.heap.size + 1 + 1 + 1 ≤ g8 := by
    rcases hat with e | e
    · simp [Value.ownBlock] at e; subst e; exact ⟨h.gne, hgi.1⟩
    · omega
  have h9 : ∀ j, j ≠ B → W9.heap[j]? = w8.heap[j]? := fun j hj => by rw [← hW9]; exact Below.heap_setCell _ _ _ _ hj
  have s9 : W9.heap.size = w8.heap.size := by rw [← hW9]; simp [World.setCell]
  have hle := h.below.size
  refine ⟨by rw [← hW9]; exact set_at ((hfar B h.hi (fun e => h.gne e.symm)).trans h.box) _, (h9 _ (by omega)).trans ((hfar _ (by omega) (by omega)).trans h.r), fun hf => ?_⟩
  have B9 : Below w.heap.size w W9 := ⟨by rw [← hW9]; exact hgrow.os.trans h.below.os, by rw [← hW9]; exact hgrow.tape.trans h.below.tape, by rw [← hW9]; exact hgrow.output.trans h.below.output, by omega, fun j hj => (h9 j (by omega)).trans ((hfar j (by omega) (by omega)).trans (h.below.block j hj))⟩
  have Bf : Below w.heap.size w Wf := by rw [← hf]; exact B9.trans (put5_below (by omega) _ _ _ _ _)
  have kf : ∀ j, j ≠ w.heap.size + 1 + 1 → Wf.heap[j]? = W9.heap[j]? := fun j hj => by rw [← hf]; exact put5_far _ _ _ _ _ hj
  have sf : Wf.heap.size = W9.heap.size := by rw [← hf]; exact put5_size _ _ _ _ _ _ _
  refine ⟨Bf, ?_⟩
  have hl : (its ++ [X]).length = n + 1 := by simp [hn]
  have hfin := with_fin (k := k) (ns := ns) (its := its ++ [X]) (nm := nm) (gi := g8) (ci := c8) h0 hS Bf (by
    rw [hl]
    exact ownsRow_keep (ownsRow_lo hown (by omega)) (fun g hg => by cases hg; exact (kf g8 (show g8 ≠ w.heap.size + 1 + 1 by omega)).trans (h9 _ hg8.1))) (fun W' ha => h.names W' ⟨by have := ha.1; omega, fun p u hp hc => ha.2 p u (show w.heap.size ≤ p.block by have := hp.1; omega) ((World.cell?_of_block (w := W9) (kf p.block (by have := hp.1; omega))).trans ((World.cell?_of_block (w := w8) (h9 p.block hp.2.2)).trans ((World.cell?_of_block (w := W) (hfar p.block (cell_lt hc) hp.2.1)).trans hc)))⟩) (fun W' hk hs ha => by
      exact ItemsRep.snoc rfl (seen_next hX Bf (fun _ h => .inl h) ha) (hI.mono hk hs))
  rw [hl] at hfin
  exact hfin
end Go.Proofs.YthgnkhpomhcdkaaGreatDoor
/-! Taken over from r4b/S5. -/
namespace Go.Proofs.YthgnkhpomhcdkaaGreatDoor
open Go Go.RowKit Dp

theorem box_kept {w W w6 : World} {B gi gn n : Nat} {k : Int} {nm : Value} {ns : List ByteArray} {k1 x1 : Int} {s1 : ByteArray} {nx ix : Value} {xs : List Value} {o : Obj} (h : AtApp w W B gi n k nm ns k1 x1 s1 nx ix xs) (_ : w.heap.size + 1 + 1 + 1 ≤ gn ∧ gn < B) (_ : gn ≠ gi) (hnB : gn ≠ B) (hgrow : (W.alloc o).grownBy w6 (Value.slice (some ⟨gn, 0, none⟩) n (n + 1)).ownBlock) : ∃ u, w6.cell? ⟨B, 3, none⟩ = some u ∧ w6.frozen? ⟨B, 3, none⟩ = false := by
  have := (grown_app (g := gn) rfl hgrow B h.hi (fun e => hnB e.symm)).trans h.box
  exact ⟨nm, by simp [World.cell?, this], by simp [World.frozen?, this]⟩
theorem box_kept4 {w W w6 : World} {B gi n : Nat} {k : Int} {nm : Value} {ns : List ByteArray} {k1 x1 : Int} {s1 : ByteArray} {nx ix : Value} {xs : List Value} {o : Obj} (h : AtApp w W B gi n k nm ns k1 x1 s1 nx ix xs) (hgrow : (W.alloc o).grownBy w6 (Value.slice (some ⟨gi, 0, none⟩) n (n + 1)).ownBlock) : ∃ u, w6.cell? ⟨B, 4, none⟩ = some u ∧ w6.frozen? ⟨B, 4, none⟩ = false := by
  have := (grown_app (g := gi) rfl hgrow B h.hi (fun e => h.gne e.symm)).trans h.box
  exact ⟨_, by simp [World.cell?, this]; rfl, by simp [World.frozen?, this]⟩
set_option maxHeartbeats 1000000 in
set_option maxRecDepth 100000 in
theorem with_app5 (x : Int) (tx : ByteArray) (an : Option Addr) (ln cn : Nat) (ai : Option Addr) (li ci : Nat) (sg : ByteArray) (n : Nat) (hnb : (n + 1) * 80 ≤ 140737488355328) (k1 x1 : Int) (s1 : ByteArray) (an1 : Option Addr) (ln1 cn1 : Nat) (ai1 : Option Addr) (li1 ci1 : Nat) (ns : List ByteArray) (its : List Tr) (hn : its.length = n) (xs : List Value) (X : Tr) (S : Nat → Prop) (w0 w : World) (h0 : Sub w0 w) (hS : ∀ p u, w0.cell? p = some u → S p.block)
    (hI : ItemsRep w0 its xs) (hX : Seen w S X (five k1 x1 s1 (.slice an1 ln1 cn1) (.slice ai1 li1 ci1)))
    (hA : ∀ W, Below w.heap.size w W → Calls Tryz.prog 172 #[.agg #[.int .i64 5, .int .i64 x, .string tx, .slice an ln cn, .slice ai li ci]] W (Anew W 5 n (strs ns) xs)) :
    Calls Tryz.prog 171 #[.agg #[.int .i64 5, .int .i64 x, .string tx, .slice an ln cn, .slice ai li ci, .string sg, .int .i64 n], .agg #[.int .i64 k1, .int .i64 x1, .string s1, .slice an1 ln1 cn1, .slice ai1 li1 ci1]] w (WithPost w S (.node 5 0 ⟨#[]⟩ [] (its ++ [X]))) := by
  have hB3 : ∀ p1 p2 p3, Below w.heap.size w (((w.alloc p1).alloc p2).alloc p3) := fun p1 p2 p3 => ((Below.refl _ w).alloc (Nat.le_refl _) p1).alloc (by simp) p2 |>.alloc (by simp; omega) p3
  have hn0 : ∀ o1 o2 o3, (((w.alloc o1).alloc o2).alloc o3).heap[w.heap.size]? = some o1 := fun o1 o2 o3 => (Below.heap_alloc _ _ _ (by simp; omega)).trans (new1 w o1 o2)
  have hn1 : ∀ o1 o2 o3, (((w.alloc o1).alloc o2).alloc o3).heap[w.heap.size + 1]? = some o2 := fun o1 o2 o3 => (Below.heap_alloc _ _ _ (by simp)).trans (new2 w o1 o2)
  have hn2 : ∀ o1 o2 o3, (((w.alloc o1).alloc o2).alloc o3).heap[w.heap.size + 1 + 1]? = some o3 := fun o1 o2 o3 => heap_new' (by simp)
  have hA' := fun p1 p2 p3 => hA _ (hB3 p1 p2 p3)
  clear hA
  go_enter Tryz.func171, Tryz.ntmps171
  go_wp2_with fail
  refine (hA' _ _ _).mono ?_
  rintro e w4 ⟨hb4, nm, gi, rfl, hrow, hnm⟩
  clear hA'
  have t0 := (hb4.block _ (by simp; omega)).trans (hn0 _ _ _)
  have t1 := (hb4.block _ (by simp)).trans (hn1 _ _ _)
  have t2 := (hb4.block _ (by simp)).trans (hn2 _ _ _)
  have HB : Below w.heap.size w w4 := (hB3 _ _ _).trans (hb4.mono (by simp; omega))
  have hsz : w.heap.size + 3 ≤ w4.heap.size := by have := hb4.size; simp at this; omega
  simp only [World.size_alloc] at hrow hnm
  clear hb4 hB3 hn0 hn1 hn2
  have hgi := ownsRow_ge hrow (g := gi) rfl
  obtain rfl : nm = .slice none 0 0 := by
    rcases hnm with h | ⟨h, _⟩
    · first | exact h | exact h.2
    · exact absurd h (by decide)
  clear hnm
  obtain ⟨W5, hW5⟩ : ∃ W5, Hid (w4.alloc (.cells #[.int .i64 5, .int .i64 0, .string ⟨#[]⟩, .slice none 0 0, .slice (some ⟨gi, 0, none⟩) n (n + 1)] 28) = W5) := ⟨_, rfl⟩
  have hb5 : Below w4.heap.size w4 W5 := by rw [← hW5.out]; exact (Below.refl _ w4).alloc (Nat.le_refl _) _
  have hs5 : W5.heap.size = w4.heap.size + 1 := by rw [← hW5.out]; simp
  have t5 : W5.heap[w4.heap.size]? = some (.cells #[.int .i64 5, .int .i64 0, .string ⟨#[]⟩, .slice none 0 0, .slice (some ⟨gi, 0, none⟩) n (n + 1)] 28) := by rw [← hW5.out]; exact heap_alloc_new w4 _
  replace t0 := (hb5.block _ (by omega)).trans t0
  have i6 : W5.cell? ⟨w.heap.size, 6, none⟩ = some (.int .i64 n) := by simp [World.cell?, t0]
  have i5 : W5.cell? ⟨w.heap.size, 5, none⟩ = some (.string sg) := by simp [World.cell?, t0]
  have hA5 : AtApp w W5 w4.heap.size gi n 5 (.slice none 0 0) [] k1 x1 s1 (.slice an1 ln1 cn1) (.slice ai1 li1 ci1) xs := ⟨hsz, by omega, by omega, HB.trans (hb5.mono HB.size), (hb5.block _ (by omega)).trans t1, (hb5.block _ (by omega)).trans t2, t5, ownsRow_below hrow hb5, fun W' _ => ⟨none, 0, rfl, ⟨Nat.le_refl _, by omega⟩, .inl rfl⟩⟩
  obtain ⟨y0, y1, y2, y3, y4, -⟩ := row_cells hA5.x
  obtain ⟨v0, v1, v2, v3, v4, vf⟩ := row_cells hA5.box
  have vf3 := vf 3; have vf4 := vf 4
  have hd : decide ((n : Int) < (n : Int)) = false := by simp
  obtain ⟨i25, hi25, hz0, hz1, hz2⟩ := info_parts A25
  obtain ⟨i9, hi9, hy0, hy1, hy2⟩ := info_parts A9
  clear hb5 HB t0 t1 t2 t5 vf hrow
  replace hsz := hid_of hsz; replace hs5 := hid_of hs5; replace hgi := hid_of hgi; replace hA5 := hid_of hA5
  replace hX := hid_of hX; replace hI := hid_of hI; replace h0 := hid_of h0; replace hS := hid_of hS
  go_wp2_with (first | rw [hW5.out] | rw [hW9.out] | (at_builtin; refine wpList_append_lies _ rfl _ _ 26 rfl (w.heap.size + 1 + 1 + 1) 28 i25 _ 5 80 Tryz.underlying26 hi25 hz0 hz1 hz2 rfl (by decide) _ n xs rfl (hA5.out.row.alloc _) _ 1 1 [.int .i64 k1, .int .i64 x1, .string s1, .slice an1 ln1 cn1, .slice ai1 li1 ci1] rfl rfl (World.news_of_block (heap_alloc_new W5 _)) (five_one _ _ _ _ _ _ _ _ _) (by decide) (by unfold maxLen; omega) (by omega) (by simp only [World.size_alloc]; have h1 := hA5.out.lo; have h2 := hA5.out.hi; omega) _ rfl ?_; intro g8 c8 w8 hown8 hgrow8 hat8 hlt8; obtain ⟨W9, hW9⟩ : ∃ W9, Hid (w8.setCell ⟨w4.heap.size, 4, none⟩ (.slice (some ⟨g8, 0, none⟩) (n + 1) c8) = W9) := ⟨_, rfl⟩; obtain ⟨u4, u4a, u4b⟩ := box_kept4 hA5.out hgrow8; obtain ⟨t59, t29, hfin⟩ := app_items (Wf := put5 W9 (w.heap.size + 1 + 1) (.int .i64 5) (.int .i64 0) (.string ⟨#[]⟩) (.slice none 0 0) (.slice (some ⟨g8, 0, none⟩) (n + 1) c8)) hn h0.out hS.out hI.out hX.out hA5.out hown8 hgrow8 hat8 hW9.out; replace hfin := hid_of (hfin rfl); clear hown8 hgrow8 hat8 hlt8 hA5 v0 v1 v2 v3 v4 y0 y1 y2 y3 y4 vf4; obtain ⟨v0, v1, v2, v3, v4, -⟩ := row_cells t59; obtain ⟨z0, z1, z2, z3, z4, zf⟩ := row_cells t29; have g0 := zf 0; have g1 := zf 1; have g2 := zf 2; have g3 := zf 3; have g4 := zf 4; clear zf; replace t29 := hid_of t29; clear t59))
  have hr := put5_cells t29.out (.int .i64 5) (.int .i64 0) (.string ⟨#[]⟩) (.slice none 0 0) (.slice (some ⟨g8, 0, none⟩) (n + 1) c8)
  have q0 := hr 0; have q1 := hr 1; have q2 := hr 2; have q3 := hr 3; have q4 := hr 4
  clear hr
  refine bodyPost_ret (v := .agg #[.int .i64 5, .int .i64 0, .string ⟨#[]⟩, .slice none 0 0, .slice (some ⟨g8, 0, none⟩) (n + 1) c8]) (by simp [results, Tryz.results171, go_sem, q0, q1, q2, q3, q4]) rfl ?_
  exact ⟨hfin.out.1, _, _, _, _, _, _, _, _, _, _, rfl, rfl, hfin.out.2⟩
set_option maxHeartbeats 1000000 in
set_option maxRecDepth 100000 in
theorem with_app6 (x : Int) (tx : ByteArray) (an : Option Addr) (ln cn : Nat) (ai : Option Addr) (li ci : Nat) (sg : ByteArray) (n : Nat) (hnb : (n + 1) * 80 ≤ 140737488355328) (k1 x1 : Int) (s1 : ByteArray) (an1 : Option Addr) (ln1 cn1 : Nat) (ai1 : Option Addr) (li1 ci1 : Nat) (ns : List ByteArray) (its : List Tr) (hn : its.length = n) (xs : List Value) (X : Tr) (S : Nat → Prop) (w0 w : World) (h0 : Sub w0 w) (hS : ∀ p u, w0.cell? p = some u → S p.block)
    (hI : ItemsRep w0 its xs) (hX : Seen w S X (five k1 x1 s1 (.slice an1 ln1 cn1) (.slice ai1 li1 ci1)))
    (hA : ∀ W, Below w.heap.size w W → Calls Tryz.prog 172 #[.agg #[.int .i64 6, .int .i64 x, .string tx, .slice an ln cn, .slice ai li ci]] W (Anew W 6 n (strs ns) xs)) (hk6 : ns.length = n) :
    Calls Tryz.prog 171 #[.agg #[.int .i64 6, .int .i64 x, .string tx, .slice an ln cn, .slice ai li ci, .string sg, .int .i64 n], .agg #[.int .i64 k1, .int .i64 x1, .string s1, .slice an1 ln1 cn1, .slice ai1 li1 ci1]] w (WithPost w S (.node 6 0 ⟨#[]⟩ (ns ++ [sg]) (its ++ [X]))) := by
  have hB3 : ∀ p1 p2 p3, Below w.heap.size w (((w.alloc p1).alloc p2).alloc p3) := fun p1 p2 p3 => ((Below.refl _ w).alloc (Nat.le_refl _) p1).alloc (by simp) p2 |>.alloc (by simp; omega) p3
  have hn0 : ∀ o1 o2 o3, (((w.alloc o1).alloc o2).alloc o3).heap[w.heap.size]? = some o1 := fun o1 o2 o3 => (Below.heap_alloc _ _ _ (by simp; omega)).trans (new1 w o1 o2)
  have hn1 : ∀ o1 o2 o3, (((w.alloc o1).alloc o2).alloc o3).heap[w.heap.size + 1]? = some o2 := fun o1 o2 o3 => (Below.heap_alloc _ _ _ (by simp)).trans (new2 w o1 o2)
  have hn2 : ∀ o1 o2 o3, (((w.alloc o1).alloc o2).alloc o3).heap[w.heap.size + 1 + 1]? = some o3 := fun o1 o2 o3 => heap_new' (by simp)
  have hA' := fun p1 p2 p3 => hA _ (hB3 p1 p2 p3)
  clear hA
  go_enter Tryz.func171, Tryz.ntmps171
  go_wp2_with fail
  refine (hA' _ _ _).mono ?_
  rintro e w4 ⟨hb4, nm, gi, rfl, hrow, hnm⟩
  clear hA'
  have t0 := (hb4.block _ (by simp; omega)).trans (hn0 _ _ _)
  have t1 := (hb4.block _ (by simp)).trans (hn1 _ _ _)
  have t2 := (hb4.block _ (by simp)).trans (hn2 _ _ _)
  have HB : Below w.heap.size w w4 := (hB3 _ _ _).trans (hb4.mono (by simp; omega))
  have hsz : w.heap.size + 3 ≤ w4.heap.size := by have := hb4.size; simp at this; omega
  simp only [World.size_alloc] at hrow hnm
  clear hb4 hB3 hn0 hn1 hn2
  have hgi := ownsRow_ge hrow (g := gi) rfl
  obtain ⟨gn, hne, rfl, hnr⟩ : ∃ gn, gn ≠ gi ∧ nm = .slice (some ⟨gn, 0, none⟩) n (n + 1) ∧ w4.ownsRow (w.heap.size + 1 + 1 + 1) 9 1 (.slice (some ⟨gn, 0, none⟩) n (n + 1)) n (strs ns) := by
    rcases hnm with ⟨h, _⟩ | h
    · exact absurd h (by decide)
    · first | exact h | exact h.2
  clear hnm
  have hgn := ownsRow_ge hnr (g := gn) rfl
  obtain ⟨W5, hW5⟩ : ∃ W5, Hid (w4.alloc (.cells #[.int .i64 6, .int .i64 0, .string ⟨#[]⟩, .slice (some ⟨gn, 0, none⟩) n (n + 1), .slice (some ⟨gi, 0, none⟩) n (n + 1)] 28) = W5) := ⟨_, rfl⟩
  have hb5 : Below w4.heap.size w4 W5 := by rw [← hW5.out]; exact (Below.refl _ w4).alloc (Nat.le_refl _) _
  have hs5 : W5.heap.size = w4.heap.size + 1 := by rw [← hW5.out]; simp
  have t5 : W5.heap[w4.heap.size]? = some (.cells #[.int .i64 6, .int .i64 0, .string ⟨#[]⟩, .slice (some ⟨gn, 0, none⟩) n (n + 1), .slice (some ⟨gi, 0, none⟩) n (n + 1)] 28) := by rw [← hW5.out]; exact heap_alloc_new w4 _
  replace t0 := (hb5.block _ (by omega)).trans t0
  have i6 : W5.cell? ⟨w.heap.size, 6, none⟩ = some (.int .i64 n) := by simp [World.cell?, t0]
  have i5 : W5.cell? ⟨w.heap.size, 5, none⟩ = some (.string sg) := by simp [World.cell?, t0]
  replace hnr := ownsRow_below hnr hb5
  have hA5 : AtApp w W5 w4.heap.size gi n 6 (.slice (some ⟨gn, 0, none⟩) n (n + 1)) ns k1 x1 s1 (.slice an1 ln1 cn1) (.slice ai1 li1 ci1) xs := ⟨hsz, by omega, by omega, HB.trans (hb5.mono HB.size), (hb5.block _ (by omega)).trans t1, (hb5.block _ (by omega)).trans t2, t5, ownsRow_below hrow hb5, fun W' ha => by
    subst hk6
    exact own_reads hnr (show _ ∧ _ ∧ _ from ⟨hgn.1, hne, by omega⟩) ha⟩
  obtain ⟨y0, y1, y2, y3, y4, -⟩ := row_cells hA5.x
  obtain ⟨v0, v1, v2, v3, v4, vf⟩ := row_cells hA5.box
  have vf3 := vf 3; have vf4 := vf 4
  have hd : decide ((n : Int) < (n : Int)) = false := by simp
  obtain ⟨i25, hi25, hz0, hz1, hz2⟩ := info_parts A25
  obtain ⟨i9, hi9, hy0, hy1, hy2⟩ := info_parts A9
  clear hb5 HB t0 t1 t2 t5 vf hrow
  replace hsz := hid_of hsz; replace hs5 := hid_of hs5; replace hgi := hid_of hgi; replace hA5 := hid_of hA5
  replace hX := hid_of hX; replace hI := hid_of hI; replace h0 := hid_of h0; replace hS := hid_of hS
  replace hgn := hid_of hgn; replace hnr := hid_of hnr; replace hne := hid_of hne
  go_wp2_with (first | rw [hW5.out] | rw [hW7.out] | rw [hW9.out] | (at_builtin; refine wpList_append_lies _ rfl _ _ 25 rfl (w.heap.size + 1 + 1 + 1) 9 i9 _ 1 16 Tryz.underlying25 hi9 hy0 hy1 hy2 rfl (by decide) _ n (strs ns) rfl (hnr.out.alloc _) _ 1 1 [.string sg] rfl rfl (World.news_of_block (heap_alloc_new W5 _)) (one_string sg) (by decide) (by unfold maxLen; omega) (by omega) (by simp only [World.size_alloc]; have := hsz.out; have := hs5.out; omega) _ rfl ?_; intro g6 c6 w6 hown6 hgrow6 hat6 hlt6; obtain ⟨W7, hW7⟩ : ∃ W7, Hid (w6.setCell ⟨w4.heap.size, 3, none⟩ (.slice (some ⟨g6, 0, none⟩) (n + 1) c6) = W7) := ⟨_, rfl⟩; have u3 : ∃ u, w6.cell? ⟨w4.heap.size, 3, none⟩ = some u ∧ w6.frozen? ⟨w4.heap.size, 3, none⟩ = false := box_kept hA5.out hgn.out hne.out (by have := hgn.out; have := hs5.out; omega) hgrow6; obtain ⟨u3, u3a, u3b⟩ := u3; have hA7 := hid_of (app_names hk6 hA5.out (by have := hgn.out; have := hs5.out; omega) hne.out (by have := hgn.out; have := hs5.out; omega) hown6 hgrow6 hat6 hW7.out); clear hnr hown6 hgrow6 hat6 hlt6 hne hA5 v0 v1 v2 v3 v4 y0 y1 y2 y3 y4 i5 i6 vf3 vf4; obtain ⟨y0, y1, y2, y3, y4, -⟩ := row_cells hA7.out.x; obtain ⟨v0, v1, v2, v3, v4, vf⟩ := row_cells hA7.out.box; have vf4 := vf 4; clear vf) | (at_builtin; refine wpList_append_lies _ rfl _ _ 26 rfl (w.heap.size + 1 + 1 + 1) 28 i25 _ 5 80 Tryz.underlying26 hi25 hz0 hz1 hz2 rfl (by decide) _ n xs rfl (hA7.out.row.alloc _) _ 1 1 [.int .i64 k1, .int .i64 x1, .string s1, .slice an1 ln1 cn1, .slice ai1 li1 ci1] rfl rfl (World.news_of_block (heap_alloc_new W7 _)) (five_one _ _ _ _ _ _ _ _ _) (by decide) (by unfold maxLen; omega) (by omega) (by simp only [World.size_alloc]; have h1 := hA7.out.lo; have h2 := hA7.out.hi; omega) _ rfl ?_; intro g8 c8 w8 hown8 hgrow8 hat8 hlt8; obtain ⟨W9, hW9⟩ : ∃ W9, Hid (w8.setCell ⟨w4.heap.size, 4, none⟩ (.slice (some ⟨g8, 0, none⟩) (n + 1) c8) = W9) := ⟨_, rfl⟩; obtain ⟨u4, u4a, u4b⟩ := box_kept4 hA7.out hgrow8; obtain ⟨t59, t29, hfin⟩ := app_items (Wf := put5 W9 (w.heap.size + 1 + 1) (.int .i64 6) (.int .i64 0) (.string ⟨#[]⟩) (.slice (some ⟨g6, 0, none⟩) (n + 1) c6) (.slice (some ⟨g8, 0, none⟩) (n + 1) c8)) hn h0.out hS.out hI.out hX.out hA7.out hown8 hgrow8 hat8 hW9.out; replace hfin := hid_of (hfin rfl); clear hown8 hgrow8 hat8 hlt8 hA7 v0 v1 v2 v3 v4 y0 y1 y2 y3 y4 vf4; obtain ⟨v0, v1, v2, v3, v4, -⟩ := row_cells t59; obtain ⟨z0, z1, z2, z3, z4, zf⟩ := row_cells t29; have g0 := zf 0; have g1 := zf 1; have g2 := zf 2; have g3 := zf 3; have g4 := zf 4; clear zf; replace t29 := hid_of t29; clear t59))
  have hr := put5_cells t29.out (.int .i64 6) (.int .i64 0) (.string ⟨#[]⟩) (.slice (some ⟨g6, 0, none⟩) (n + 1) c6) (.slice (some ⟨g8, 0, none⟩) (n + 1) c8)
  have q0 := hr 0; have q1 := hr 1; have q2 := hr 2; have q3 := hr 3; have q4 := hr 4
  clear hr
  refine bodyPost_ret (v := .agg #[.int .i64 6, .int .i64 0, .string ⟨#[]⟩, .slice (some ⟨g6, 0, none⟩) (n + 1) c6, .slice (some ⟨g8, 0, none⟩) (n + 1) c8]) (by simp [results, Tryz.results171, go_sem, q0, q1, q2, q3, q4]) rfl ?_
  exact ⟨hfin.out.1, _, _, _, _, _, _, _, _, _, _, rfl, rfl, hfin.out.2⟩
end Go.Proofs.YthgnkhpomhcdkaaGreatDoor
