import Derived.Test.YtmlbofbnklmedaaJ1
/-! Copies of lists of any length; bare, anew of every value. -/
namespace Go.Proofs.Ytmlbofbnklmedaa
open Go Go.RowKit

theorem copy_n {P : Program} (w : World) (T ty elem : TypeId) (i : TypeInfo) (g n dCap : Nat) (a : Addr) (sCap : Nat) (cur : Array Value) (t : TypeId) (cs : List Value) (hu : P.underlying T = some (.slice elem)) (hi : P.info? elem = some i)
    (hg : w.heap[g]? = some (.cells cur t (0, 0))) (hn : cs.length = n * i.size) (hsrc : ∀ j v, cs[j]? = some v → w.cell? (a.add j) = some v) (hfit : cs.length ≤ cur.size) (h1 : ∀ v ∈ cs, v.oneCell' = true) :
    (Builtin.copy_ #[T, T] ty #[.slice (some ⟨g, 0, none⟩) n dCap, .slice (some a) n sCap]).run P w = .ok (goInt n) (w.setRow g (cs ++ cur.toList.drop cs.length).toArray) := by
  have hl := run_loadCells_list (P := P) w a cs hsrc
  have hst := run_storeCells_at P g 0 t cs 0 cur w hg (by simpa using hfit) h1
  simp at hst
  simp [Builtin.copy_, run_underlying hu, Builtin.lenOf, Builtin.firstCells, sizeOf, typeInfo, hi, ← hn, hl, hst]
theorem make_sn (l c : Nat) (hlc : l ≤ c) (hc : c * 16 ≤ 281474976710656) (w : World) : (Instr.makeSlice 22 (.int .i64 l) (.int .i64 c)).run Try.prog w = .ok (.slice (some ⟨w.heap.size, 0, none⟩) l c) (w.alloc (.cells (madeCells #[.string ⟨#[]⟩] c) 9)) := by
  obtain ⟨i9, hi9, hz90, hz91, hz92⟩ := info_parts A9
  have := run_make (P := Try.prog) w 22 9 i9 _ Try.underlying22 hi9 hz90 .i64 .i64 l c (by omega) (by omega) (by rw [hz92]; omega) (by omega)
  rw [this, hz91, Nat.mul_one, Int.toNat_natCast, Int.toNat_natCast]
  rfl
theorem make_vn (l c : Nat) (hlc : l ≤ c) (hc : c * 80 ≤ 281474976710656) (w : World) : (Instr.makeSlice 23 (.int .i64 l) (.int .i64 c)).run Try.prog w = .ok (.slice (some ⟨w.heap.size, 0, none⟩) l c) (w.alloc (.cells (madeCells #[.int .i64 0, .int .i64 0, .string ⟨#[]⟩, .slice none 0 0, .slice none 0 0] (c * 5)) 25)) := by
  obtain ⟨i, hi, hz0, hz1, hz2⟩ := info_parts A25
  have := run_make (P := Try.prog) w 23 25 i _ Try.underlying23 hi hz0 .i64 .i64 l c (by omega) (by omega) (by rw [hz2]; omega) (by omega)
  rw [this, hz1, Int.toNat_natCast, Int.toNat_natCast]
  rfl
/-- A list of n elements of these cells each lies there, if it has any. -/
def LiesAt (w : World) (a : Option Addr) (cs : List Value) : Prop := cs = [] ∨ ∃ b o, a = some ⟨b, o, none⟩ ∧ CellsAt w b o cs
theorem LiesAt.keep {w w' : World} {a : Option Addr} {cs : List Value} (h : LiesAt w a cs) (hb : Below w.heap.size w w') : LiesAt w' a cs := by
  rcases h with h | ⟨b, o, e, h⟩
  · exact .inl h
  · exact .inr ⟨b, o, e, fun j u hj => (hb.cell (p := ⟨b, o + j, none⟩) (cell_lt (h j u hj))).trans (h j u hj)⟩

set_option maxHeartbeats 1000000 in
set_option maxRecDepth 100000 in
theorem copied_sn (a : Option Addr) (n c : Nat) (cs : List Value) (w : World) (hn : cs.length = n) (hb : (n + 1) * 16 ≤ 281474976710656) (h1 : ∀ v ∈ cs, v.oneCell' = true) (hs : LiesAt w a cs) : Calls Try.prog 66 #[.slice a n c] w fun e w' => e = .returned (.slice (some ⟨w.heap.size, 0, none⟩) n (n + 1)) ∧ ∃ cur : Array Value, w' = w.alloc (.cells cur 9) ∧ cur.size = n + 1 ∧ cur.toList.take n = cs := by
  obtain ⟨i9, hi9, hz0, hz1, -⟩ := info_parts A9
  have hmk := fun w => make_sn n (n + 1) (by omega) hb w
  rw [Int.natCast_add, Int.natCast_one] at hmk
  rcases hs with rfl | ⟨b, o, rfl, hs⟩
  · subst hn
    exact (copied_s0 a c w).mono (by rintro e w' ⟨rfl, rfl⟩; exact ⟨rfl, _, rfl, rfl, rfl⟩)
  · have hcp := copy_n (P := Try.prog) (w.alloc (.cells (madeCells #[.string ⟨#[]⟩] (n + 1)) 9)) 22 3 9 i9 w.heap.size n (n + 1) ⟨b, o, none⟩ c _ 9 cs Try.underlying22 hi9 (heap_alloc_new w _) (by rw [hz1]; omega) (fun j v hj => by
      rw [add_lit]; exact cell_alloc' (hs j v hj) _) (by rw [size_madeCells]; omega) h1
    rw [World.setRow_alloc_new] at hcp
    have hsz : (cs ++ (madeCells #[Value.string ⟨#[]⟩] (n + 1)).toList.drop cs.length).toArray.size = n + 1 := by simp [size_madeCells]; omega
    have htk : (cs ++ (madeCells #[Value.string ⟨#[]⟩] (n + 1)).toList.drop cs.length).toArray.toList.take n = cs := by simp [← hn]
    generalize (cs ++ (madeCells #[Value.string ⟨#[]⟩] (n + 1)).toList.drop cs.length).toArray = cur at *
    clear hs
    go_enter Try.func66, Try.ntmps66
    go_wp2
    go_ret
    exact ⟨rfl, _, rfl, hsz, htk⟩
set_option maxHeartbeats 1000000 in
set_option maxRecDepth 100000 in
theorem copied_vn (a : Option Addr) (n c : Nat) (cs : List Value) (w : World) (hn : cs.length = n * 5) (hb : (n + 1) * 80 ≤ 281474976710656) (h1 : ∀ v ∈ cs, v.oneCell' = true) (hs : LiesAt w a cs) : Calls Try.prog 65 #[.slice a n c] w fun e w' => e = .returned (.slice (some ⟨w.heap.size, 0, none⟩) n (n + 1)) ∧ ∃ cur : Array Value, w' = w.alloc (.cells cur 25) ∧ cur.size = (n + 1) * 5 ∧ cur.toList.take (n * 5) = cs := by
  obtain ⟨i9, hi9, hz0, hz1, -⟩ := info_parts A25
  have hmk := fun w => make_vn n (n + 1) (by omega) hb w
  rw [Int.natCast_add, Int.natCast_one] at hmk
  rcases hs with rfl | ⟨b, o, rfl, hs⟩
  · obtain rfl : n = 0 := by simp at hn; omega
    exact (copied_v0 a c w).mono (by rintro e w' ⟨rfl, rfl⟩; exact ⟨rfl, _, rfl, rfl, rfl⟩)
  · have hcp := copy_n (P := Try.prog) (w.alloc (.cells (madeCells #[.int .i64 0, .int .i64 0, .string ⟨#[]⟩, .slice none 0 0, .slice none 0 0] ((n + 1) * 5)) 25)) 23 3 25 i9 w.heap.size n (n + 1) ⟨b, o, none⟩ c _ 25 cs Try.underlying23 hi9 (heap_alloc_new w _) (by rw [hz1]; omega) (fun j v hj => by
      rw [add_lit]; exact cell_alloc' (hs j v hj) _) (by rw [size_madeCells]; omega) h1
    rw [World.setRow_alloc_new] at hcp
    have hsz : (cs ++ (madeCells #[Value.int .i64 0, .int .i64 0, .string ⟨#[]⟩, .slice none 0 0, .slice none 0 0] ((n + 1) * 5)).toList.drop cs.length).toArray.size = (n + 1) * 5 := by simp [size_madeCells]; omega
    have htk : (cs ++ (madeCells #[Value.int .i64 0, .int .i64 0, .string ⟨#[]⟩, .slice none 0 0, .slice none 0 0] ((n + 1) * 5)).toList.drop cs.length).toArray.toList.take (n * 5) = cs := by simp [← hn]
    generalize (cs ++ (madeCells #[Value.int .i64 0, .int .i64 0, .string ⟨#[]⟩, .slice none 0 0, .slice none 0 0] ((n + 1) * 5)).toList.drop cs.length).toArray = cur at *
    clear hs
    go_enter Try.func65, Try.ntmps65
    go_wp2
    go_ret
    exact ⟨rfl, _, rfl, hsz, htk⟩

set_option maxHeartbeats 1000000 in
set_option maxRecDepth 100000 in
theorem bare6 (x : Int) (tx : ByteArray) (an : Option Addr) (ln cn : Nat) (ai : Option Addr) (li ci n : Nat) (hm : min ln li = n) (hn : ln ≤ cn) (hi : li ≤ ci) (w : World) :
    Calls Try.prog 46 #[.agg #[.int .i64 6, .int .i64 x, .string tx, .slice an ln cn, .slice ai li ci]] w fun e w' => e = .returned (.agg #[.int .i64 6, .int .i64 0, .string ⟨#[]⟩, .slice an n cn, .slice ai n ci]) ∧
      w' = ((w.alloc (.cells #[.int .i64 6, .int .i64 x, .string tx, .slice an ln cn, .slice ai li ci] 25)).alloc (.cells #[.int .i64 6, .int .i64 0, .string ⟨#[]⟩, .slice an n cn, .slice ai n ci] 25)).drew := by
  have hmI : min (ln : Int) (li : Int) = (n : Int) := by omega
  have h1 : n ≤ cn := by omega
  have h2 : n ≤ ci := by omega
  go_enter Try.func46, Try.ntmps46
  go_wp2
  go_region
  go_wp2
  go_returns
  exact ⟨rfl, rfl⟩
set_option maxHeartbeats 1000000 in
set_option maxRecDepth 100000 in
theorem bare5 (x : Int) (tx : ByteArray) (an : Option Addr) (ln cn : Nat) (ai : Option Addr) (li ci : Nat) (w : World) :
    Calls Try.prog 46 #[.agg #[.int .i64 5, .int .i64 x, .string tx, .slice an ln cn, .slice ai li ci]] w fun e w' => e = .returned (.agg #[.int .i64 5, .int .i64 0, .string ⟨#[]⟩, .slice none 0 0, .slice ai li ci]) ∧
      w' = ((w.alloc (.cells #[.int .i64 5, .int .i64 x, .string tx, .slice an ln cn, .slice ai li ci] 25)).alloc (.cells #[.int .i64 5, .int .i64 0, .string ⟨#[]⟩, .slice none 0 0, .slice ai li ci] 25)) := by
  go_enter Try.func46, Try.ntmps46
  go_wp2
  go_returns
  exact ⟨rfl, rfl⟩
set_option maxHeartbeats 1000000 in
set_option maxRecDepth 100000 in
theorem bare_none (k x : Int) (tx : ByteArray) (an : Option Addr) (ln cn : Nat) (ai : Option Addr) (li ci : Nat) (h5 : k ≠ 5) (h6 : k ≠ 6) (w : World) :
    Calls Try.prog 46 #[.agg #[.int .i64 k, .int .i64 x, .string tx, .slice an ln cn, .slice ai li ci]] w fun e w' => e = .returned (.agg #[.int .i64 k, .int .i64 0, .string ⟨#[]⟩, .slice none 0 0, .slice none 0 0]) ∧
      w' = ((w.alloc (.cells #[.int .i64 k, .int .i64 x, .string tx, .slice an ln cn, .slice ai li ci] 25)).alloc (.cells #[.int .i64 k, .int .i64 0, .string ⟨#[]⟩, .slice none 0 0, .slice none 0 0] 25)) := by
  have hk6 : (k == 6) = false := by simpa using h6
  have hk5 : (k == 5) = false := by simpa using h5
  go_enter Try.func46, Try.ntmps46
  go_wp2
  go_returns
  exact ⟨rfl, rfl⟩
/-- What anew answers: lists of its own, with room. -/
def Anew (w : World) (k : Int) (n : Nat) (ns cs : List Value) (e : Ending) (w' : World) : Prop :=
  Below w.heap.size w w' ∧ ∃ nm gi, e = .returned (.agg #[.int .i64 k, .int .i64 0, .string ⟨#[]⟩, nm, .slice (some ⟨gi, 0, none⟩) n (n + 1)]) ∧ w'.ownsRow w.heap.size 25 5 (.slice (some ⟨gi, 0, none⟩) n (n + 1)) n cs ∧
    ((k = 5 ∧ nm = .slice none 0 0) ∨ (k = 6 ∧ ∃ gn, gn ≠ gi ∧ nm = .slice (some ⟨gn, 0, none⟩) n (n + 1) ∧ w'.ownsRow w.heap.size 9 1 (.slice (some ⟨gn, 0, none⟩) n (n + 1)) n ns))
set_option maxHeartbeats 2000000 in
set_option maxRecDepth 100000 in
theorem anew6 (x : Int) (tx : ByteArray) (an : Option Addr) (ln cn : Nat) (ai : Option Addr) (li ci n : Nat) (ns cs : List Value) (hm : min ln li = n) (hcn : ln ≤ cn) (hci : li ≤ ci) (hns : ns.length = n) (hcs : cs.length = n * 5) (hb : (n + 1) * 80 ≤ 281474976710656) (n1 : ∀ v ∈ ns, v.oneCell' = true) (c1 : ∀ v ∈ cs, v.oneCell' = true) (w : World) (hN : LiesAt w an ns) (hI : LiesAt w ai cs) :
    Calls Try.prog 51 #[.agg #[.int .i64 6, .int .i64 x, .string tx, .slice an ln cn, .slice ai li ci]] w (Anew w 6 n ns cs) := by
  have hI' : ∀ p1 p2 p3 p4, LiesAt ((((w.alloc p1).alloc p2).alloc p3).alloc p4).drew ai cs := fun p1 p2 p3 p4 => hI.keep (below_drew ((((Below.refl _ w).alloc (Nat.le_refl _) p1).alloc (by simp) p2 |>.alloc (by simp; omega) p3).alloc (by simp; omega) p4))
  have hN' : ∀ p1 p2 p3 p4 p5, LiesAt (((((w.alloc p1).alloc p2).alloc p3).alloc p4).alloc p5).drew an ns := fun p1 p2 p3 p4 p5 => hN.keep (below_drew (((((Below.refl _ w).alloc (Nat.le_refl _) p1).alloc (by simp) p2 |>.alloc (by simp; omega) p3).alloc (by simp; omega) p4).alloc (by simp; omega) p5))
  have hH : ∀ p1 p2 p3 p4 p5 p6, Below w.heap.size w ((((((w.alloc p1).alloc p2).alloc p3).alloc p4).alloc p5).alloc p6).drew := fun p1 p2 p3 p4 p5 p6 => below_drew ((((((Below.refl _ w).alloc (Nat.le_refl _) p1).alloc (by simp) p2 |>.alloc (by simp; omega) p3).alloc (by simp; omega) p4).alloc (by simp; omega) p5).alloc (by simp; omega) p6)
  have hl5 : ∀ p1 p2 p3 p4 p5 p6, ((((((w.alloc p1).alloc p2).alloc p3).alloc p4).alloc p5).alloc p6).drew.heap[w.heap.size + 1 + 1 + 1 + 1]? = some p5 := fun p1 p2 p3 p4 p5 p6 => (Below.heap_alloc _ _ _ (by simp)).trans (heap_new' (by simp))
  have hl6 : ∀ p1 p2 p3 p4 p5 p6, ((((((w.alloc p1).alloc p2).alloc p3).alloc p4).alloc p5).alloc p6).drew.heap[w.heap.size + 1 + 1 + 1 + 1 + 1]? = some p6 := fun p1 p2 p3 p4 p5 p6 => heap_new' (by simp)
  clear hN hI
  go_enter Try.func51, Try.ntmps51
  go_wp2_with fail
  refine (bare6 x tx an ln cn ai li ci n hm hcn hci _).mono ?_
  rintro e w1 ⟨rfl, rfl⟩
  go_wp2_with fail
  refine (copied_vn ai n ci cs _ hcs hb c1 (hI' _ _ _ _)).mono ?_
  rintro e w1 ⟨rfl, curI, rfl, hsI, htI⟩
  clear hI'
  go_wp2_with fail
  refine (copied_sn an n cn ns _ hns (by omega) n1 (hN' _ _ _ _ _)).mono ?_
  rintro e w1 ⟨rfl, curN, rfl, hsN, htN⟩
  clear hN'
  go_wp2_with fail
  go_returns
  refine ⟨hH _ _ _ _ _ _, _, _, rfl, ⟨hcs, .inr ⟨_, _, curI, rfl, by omega, hl5 _ _ _ _ _ _, by omega, by unfold maxLen; omega, hsI, htI⟩⟩, .inr ⟨rfl, _, by omega, rfl, ⟨by omega, .inr ⟨_, _, curN, rfl, by omega, hl6 _ _ _ _ _ _, by omega, by unfold maxLen; omega, by omega, by simpa using htN⟩⟩⟩⟩
set_option maxHeartbeats 2000000 in
set_option maxRecDepth 100000 in
theorem anew5 (x : Int) (tx : ByteArray) (an : Option Addr) (ln cn : Nat) (ai : Option Addr) (n ci : Nat) (ns cs : List Value) (hcs : cs.length = n * 5) (hb : (n + 1) * 80 ≤ 281474976710656) (c1 : ∀ v ∈ cs, v.oneCell' = true) (w : World) (hI : LiesAt w ai cs) :
    Calls Try.prog 51 #[.agg #[.int .i64 5, .int .i64 x, .string tx, .slice an ln cn, .slice ai n ci]] w (Anew w 5 n ns cs) := by
  have hI' : ∀ p1 p2 p3 p4, LiesAt ((((w.alloc p1).alloc p2).alloc p3).alloc p4) ai cs := fun p1 p2 p3 p4 => hI.keep ((((Below.refl _ w).alloc (Nat.le_refl _) p1).alloc (by simp) p2 |>.alloc (by simp; omega) p3).alloc (by simp; omega) p4)
  have hH : ∀ p1 p2 p3 p4 p5, Below w.heap.size w (((((w.alloc p1).alloc p2).alloc p3).alloc p4).alloc p5) := fun p1 p2 p3 p4 p5 => ((((Below.refl _ w).alloc (Nat.le_refl _) p1).alloc (by simp) p2 |>.alloc (by simp; omega) p3).alloc (by simp; omega) p4).alloc (by simp; omega) p5
  have hl5 : ∀ p1 p2 p3 p4 p5, (((((w.alloc p1).alloc p2).alloc p3).alloc p4).alloc p5).heap[w.heap.size + 1 + 1 + 1 + 1]? = some p5 := fun p1 p2 p3 p4 p5 => heap_new' (by simp)
  clear hI
  go_enter Try.func51, Try.ntmps51
  go_wp2_with fail
  refine (bare5 x tx an ln cn ai n ci _).mono ?_
  rintro e w1 ⟨rfl, rfl⟩
  go_wp2_with fail
  refine (copied_vn ai n ci cs _ hcs hb c1 (hI' _ _ _ _)).mono ?_
  rintro e w1 ⟨rfl, curI, rfl, hsI, htI⟩
  clear hI'
  go_wp2_with fail
  go_returns
  refine ⟨hH _ _ _ _ _, _, _, rfl, ⟨hcs, .inr ⟨_, _, curI, rfl, by omega, hl5 _ _ _ _ _, by omega, by unfold maxLen; omega, hsI, htI⟩⟩, .inl ⟨rfl, rfl⟩⟩
end Go.Proofs.Ytmlbofbnklmedaa
/-! One turn up, of every value: what it leans on. -/
namespace Go.Proofs.Ytmlbofbnklmedaa
open Go Go.RowKit

/-- What anew keeps. -/
def keepNs (k : Int) (ns : List ByteArray) (its : List Tr) : List ByteArray := if k = 6 then ns.take (min ns.length its.length) else []
def keepIts (k : Int) (ns : List ByteArray) (its : List Tr) : List Tr := if k = 6 then its.take (min ns.length its.length) else its
/-- A turn, with X as its item. -/
def withT (k : Int) (ns : List ByteArray) (its : List Tr) (sg : ByteArray) (m : Nat) (X : Tr) : Tr :=
  if m < (keepIts k ns its).length then .node k 0 ⟨#[]⟩ (keepNs k ns its) ((keepIts k ns its).set m X)
  else .node k 0 ⟨#[]⟩ (if k = 6 then keepNs k ns its ++ [sg] else []) (keepIts k ns its ++ [X])
theorem five_ones {k x : Int} {s : ByteArray} {an : Option Addr} {ln cn : Nat} {ai : Option Addr} {li ci : Nat} : ∀ v ∈ five k x s (.slice an ln cn) (.slice ai li ci), v.oneCell' = true := by simp [five, Value.oneCell']
theorem ItemsRep.length {W : World} : {ts : List Tr} → {xs : List Value} → ItemsRep W ts xs → xs.length = ts.length * 5
  | [], xs, h => by unfold ItemsRep at h; subst h; rfl
  | t :: ts, xs, h => by
    unfold ItemsRep at h
    obtain ⟨cs, r, rfl, h1, _, h3⟩ := h
    rw [List.length_append, h1, h3.length, List.length_cons]; omega
theorem ItemsRep.ones {W : World} : {ts : List Tr} → {xs : List Value} → ItemsRep W ts xs → ∀ v ∈ xs, v.oneCell' = true
  | [], xs, h => by unfold ItemsRep at h; subst h; simp
  | t :: ts, xs, h => by
    unfold ItemsRep at h
    obtain ⟨cs, r, rfl, h1, h2, h3⟩ := h
    intro v hv
    rcases List.mem_append.1 hv with hv | hv
    · obtain ⟨_, _, _, _, _, _, _, _, _, rfl⟩ := vrep_five h2
      exact five_ones v hv
    · exact h3.ones v hv
theorem ItemsRep.mono {W W' : World} (hk : ∀ p u, W.cell? p = some u → W'.cell? p = some u) (hs : W.heap.size ≤ W'.heap.size) : {ts : List Tr} → {xs : List Value} → ItemsRep W ts xs → ItemsRep W' ts xs
  | [], xs, h => by unfold ItemsRep at *; exact h
  | t :: ts, xs, h => by
    unfold ItemsRep at *
    obtain ⟨cs, r, rfl, h1, h2, h3⟩ := h
    exact ⟨cs, r, rfl, h1, VRep.mono hk hs t cs h2, h3.mono hk hs⟩
theorem ItemsRep.take {W : World} : {ts : List Tr} → {xs : List Value} → (n : Nat) → ItemsRep W ts xs → ItemsRep W (ts.take n) (xs.take (n * 5))
  | [], xs, n, h => by unfold ItemsRep at h; subst h; simp [ItemsRep]
  | t :: ts, xs, 0, h => by simp [ItemsRep]
  | t :: ts, xs, n + 1, h => by
    unfold ItemsRep at h
    obtain ⟨cs, r, rfl, h1, h2, h3⟩ := h
    rw [List.take_succ_cons]
    unfold ItemsRep
    refine ⟨cs, r.take (n * 5), ?_, h1, h2, h3.take n⟩
    rw [List.take_append, h1, List.take_of_length_le (by omega), show (n + 1) * 5 - 5 = n * 5 by omega]
theorem ItemsRep.set {W : World} {X : Tr} {k x : Int} {s : ByteArray} {nm it : Value} (hX : VRep W X (five k x s nm it)) : {ts : List Tr} → {xs : List Value} → (m : Nat) → m < ts.length → ItemsRep W ts xs → ItemsRep W (ts.set m X) (((((xs.set (m * 5) (.int .i64 k)).set (m * 5 + 1) (.int .i64 x)).set (m * 5 + 2) (.string s)).set (m * 5 + 3) nm).set (m * 5 + 4) it)
  | [], xs, m, hm, h => by simp at hm
  | t :: ts, xs, 0, hm, h => by
    unfold ItemsRep at h
    obtain ⟨cs, r, rfl, h1, h2, h3⟩ := h
    obtain ⟨_, _, _, _, _, _, _, _, _, rfl⟩ := vrep_five h2
    rw [List.set_cons_zero]
    unfold ItemsRep
    exact ⟨five k x s nm it, r, rfl, rfl, hX, h3⟩
  | t :: ts, xs, m + 1, hm, h => by
    unfold ItemsRep at h
    obtain ⟨cs, r, rfl, h1, h2, h3⟩ := h
    rw [List.set_cons_succ]
    unfold ItemsRep
    refine ⟨cs, _, ?_, h1, h2, h3.set hX m (by simpa using hm)⟩
    rw [List.set_append_right _ _ (by omega), List.set_append_right _ _ (by omega), List.set_append_right _ _ (by omega), List.set_append_right _ _ (by omega), List.set_append_right _ _ (by omega), h1,
      show (m + 1) * 5 - 5 = m * 5 by omega, show (m + 1) * 5 + 1 - 5 = m * 5 + 1 by omega, show (m + 1) * 5 + 2 - 5 = m * 5 + 2 by omega, show (m + 1) * 5 + 3 - 5 = m * 5 + 3 by omega, show (m + 1) * 5 + 4 - 5 = m * 5 + 4 by omega]
/-- The items of a value, as cells. -/
theorem VRepL.items {w : World} {b : Nat} : (its : List Tr) → (o : Nat) → VRepL w b o its → ∃ xs, ItemsRep w its xs ∧ CellsAt w b o xs
  | [], o, _ => ⟨[], by unfold ItemsRep; rfl, fun j u hj => by simp at hj⟩
  | t :: ts, o, h => by
    unfold VRepL at h
    obtain ⟨cs, h1, h2, h3⟩ := h
    obtain ⟨r, h4, h5⟩ := VRepL.items ts (o + 5) h3
    have hl : cs.length = 5 := by obtain ⟨_, _, _, _, _, _, _, _, _, rfl⟩ := vrep_five h2; rfl
    refine ⟨cs ++ r, by unfold ItemsRep; exact ⟨cs, r, rfl, hl, h2, h4⟩, fun j u hj => ?_⟩
    rcases Nat.lt_or_ge j cs.length with hj' | hj'
    · rw [List.getElem?_append_left hj'] at hj; exact h1 j u hj
    · rw [List.getElem?_append_right hj', hl] at hj
      have := h5 (j - 5) u hj
      rwa [show o + 5 + (j - 5) = o + j by omega] at this
theorem CellsAt.take {w : World} {b o : Nat} {xs : List Value} (h : CellsAt w b o xs) (n : Nat) : CellsAt w b o (xs.take n) := fun j u hj => h j u (by
  rw [List.getElem?_take] at hj
  split at hj
  · exact hj
  · cases hj)
theorem LiesAt.take {w : World} {a : Option Addr} {xs : List Value} (h : LiesAt w a xs) (n : Nat) : LiesAt w a (xs.take n) := by
  rcases h with rfl | ⟨b, o, e, h⟩
  · exact .inl (by simp)
  · exact .inr ⟨b, o, e, h.take n⟩
/-- A value taken apart. -/
theorem VRep.parts {w : World} {k x : Int} {s : ByteArray} {ns : List ByteArray} {its : List Tr} {cs : List Value} (h : VRep w (.node k x s ns its) cs) : ∃ an cn ai ci xs, cs = five k x s (.slice an ns.length cn) (.slice ai its.length ci) ∧ (ns.length ≤ cn ∧ cn ≤ 9223372036854775807) ∧ (its.length ≤ ci ∧ ci ≤ 9223372036854775807) ∧ LiesAt w an (strs ns) ∧ LiesAt w ai xs ∧ ItemsRep w its xs := by
  unfold VRep at h
  obtain ⟨nm, a, c, rfl, ⟨an, cn, rfl, hcn, hN⟩, hc, hI⟩ := h
  have hN' : LiesAt w an (strs ns) := by
    rcases hN with rfl | ⟨b, o, rfl, _, hN⟩
    · exact .inl rfl
    · refine .inr ⟨b, o, rfl, fun j u hj => ?_⟩
      unfold strs at hj
      rw [List.getElem?_map] at hj
      cases hy : ns[j]? with
      | none => rw [hy] at hj; cases hj
      | some y => rw [hy] at hj; cases hj; exact hN j y hy
  rcases hI with rfl | ⟨b, o, rfl, _, hI⟩
  · exact ⟨an, cn, a, c, [], rfl, hcn, hc, hN', .inl rfl, by unfold ItemsRep; rfl⟩
  · obtain ⟨xs, h1, h2⟩ := VRepL.items its o hI
    exact ⟨an, cn, _, c, xs, rfl, hcn, hc, hN', .inr ⟨b, o, rfl, h2⟩, h1⟩
/-- A value put together. -/
theorem vrep_make {W : World} {k : Int} {ns : List ByteArray} {its : List Tr} {nm : Value} {gi ci lo : Nat} {xs : List Value} (hN : Reads W nm ns) (hI : ItemsRep W its xs) (hc : CellsAt W gi 0 xs) (hl : its.length ≤ ci ∧ ci ≤ 9223372036854775807) (hg : gi < W.heap.size) (_ : lo ≤ gi) :
    VRep W (.node k 0 ⟨#[]⟩ ns its) (five k 0 ⟨#[]⟩ nm (.slice (some ⟨gi, 0, none⟩) its.length ci)) := by
  unfold VRep
  exact ⟨nm, _, ci, rfl, hN, hl, .inr ⟨gi, 0, rfl, hg, ItemsRep.list its xs 0 hI hc⟩⟩
theorem strs_take (ns : List ByteArray) (n : Nat) : (strs ns).take n = strs (ns.take n) := by unfold strs; rw [List.map_take]
/-- The row of an answer, as it is read. -/
theorem with_fin {w0 w W : World} {S : Nat → Prop} {k : Int} {ns : List ByteArray} {its : List Tr} {nm : Value} {gi ci : Nat} {xs : List Value} (h0 : Below w0.heap.size w0 w) (hS : ∀ k, k < w0.heap.size → S k) (hB : Below w.heap.size w W)
    (hrow : W.ownsRow w.heap.size 25 5 (.slice (some ⟨gi, 0, none⟩) its.length ci) its.length xs) (hN : SeenR W (fun k => w.heap.size ≤ k) nm ns)
    (hI : ∀ W', (∀ p u, w0.cell? p = some u → W'.cell? p = some u) → w0.heap.size ≤ W'.heap.size → Agree (fun k => S k ∨ w.heap.size ≤ k) W W' → ItemsRep W' its xs) :
    Seen W (fun k => S k ∨ w.heap.size ≤ k) (.node k 0 ⟨#[]⟩ ns its) (five k 0 ⟨#[]⟩ nm (.slice (some ⟨gi, 0, none⟩) its.length ci)) := fun W' ha => by
  obtain ⟨hc, hlt, hge, hle⟩ := owns_cells hrow
  refine vrep_make (lo := 0) (hN W' ⟨ha.1, fun p u hp hc => ha.2 p u (.inr hp) hc⟩) (hI W' (fun p u hc => ?_) (Nat.le_trans h0.size (Nat.le_trans hB.size ha.1)) ha) (fun j u hj => ha.2 _ _ (.inr hge) (hc j u hj)) (row_cap hrow) (Nat.lt_of_lt_of_le hlt ha.1) (Nat.zero_le _)
  have hl := cell_lt hc
  exact ha.2 p u (.inl (hS _ hl)) ((hB.cell (Nat.lt_of_lt_of_le hl h0.size)).trans ((h0.cell hl).trans hc))
end Go.Proofs.Ytmlbofbnklmedaa
