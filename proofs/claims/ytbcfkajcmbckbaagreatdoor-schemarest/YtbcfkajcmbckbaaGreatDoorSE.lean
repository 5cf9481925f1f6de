import Derived.Test.YtbcfkajcmbckbaaGreatDoorSC
import Derived.Deep.Cut
import Derived.Deep.DeepCutAuto
/-! schema: one rule read: counted, its word looked up, its maker called. -/
namespace Go.Proofs.YtbcfkajcmbckbaaGreatDoor
open Go Go.RowKit

/-- A Value's cells. -/
structure V5 where
  k : Int
  x : Int
  s : ByteArray
  an : Option Addr
  ln : Nat
  cn : Nat
  ai : Option Addr
  li : Nat
  ci : Nat
def V5.v (u : V5) : Value := .agg #[.int .i64 u.k, .int .i64 u.x, .string u.s, .slice u.an u.ln u.cn, .slice u.ai u.li u.ci]
def V5.cs (u : V5) : List Value := five u.k u.x u.s (.slice u.an u.ln u.cn) (.slice u.ai u.li u.ci)
def V5.obj (u : V5) (t : TypeId) : Obj := .cells #[.int .i64 u.k, .int .i64 u.x, .string u.s, .slice u.an u.ln u.cn, .slice u.ai u.li u.ci] t
theorem vrep_v5 {w : World} {t : Tr} {cs : List Value} (h : VRep w t cs) : ∃ u : V5, cs = u.cs := by
  obtain ⟨k, x, s, an, ln, cn, ai, li, ci, rfl⟩ := vrep_five h
  exact ⟨⟨k, x, s, an, ln, cn, ai, li, ci⟩, rfl⟩
/-- What a word is given. -/
def givenV (u b : V5) (d : Nat) : Value := .agg #[.int .i64 u.k, .int .i64 u.x, .string u.s, .slice u.an u.ln u.cn, .slice u.ai u.li u.ci, .int .i64 b.k, .int .i64 b.x, .string b.s, .slice b.an b.ln b.cn, .slice b.ai b.li b.ci, .int .i64 (d : Int)]
def givenO (u b : V5) (d : Nat) : Obj := .cells #[.int .i64 u.k, .int .i64 u.x, .string u.s, .slice u.an u.ln u.cn, .slice u.ai u.li u.ci, .int .i64 b.k, .int .i64 b.x, .string b.s, .slice b.an b.ln b.cn, .slice b.ai b.li b.ci, .int .i64 (d : Int)] 88
theorem givenO_cells {w : World} {g : Nat} {u b : V5} {d : Nat} (h : w.heap[g]? = some (givenO u b d)) : w.cell? ⟨g, 0, none⟩ = some (.int .i64 u.k) ∧ w.cell? ⟨g, 1, none⟩ = some (.int .i64 u.x) ∧ w.cell? ⟨g, 2, none⟩ = some (.string u.s) ∧ w.cell? ⟨g, 3, none⟩ = some (.slice u.an u.ln u.cn) ∧ w.cell? ⟨g, 4, none⟩ = some (.slice u.ai u.li u.ci) ∧ w.cell? ⟨g, 5, none⟩ = some (.int .i64 b.k) ∧ w.cell? ⟨g, 6, none⟩ = some (.int .i64 b.x) ∧ w.cell? ⟨g, 7, none⟩ = some (.string b.s) ∧ w.cell? ⟨g, 8, none⟩ = some (.slice b.an b.ln b.cn) ∧ w.cell? ⟨g, 9, none⟩ = some (.slice b.ai b.li b.ci) ∧ w.cell? ⟨g, 10, none⟩ = some (.int .i64 (d : Int)) := by
  unfold givenO at h
  refine ⟨?_, ?_, ?_, ?_, ?_, ?_, ?_, ?_, ?_, ?_, ?_⟩
  all_goals simp [World.cell?, h]
set_option maxHeartbeats 1000000 in
set_option maxRecDepth 100000 in
theorem rule_many (br m d : Nat) (s : ByteArray) (u b : V5) (w : World) (hR : ReaderAt w br m 128) :
    Calls Tryz.prog 46 #[.pointer (some ⟨br, 0, none⟩), .string s, givenV u b d] w fun e w' => e = .returned (.tuple #[.nilIface, .int .i64 211]) ∧ Below w.heap.size w w' := by
  have c1 := fun o => cell_alloc' hR.cells.2.1 o
  unfold givenV
  go_enter Tryz.func46, Tryz.ntmps46
  go_wp2_with fail
  go_ret2
  exact ⟨rfl, (Below.refl _ w).alloc (Nat.le_refl _) _⟩
/-- The reader has counted one rule more. -/
theorem count_next {w : World} {br m n : Nat} (hR : ReaderAt w br m n) (o : Obj) : ReaderAt ((w.alloc o).setCell ⟨br, 1, none⟩ (.int .i64 ((n : Int) + 1))) br m (n + 1) ∧ Fr (fun b => b = br) w ((w.alloc o).setCell ⟨br, 1, none⟩ (.int .i64 ((n : Int) + 1))) := by
  have hR' : ReaderAt (w.alloc o) br m n := hR.keep ((Below.refl _ w).alloc (Nat.le_refl _) _)
  exact ⟨hR'.set _ _ (by omega), ((Fr.refl _ w).alloc _).set _ _ (.inl rfl)⟩
theorem run_miss {P : Program} (w : World) {t k e : TypeId} {b : Nat} {es : Array MapEntry} {clock : Nat} {s : ByteArray} {z : Value} (ht : P.underlying t = some (.map k e)) (hk : P.underlying k = some .string) (hb : w.heap[b]? = some (.map es clock)) (hn : Instr.findNow .string (.string s) es.toList 0 = some none) (hz : (zeroValue e).run P w = .ok z w) :
    (Instr.lookup t (.map (some b)) (.string s) true).run P w = .ok (.tuple #[z, .bool false]) w := by
  have h1 := fun x => MapKept.run_checkKey (P := P) (w := w) (k := .string s) hk (by simp [MapKept.IsKey]) x 9999
  have h2 := MapKept.run_findKey (P := P) (w := w) hk hn
  have h0 := MapKept.run_getObj_map (P := P) hb
  simp [Instr.lookup, run_underlying ht, h0, h1, h2, hz]
set_option maxHeartbeats 1000000 in
set_option maxRecDepth 100000 in
theorem rule_none (br m n d : Nat) (s : ByteArray) (u b : V5) (es : Array MapEntry) (c : Nat) (w : World) (hR : ReaderAt w br m n) (hn : n < 128) (hm : w.heap[m]? = some (.map es c)) (hne : m ≠ br) (hf : Instr.findNow .string (.string s) es.toList 0 = some none) :
    Calls Tryz.prog 46 #[.pointer (some ⟨br, 0, none⟩), .string s, givenV u b d] w fun e w' => e = .returned (.tuple #[.nilIface, .int .i64 210]) ∧ ReaderAt w' br m (n + 1) ∧ Fr (fun b => b = br) w w' := by
  have c1 := fun o => cell_alloc' hR.cells.2.1 o
  have f1 : ∀ o, (w.alloc o).frozen? ⟨br, 1, none⟩ = false := fun o => (hR.keep ((Below.refl _ w).alloc (Nat.le_refl _) o)).cells.2.2
  have hnx := fun o => hid_of (count_next hR o)
  have c0 := fun o => (hnx o).out.1.cells.1
  have hlk := fun o => run_miss (P := Tryz.prog) _ Tryz.underlying53 Tryz.underlying9 (((hnx o).out.2.block m (Array.getElem?_eq_some_iff.1 hm).1 hne).trans hm) hf (Tryz.zeroValue75 _)
  have hnb : ((n : Int) == 128) = false := by simp; omega
  have hi : (n : Int) + 1 ≤ 1000 := by omega
  clear hm hf
  unfold givenV
  go_enter Tryz.func46, Tryz.ntmps46
  go_wp2_with fail
  go_ret2
  exact ⟨rfl, (hnx _).out⟩
set_option maxHeartbeats 2000000 in
set_option maxRecDepth 100000 in
/-- A word of the table: its maker is called. -/
theorem rule_found (br m n d i F : Nat) (cap : Array Value) (s : ByteArray) (u b : V5) (es : Array MapEntry) (c : Nat) (w : World) (hR : ReaderAt w br m n) (hn : n < 128) (hm : w.heap[m]? = some (.map es c)) (hne : m ≠ br)
    (hf : Instr.findNow .string (.string s) es.toList 0 = some (some (i, .func (.func F) #[] cap))) (hen : ∀ args W, (callFunc F args).run Tryz.prog W = .ok (.enter F args) W) (Q : Value → Int → World → Prop)
    (hQ : ∀ W, Fr (fun b => b = br) w W → ReaderAt W br m (n + 1) → Calls Tryz.prog F (#[.pointer (some ⟨br, 0, none⟩), givenV u b d] ++ cap) W fun e w' => ∃ r z, e = .returned (.tuple #[r, .int .i64 z]) ∧ Q r z w') :
    Calls Tryz.prog 46 #[.pointer (some ⟨br, 0, none⟩), .string s, givenV u b d] w fun e w' => ∃ r z, e = .returned (.tuple #[r, .int .i64 z]) ∧ Q r z w' := by
  have c1 := fun o => cell_alloc' hR.cells.2.1 o
  have f1 : ∀ o, (w.alloc o).frozen? ⟨br, 1, none⟩ = false := fun o => (hR.keep ((Below.refl _ w).alloc (Nat.le_refl _) o)).cells.2.2
  have hnx := fun o => hid_of (count_next hR o)
  have c0 := fun o => (hnx o).out.1.cells.1
  have hlk := fun o => run_look (P := Tryz.prog) _ Tryz.underlying53 Tryz.underlying9 (((hnx o).out.2.block m (Array.getElem?_eq_some_iff.1 hm).1 hne).trans hm) hf
  have hnb : ((n : Int) == 128) = false := by simp; omega
  have hi : (n : Int) + 1 ≤ 1000 := by omega
  have hX := fun (o : Obj) => (Below.heap_setCell (w.alloc o) ⟨br, 1, none⟩ (.int .i64 ((n : Int) + 1)) w.heap.size (by have := hR.lt; show w.heap.size ≠ br; omega)).trans (heap_alloc_new w o)
  have hq := fun o => hid_of (hQ _ (hnx o).out.2 (hnx o).out.1)
  clear hm hf hQ
  unfold givenV at hq
  unfold givenV
  go_enter Tryz.func46, Tryz.ntmps46
  go_upto_region 7 with fail
  obtain ⟨x0, x1, x2, x3, x4, x5, x6, x7, x8, x9, x10⟩ := givenO_cells (hX (givenO u b d))
  replace hq := (hq (givenO u b d)).out
  unfold givenO at x0 x1 x2 x3 x4 x5 x6 x7 x8 x9 x10 hq
  clear hX hnx hlk c0 c1 f1 hi hnb
  generalize (w.alloc (.cells #[.int .i64 u.k, .int .i64 u.x, .string u.s, .slice u.an u.ln u.cn, .slice u.ai u.li u.ci, .int .i64 b.k, .int .i64 b.x, .string b.s, .slice b.an b.ln b.cn, .slice b.ai b.li b.ci, .int .i64 (d : Int)] 88)).setCell ⟨br, 1, none⟩ (.int .i64 ((n : Int) + 1)) = X at x0 x1 x2 x3 x4 x5 x6 x7 x8 x9 x10 hq ⊢
  go_wp2_with fail
  refine hq.mono ?_
  rintro e W1 ⟨r, z, rfl, hq1⟩
  go_wp2_with fail
  go_ret2
  exact ⟨r, z, rfl, hq1⟩
end Go.Proofs.YtbcfkajcmbckbaaGreatDoor
/-! schema: the makers that read no schemas: numbers, lists of values. -/
namespace Go.Proofs.YtbcfkajcmbckbaaGreatDoor
open Go Go.RowKit

/-- What a maker of numbers answers. -/
def boundZ (u : V5) (x : Int) : Int := if u.k = 3 ∧ x ≤ u.x then 0 else 210
def BoundPost (u : V5) (x : Int) (f : Nat) (t : TypeId) (w : World) (e : Ending) (w' : World) : Prop :=
  ∃ v z, e = .returned (.tuple #[v, .int .i64 z]) ∧ z = boundZ u x ∧ (z = 0 → v = .iface t (.agg #[.int .i64 u.x, fnV f])) ∧ Below w.heap.size w w'
theorem bound_no {u : V5} {x : Int} {f : Nat} {t : TypeId} {w w' : World} (h : ¬ (u.k = 3 ∧ x ≤ u.x)) (hb : Below w.heap.size w w') : BoundPost u x f t w (.returned (.tuple #[.nilIface, .int .i64 210])) w' :=
  ⟨_, _, rfl, by unfold boundZ; rw [if_neg h], (fun e => by cases e), hb⟩
theorem bound_yes {u : V5} {x : Int} {f : Nat} {t : TypeId} {w w' : World} (h : u.k = 3 ∧ x ≤ u.x) (hb : Below w.heap.size w w') : BoundPost u x f t w (.returned (.tuple #[.iface t (.agg #[.int .i64 u.x, fnV f]), .int .i64 0])) w' :=
  ⟨_, _, rfl, by unfold boundZ; rw [if_pos h], fun _ => rfl, hb⟩
set_option maxHeartbeats 1000000 in
set_option maxRecDepth 100000 in
theorem made_itemsOf (r : Value) (u b : V5) (d g : Nat) (x : Int) (f : Nat) (w : World) (hB : BoxesAt w g x f) :
    Calls Tryz.prog 61 #[r, givenV u b d, .pointer (some ⟨g, 0, none⟩), .pointer (some ⟨g + 1, 0, none⟩)] w (BoundPost u x f 119 w) := by
  have hb := (Below.refl _ w).alloc (Nat.le_refl _) (givenO u b d)
  have y0 := fun o => cell_alloc' hB.one o
  have y1 := fun o => cell_alloc' hB.two o
  obtain ⟨x0, x1, -⟩ := givenO_cells (heap_alloc_new w (givenO u b d))
  have hyes := fun h => hid_of (@bound_yes u x f 119 _ _ h hb)
  have hno := fun h => hid_of (@bound_no u x f 119 _ _ h hb)
  unfold givenO at *
  unfold givenV
  unfold fnV at *
  go_enter Tryz.func61, Tryz.ntmps61
  by_cases hk : u.k = 3
  · have hk' : Hid (u.k = 3) := hk
    have hb1 : (u.k != 3) = false := by simp [hk]
    clear hk
    by_cases hx : u.x < x
    · have hb2 : decide (u.x < x) = true := by simpa using hx
      go_wp2_with fail
      go_ret2
      exact (hno (by omega)).out
    · have hb2 : decide (u.x < x) = false := by simpa using hx
      have hx' : Hid (x ≤ u.x) := by show x ≤ u.x; omega
      go_wp2_with fail
      go_ret2
      exact (hyes ⟨hk'.out, hx'.out⟩).out
  · have hb1 : (u.k != 3) = true := by simp [hk]
    have hk' : Hid (¬ u.k = 3) := hk
    clear hk
    go_wp2_with fail
    go_ret2
    exact (hno (fun h => hk'.out h.1)).out
set_option maxHeartbeats 1000000 in
set_option maxRecDepth 100000 in
theorem made_charactersOf (r : Value) (u b : V5) (d g : Nat) (x : Int) (f : Nat) (w : World) (hB : BoxesAt w g x f) :
    Calls Tryz.prog 62 #[r, givenV u b d, .pointer (some ⟨g, 0, none⟩), .pointer (some ⟨g + 1, 0, none⟩)] w (BoundPost u x f 120 w) := by
  have hb := (Below.refl _ w).alloc (Nat.le_refl _) (givenO u b d)
  have y0 := fun o => cell_alloc' hB.one o
  have y1 := fun o => cell_alloc' hB.two o
  obtain ⟨x0, x1, -⟩ := givenO_cells (heap_alloc_new w (givenO u b d))
  have hyes := fun h => hid_of (@bound_yes u x f 120 _ _ h hb)
  have hno := fun h => hid_of (@bound_no u x f 120 _ _ h hb)
  unfold givenO at *
  unfold givenV
  unfold fnV at *
  go_enter Tryz.func62, Tryz.ntmps62
  by_cases hk : u.k = 3
  · have hk' : Hid (u.k = 3) := hk
    have hb1 : (u.k != 3) = false := by simp [hk]
    clear hk
    by_cases hx : u.x < x
    · have hb2 : decide (u.x < x) = true := by simpa using hx
      go_wp2_with fail
      go_ret2
      exact (hno (by omega)).out
    · have hb2 : decide (u.x < x) = false := by simpa using hx
      have hx' : Hid (x ≤ u.x) := by show x ≤ u.x; omega
      go_wp2_with fail
      go_ret2
      exact (hyes ⟨hk'.out, hx'.out⟩).out
  · have hb1 : (u.k != 3) = true := by simp [hk]
    have hk' : Hid (¬ u.k = 3) := hk
    clear hk
    go_wp2_with fail
    go_ret2
    exact (hno (fun h => hk'.out h.1)).out
set_option maxHeartbeats 1000000 in
set_option maxRecDepth 100000 in
theorem made_intOf (r : Value) (u b : V5) (d g : Nat) (x : Int) (f : Nat) (w : World) (hB : BoxesAt w g x f) :
    Calls Tryz.prog 63 #[r, givenV u b d, .pointer (some ⟨g, 0, none⟩), .pointer (some ⟨g + 1, 0, none⟩)] w (BoundPost u x f 121 w) := by
  have hb := (Below.refl _ w).alloc (Nat.le_refl _) (givenO u b d)
  have y0 := fun o => cell_alloc' hB.one o
  have y1 := fun o => cell_alloc' hB.two o
  obtain ⟨x0, x1, -⟩ := givenO_cells (heap_alloc_new w (givenO u b d))
  have hyes := fun h => hid_of (@bound_yes u x f 121 _ _ h hb)
  have hno := fun h => hid_of (@bound_no u x f 121 _ _ h hb)
  unfold givenO at *
  unfold givenV
  unfold fnV at *
  go_enter Tryz.func63, Tryz.ntmps63
  by_cases hk : u.k = 3
  · have hk' : Hid (u.k = 3) := hk
    have hb1 : (u.k != 3) = false := by simp [hk]
    clear hk
    by_cases hx : u.x < x
    · have hb2 : decide (u.x < x) = true := by simpa using hx
      go_wp2_with fail
      go_ret2
      exact (hno (by omega)).out
    · have hb2 : decide (u.x < x) = false := by simpa using hx
      have hx' : Hid (x ≤ u.x) := by show x ≤ u.x; omega
      go_wp2_with fail
      go_ret2
      exact (hyes ⟨hk'.out, hx'.out⟩).out
  · have hb1 : (u.k != 3) = true := by simp [hk]
    have hk' : Hid (¬ u.k = 3) := hk
    clear hk
    go_wp2_with fail
    go_ret2
    exact (hno (fun h => hk'.out h.1)).out
/-- What enum, anyOf and allOf ask of a list. -/
def someZ (u : V5) : Int := if u.k = 5 ∧ 0 < u.li then 0 else 210
/-- A list of at least one. -/
theorem several_any (u : V5) (w : World) : Calls Tryz.prog 57 #[u.v] w fun e w' => e = .returned (.bool (decide (u.k = 5 ∧ 0 < u.li))) ∧ Below w.heap.size w w' := by
  have hb := (Below.refl _ w).alloc (Nat.le_refl _) (u.obj 25)
  unfold V5.obj at hb
  unfold V5.v
  go_enter Tryz.func57, Tryz.ntmps57
  by_cases hk : u.k = 5
  · have hb1 : (u.k == 5) = true := by simp [hk]
    have hr : Hid (decide (u.k = 5 ∧ 0 < u.li) = decide ((u.li : Int) > 0)) := by simp [Hid, hk]
    rw [hr.out]
    clear hk hr
    go_wp2_with fail
    go_ret
    exact ⟨ret_bool (by simp), hb⟩
  · have hb1 : (u.k == 5) = false := by simp [hk]
    have hr : Hid (decide (u.k = 5 ∧ 0 < u.li) = false) := by simp [Hid, hk]
    rw [hr.out]
    clear hk hr
    go_wp2_with fail
    go_ret
    exact ⟨rfl, hb⟩
set_option maxHeartbeats 1000000 in
set_option maxRecDepth 100000 in
theorem enum_any (r : Value) (u b : V5) (d : Nat) (w : World) :
    Calls Tryz.prog 32 #[r, givenV u b d] w fun e w' => ∃ v z, e = .returned (.tuple #[v, .int .i64 z]) ∧ z = someZ u ∧ (z = 0 → v = .iface 103 (.slice u.ai u.li u.ci)) ∧ Below w.heap.size w w' := by
  obtain ⟨x0, x1, x2, x3, x4, -⟩ := givenO_cells (heap_alloc_new w (givenO u b d))
  have hb0 := (Below.refl _ w).alloc (Nat.le_refl _) (givenO u b d)
  have hs := hid_of (several_any u (w.alloc (givenO u b d)))
  unfold givenO at *
  unfold givenV
  unfold V5.v at hs
  go_enter Tryz.func32, Tryz.ntmps32
  go_wp2_with fail
  generalize w.alloc (.cells #[.int .i64 u.k, .int .i64 u.x, .string u.s, .slice u.an u.ln u.cn, .slice u.ai u.li u.ci, .int .i64 b.k, .int .i64 b.x, .string b.s, .slice b.an b.ln b.cn, .slice b.ai b.li b.ci, .int .i64 (d : Int)] 88) = X at *
  refine hs.out.mono ?_
  rintro e W ⟨rfl, hb⟩
  have hb2 := hid_of (hb0.trans (hb.mono hb0.size))
  have t4 := stay hb x4
  clear hs x0 x1 x2 x3 x4 hb hb0
  by_cases h : u.k = 5 ∧ 0 < u.li
  · rw [decide_eq_true h]
    have h' := hid_of h
    clear h
    go_wp2_with fail
    go_ret2
    exact ⟨_, _, rfl, by unfold someZ; rw [if_pos h'.out], fun _ => rfl, hb2.out⟩
  · rw [decide_eq_false h]
    have h' := hid_of h
    clear h
    go_wp2_with fail
    go_ret2
    exact ⟨_, _, rfl, by unfold someZ; rw [if_neg h'.out], (fun e => by cases e), hb2.out⟩
end Go.Proofs.YtbcfkajcmbckbaaGreatDoor
