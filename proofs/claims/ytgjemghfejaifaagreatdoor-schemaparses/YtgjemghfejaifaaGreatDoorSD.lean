import Derived.Test.YtgjemghfejaifaaGreatDoorSC
import Derived.Deep.Cut
import Derived.Deep.DeepCutAuto
/-! schema: one rule read: counted, its word looked up, its maker called. -/
namespace Go.Proofs.YtgjemghfejaifaaGreatDoor
open Go Go.RowKit

/-- A Value's cells. -/
structure V5 where
  k : Int
  x : Int
  s : ByteArray
  an : Option Addr
  ln : Nat
  cn : Nat
  ai : Option Addr
  li : Nat
  ci : Nat
def V5.v (u : V5) : Value := .agg #[.int .i64 u.k, .int .i64 u.x, .string u.s, .slice u.an u.ln u.cn, .slice u.ai u.li u.ci]
def V5.cs (u : V5) : List Value := five u.k u.x u.s (.slice u.an u.ln u.cn) (.slice u.ai u.li u.ci)
def V5.obj (u : V5) (t : TypeId) : Obj := .cells #[.int .i64 u.k, .int .i64 u.x, .string u.s, .slice u.an u.ln u.cn, .slice u.ai u.li u.ci] t
theorem vrep_v5 {w : World} {t : Tr} {cs : List Value} (h : VRep w t cs) : ∃ u : V5, cs = u.cs := by
  obtain ⟨k, x, s, an, ln, cn, ai, li, ci, rfl⟩ := vrep_five h
  exact ⟨⟨k, x, s, an, ln, cn, ai, li, ci⟩, rfl⟩
/-- What a word is given. -/
def givenV (u b : V5) (d : Nat) : Value := .agg #[.int .i64 u.k, .int .i64 u.x, .string u.s, .slice u.an u.ln u.cn, .slice u.ai u.li u.ci, .int .i64 b.k, .int .i64 b.x, .string b.s, .slice b.an b.ln b.cn, .slice b.ai b.li b.ci, .int .i64 (d : Int)]
def givenO (u b : V5) (d : Nat) : Obj := .cells #[.int .i64 u.k, .int .i64 u.x, .string u.s, .slice u.an u.ln u.cn, .slice u.ai u.li u.ci, .int .i64 b.k, .int .i64 b.x, .string b.s, .slice b.an b.ln b.cn, .slice b.ai b.li b.ci, .int .i64 (d : Int)] 82
theorem givenO_cells {w : World} {g : Nat} {u b : V5} {d : Nat} (h : w.heap[g]? = some (givenO u b d)) : w.cell? ⟨g, 0, none⟩ = some (.int .i64 u.k) ∧ w.cell? ⟨g, 1, none⟩ = some (.int .i64 u.x) ∧ w.cell? ⟨g, 2, none⟩ = some (.string u.s) ∧ w.cell? ⟨g, 3, none⟩ = some (.slice u.an u.ln u.cn) ∧ w.cell? ⟨g, 4, none⟩ = some (.slice u.ai u.li u.ci) ∧ w.cell? ⟨g, 5, none⟩ = some (.int .i64 b.k) ∧ w.cell? ⟨g, 6, none⟩ = some (.int .i64 b.x) ∧ w.cell? ⟨g, 7, none⟩ = some (.string b.s) ∧ w.cell? ⟨g, 8, none⟩ = some (.slice b.an b.ln b.cn) ∧ w.cell? ⟨g, 9, none⟩ = some (.slice b.ai b.li b.ci) ∧ w.cell? ⟨g, 10, none⟩ = some (.int .i64 (d : Int)) := by
  unfold givenO at h
  refine ⟨?_, ?_, ?_, ?_, ?_, ?_, ?_, ?_, ?_, ?_, ?_⟩
  all_goals simp [World.cell?, h]
set_option maxHeartbeats 1000000 in
set_option maxRecDepth 100000 in
theorem rule_many (br m d : Nat) (s : ByteArray) (u b : V5) (w : World) (hR : ReaderAt w br m 128) :
    Calls Tryz.prog 43 #[.pointer (some ⟨br, 0, none⟩), .string s, givenV u b d] w fun e w' => e = .returned (.tuple #[.nilIface, .int .i64 211]) ∧ Below w.heap.size w w' := by
  have c1 := fun o => cell_alloc' hR.cells.2.1 o
  unfold givenV
  go_enter Tryz.func43, Tryz.ntmps43
  go_wp2_with fail
  go_ret2
  exact ⟨rfl, (Below.refl _ w).alloc (Nat.le_refl _) _⟩
/-- The reader has counted one rule more. -/
theorem count_next {w : World} {br m n : Nat} (hR : ReaderAt w br m n) (o : Obj) : ReaderAt ((w.alloc o).setCell ⟨br, 1, none⟩ (.int .i64 ((n : Int) + 1))) br m (n + 1) ∧ Fr (fun b => b = br) w ((w.alloc o).setCell ⟨br, 1, none⟩ (.int .i64 ((n : Int) + 1))) := by
  have hR' : ReaderAt (w.alloc o) br m n := hR.keep ((Below.refl _ w).alloc (Nat.le_refl _) _)
  exact ⟨hR'.set _ _ (by omega), ((Fr.refl _ w).alloc _).set _ _ (.inl rfl)⟩
theorem run_miss {P : Program} (w : World) {t k e : TypeId} {b : Nat} {es : Array MapEntry} {clock : Nat} {s : ByteArray} {z : Value} (ht : P.underlying t = some (.map k e)) (hk : P.underlying k = some .string) (hb : w.heap[b]? = some (.map es clock)) (hn : Instr.findNow .string (.string s) es.toList 0 = some none) (hz : (zeroValue e).run P w = .ok z w) :
    (Instr.lookup t (.map (some b)) (.string s) true).run P w = .ok (.tuple #[z, .bool false]) w := by
  have h1 := fun x => MapKept.run_checkKey (P := P) (w := w) (k := .string s) hk (by simp [MapKept.IsKey]) x 9999
  have h2 := MapKept.run_findKey (P := P) (w := w) hk hn
  have h0 := MapKept.run_getObj_map (P := P) hb
  simp [Instr.lookup, run_underlying ht, h0, h1, h2, hz]
set_option maxHeartbeats 1000000 in
set_option maxRecDepth 100000 in
theorem rule_none (br m n d : Nat) (s : ByteArray) (u b : V5) (es : Array MapEntry) (c : Nat) (w : World) (hR : ReaderAt w br m n) (hn : n < 128) (hm : w.heap[m]? = some (.map es c)) (hne : m ≠ br) (hf : Instr.findNow .string (.string s) es.toList 0 = some none) :
    Calls Tryz.prog 43 #[.pointer (some ⟨br, 0, none⟩), .string s, givenV u b d] w fun e w' => e = .returned (.tuple #[.nilIface, .int .i64 210]) ∧ ReaderAt w' br m (n + 1) ∧ Fr (fun b => b = br) w w' := by
  have c1 := fun o => cell_alloc' hR.cells.2.1 o
  have f1 : ∀ o, (w.alloc o).frozen? ⟨br, 1, none⟩ = false := fun o => (hR.keep ((Below.refl _ w).alloc (Nat.le_refl _) o)).cells.2.2
  have hnx := fun o => hid_of (count_next hR o)
  have c0 := fun o => (hnx o).out.1.cells.1
  have hlk := fun o => run_miss (P := Tryz.prog) _ Tryz.underlying45 Tryz.underlying9 (((hnx o).out.2.block m (Array.getElem?_eq_some_iff.1 hm).1 hne).trans hm) hf (Tryz.zeroValue69 _)
  have hnb : ((n : Int) == 128) = false := by simp; omega
  have hi : (n : Int) + 1 ≤ 1000 := by omega
  clear hm hf
  unfold givenV
  go_enter Tryz.func43, Tryz.ntmps43
  go_wp2_with fail
  go_ret2
  exact ⟨rfl, (hnx _).out⟩
set_option maxHeartbeats 2000000 in
set_option maxRecDepth 100000 in
/-- A word of the table: its maker is called. -/
theorem rule_found (br m n d i F : Nat) (cap : Array Value) (s : ByteArray) (u b : V5) (es : Array MapEntry) (c : Nat) (w : World) (hR : ReaderAt w br m n) (hn : n < 128) (hm : w.heap[m]? = some (.map es c)) (hne : m ≠ br)
    (hf : Instr.findNow .string (.string s) es.toList 0 = some (some (i, .func (.func F) #[] cap))) (hen : ∀ args W, (callFunc F args).run Tryz.prog W = .ok (.enter F args) W) (Q : Value → Int → World → Prop)
    (hQ : ∀ W, Fr (fun b => b = br) w W → ReaderAt W br m (n + 1) → Calls Tryz.prog F (#[.pointer (some ⟨br, 0, none⟩), givenV u b d] ++ cap) W fun e w' => ∃ r z, e = .returned (.tuple #[r, .int .i64 z]) ∧ Q r z w') :
    Calls Tryz.prog 43 #[.pointer (some ⟨br, 0, none⟩), .string s, givenV u b d] w fun e w' => ∃ r z, e = .returned (.tuple #[r, .int .i64 z]) ∧ Q r z w' := by
  have c1 := fun o => cell_alloc' hR.cells.2.1 o
  have f1 : ∀ o, (w.alloc o).frozen? ⟨br, 1, none⟩ = false := fun o => (hR.keep ((Below.refl _ w).alloc (Nat.le_refl _) o)).cells.2.2
  have hnx := fun o => hid_of (count_next hR o)
  have c0 := fun o => (hnx o).out.1.cells.1
  have hlk := fun o => run_look (P := Tryz.prog) _ Tryz.underlying45 Tryz.underlying9 (((hnx o).out.2.block m (Array.getElem?_eq_some_iff.1 hm).1 hne).trans hm) hf
  have hnb : ((n : Int) == 128) = false := by simp; omega
  have hi : (n : Int) + 1 ≤ 1000 := by omega
  have hX := fun (o : Obj) => (Below.heap_setCell (w.alloc o) ⟨br, 1, none⟩ (.int .i64 ((n : Int) + 1)) w.heap.size (by have := hR.lt; show w.heap.size ≠ br; omega)).trans (heap_alloc_new w o)
  have hq := fun o => hid_of (hQ _ (hnx o).out.2 (hnx o).out.1)
  clear hm hf hQ
  unfold givenV at hq
  unfold givenV
  go_enter Tryz.func43, Tryz.ntmps43
  go_upto_region 7 with fail
  obtain ⟨x0, x1, x2, x3, x4, x5, x6, x7, x8, x9, x10⟩ := givenO_cells (hX (givenO u b d))
  replace hq := (hq (givenO u b d)).out
  unfold givenO at x0 x1 x2 x3 x4 x5 x6 x7 x8 x9 x10 hq
  clear hX hnx hlk c0 c1 f1 hi hnb
  generalize (w.alloc (.cells #[.int .i64 u.k, .int .i64 u.x, .string u.s, .slice u.an u.ln u.cn, .slice u.ai u.li u.ci, .int .i64 b.k, .int .i64 b.x, .string b.s, .slice b.an b.ln b.cn, .slice b.ai b.li b.ci, .int .i64 (d : Int)] 82)).setCell ⟨br, 1, none⟩ (.int .i64 ((n : Int) + 1)) = X at x0 x1 x2 x3 x4 x5 x6 x7 x8 x9 x10 hq ⊢
  go_wp2_with fail
  refine hq.mono ?_
  rintro e W1 ⟨r, z, rfl, hq1⟩
  go_wp2_with fail
  go_ret2
  exact ⟨r, z, rfl, hq1⟩
end Go.Proofs.YtgjemghfejaifaaGreatDoor
