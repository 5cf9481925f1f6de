import Derived.Test.YtdfkfnhppjhghaaGreatProg
import Derived.WalkKit
import Derived.WalkLawsBesides
import Derived.Outline
import Derived.Below
import Derived.Deep.QuietTactic
import Derived.BigQuiet
import Derived.Deep.DeepFit
import Derived.Maps.Own
/-! The table of operators: a map of closures. -/
namespace Go.Proofs.YtdfkfnhppjhghaaGreat
open Go Go.RowKit

theorem run_put {P : Program} (w : World) {t k e : TypeId} {b : Nat} {es : Array MapEntry} {clock : Nat} {s : ByteArray} {val : Value} (ht : P.underlying t = some (.map k e)) (hk : P.underlying k = some .string) (hb : w.heap[b]? = some (.map es clock)) (hn : Instr.findNow .string (.string s) es.toList 0 = some none) :
    (Instr.mapUpdate t (.map (some b)) (.string s) val).run P w = .ok () { w with heap := w.heap.setIfInBounds b (.map (es.push ⟨.string s, val, clock⟩) (clock + 1)) } := by
  have h1 := MapKept.run_checkKey (P := P) (w := w) (k := .string s) hk (by simp [MapKept.IsKey]) false 9999
  have h2 := MapKept.run_findKey (P := P) (w := w) hk hn
  have h3 := MapKept.run_setObj_map (P := P) (.map (es.push ⟨.string s, val, clock⟩) (clock + 1)) hb
  have h0 := MapKept.run_getObj_map (P := P) hb
  simp [Instr.mapUpdate, run_underlying ht, h0, h1, h2, h3]
theorem run_look {P : Program} (w : World) {t k e : TypeId} {b : Nat} {es : Array MapEntry} {clock i : Nat} {s : ByteArray} {val : Value} (ht : P.underlying t = some (.map k e)) (hk : P.underlying k = some .string) (hb : w.heap[b]? = some (.map es clock)) (hn : Instr.findNow .string (.string s) es.toList 0 = some (some (i, val))) :
    (Instr.lookup t (.map (some b)) (.string s) true).run P w = .ok (.tuple #[val, .bool true]) w := by
  have h1 := fun x => MapKept.run_checkKey (P := P) (w := w) (k := .string s) hk (by simp [MapKept.IsKey]) x 9999
  have h2 := MapKept.run_findKey (P := P) (w := w) hk hn
  have h0 := MapKept.run_getObj_map (P := P) hb
  simp [Instr.lookup, run_underlying ht, h0, h1, h2]
theorem anything_any (n : Nat) (cap : Array Value) (w : World) : Calls Tryz.prog 52 #[.func (.func n) #[] cap] w fun e w' => e = .returned (.func (.func 77) #[] #[.pointer (some ⟨w.heap.size, 0, none⟩)]) ∧ w' = w.alloc (.cells #[.func (.func n) #[] cap] 102) := by
  go_enter Tryz.func52, Tryz.ntmps52
  go_wp2
  go_ret
  exact ⟨rfl, rfl⟩
theorem opposite_any (n : Nat) (cap : Array Value) (w : World) : Calls Tryz.prog 54 #[.func (.func n) #[] cap] w fun e w' => e = .returned (.func (.func 80) #[] #[.pointer (some ⟨w.heap.size, 0, none⟩)]) ∧ w' = w.alloc (.cells #[.func (.func n) #[] cap] 100) := by
  go_enter Tryz.func54, Tryz.ntmps54
  go_wp2
  go_ret
  exact ⟨rfl, rfl⟩
theorem compares_any (n : Nat) (cap : Array Value) (w : World) : Calls Tryz.prog 55 #[.func (.func n) #[] cap] w fun e w' => e = .returned (.func (.func 82) #[] #[.pointer (some ⟨w.heap.size, 0, none⟩)]) ∧ w' = w.alloc (.cells #[.func (.func n) #[] cap] 107) := by
  go_enter Tryz.func55, Tryz.ntmps55
  go_wp2
  go_ret
  exact ⟨rfl, rfl⟩
theorem list_any (n : Nat) (cap : Array Value) (w : World) : Calls Tryz.prog 60 #[.func (.func n) #[] cap] w fun e w' => e = .returned (.func (.func 88) #[] #[.pointer (some ⟨w.heap.size, 0, none⟩)]) ∧ w' = w.alloc (.cells #[.func (.func n) #[] cap] 109) := by
  go_enter Tryz.func60, Tryz.ntmps60
  go_wp2
  go_ret
  exact ⟨rfl, rfl⟩
theorem look_alloc {w : World} {k : Nat} {x : Obj} (h : w.heap[k]? = some x) (o : Obj) : (w.alloc o).heap[k]? = some x := (Below.heap_alloc w o k (Array.getElem?_eq_some_iff.1 h).1).trans h
theorem grown_tr {a b c : World} {r : Option Nat} (h : a.grownBy b r) (g : b.grownBy c r) : a.grownBy c r := ⟨g.os.trans h.os, g.tape.trans h.tape, g.output.trans h.output, Nat.le_trans h.size g.size, fun k hk hr => (g.block k (Nat.lt_of_lt_of_le hk h.size) hr).trans (h.block k hk hr)⟩
/-- The map that is being filled: its block is w's next one; since the world w3 that block alone was written. -/
structure Ins (w w3 wk : World) (es : Array MapEntry) (c : Nat) : Prop where
  below : Below w.heap.size w wk
  grown : w3.grownBy wk (some w.heap.size)
  at_ : wk.heap[w.heap.size]? = some (.map es c)
theorem Ins.alloc {w w3 wk : World} {es : Array MapEntry} {c : Nat} (h : Ins w w3 wk es c) (o : Obj) : Ins w w3 (wk.alloc o) es c :=
  ⟨h.below.alloc h.below.size o, grown_tr h.grown (World.grownBy_alloc wk o _), look_alloc h.at_ o⟩
theorem Ins.mark {w w3 wk : World} {es : Array MapEntry} {c : Nat} (h : Ins w w3 wk es c) : Ins w wk wk es c := ⟨h.below, World.grownBy.refl _ _, h.at_⟩
theorem Ins.put {w w3 wk w' : World} {es es' : Array MapEntry} {c c' : Nat} (h : Ins w w3 wk es c) (hb : w'.heap[w.heap.size]? = some (.map es' c')) (hg : wk.grownBy w' (some w.heap.size)) : Ins w w3 w' es' c' :=
  ⟨⟨hg.os.trans h.below.os, hg.tape.trans h.below.tape, hg.output.trans h.below.output, Nat.le_trans h.below.size hg.size, fun k hk => (hg.block k (Nat.lt_of_lt_of_le hk h.below.size) (fun e => by cases e; omega)).trans (h.below.block k hk)⟩, grown_tr h.grown hg, hb⟩
theorem upon_ins {P : Program} {w w0 w3 : World} {o : Oper} {a : Act} {next : Act → World → Prop} {Q : Exit → Act → World → Prop} {t k e : TypeId} {es : Array MapEntry} {c : Nat} {s : ByteArray} {val : Value} (ht : P.underlying t = some (.map k e)) (hk : P.underlying k = some .string)
    (hI : Ins w0 w3 w es c) (hn : Instr.findNow .string (.string s) es.toList 0 = some none) (hK : ∀ w', Ins w0 w3 w' (es.push ⟨.string s, val, c⟩) (c + 1) → next (a.put o.dst undef) w') :
    Oper.upon P o a next Q (((Instr.mapUpdate t (.map (some w0.heap.size)) (.string s) val).run P w).andThen fun _ w' => Result.ok Next.skip w') := by
  rw [run_put w ht hk hI.at_ hn]
  exact hK _ (hI.put (MapKept.heap_set hI.at_).1 ⟨rfl, rfl, rfl, by simp, fun i _ hi => (MapKept.heap_set hI.at_).2 i (fun e => hi (by rw [e]))⟩)
def dollarGt : ByteArray := ⟨#[36, 103, 116]⟩
/-- The table, as far as it is asked. -/
structure Table (w : World) (m b1 b2 : Nat) : Prop where
  found : ∃ es c, w.heap[m]? = some (.map es c) ∧ Instr.findNow .string (.string dollarGt) es.toList 0 = some (some (2, .agg #[.int .i64 2, .func (.func 77) #[] #[.pointer (some ⟨b1, 0, none⟩)]]))
  one : w.cell? ⟨b1, 0, none⟩ = some (.func (.func 82) #[] #[.pointer (some ⟨b2, 0, none⟩)])
  two : w.cell? ⟨b2, 0, none⟩ = some (.func (.func 56) #[] #[])
set_option maxHeartbeats 4000000 in
set_option maxRecDepth 100000 in
theorem operators_any (w : World) : Calls Tryz.prog 35 #[] w fun e w' => Below w.heap.size w w' ∧ ∃ m b1 b2, e = .returned (.map (some m)) ∧ w.heap.size ≤ m ∧ w.heap.size ≤ b1 ∧ w.heap.size ≤ b2 ∧ Table w' m b1 b2 := by
  have hmm := @run_makeMap Tryz.prog
  have hI : Ins w (w.alloc (.map #[] 0)) (w.alloc (.map #[] 0)) #[] 0 := ⟨(Below.refl _ w).alloc (Nat.le_refl _) _, World.grownBy.refl _ _, heap_alloc_new w _⟩
  go_enter Tryz.func35, Tryz.ntmps35
  go_wp2_with fail
  generalize w.alloc (.map #[] 0) = wm at hI
  refine (anything_any _ _ _).mono ?_
  rintro e w' ⟨rfl, rfl⟩
  go_wp2_with fail
  refine upon_ins Tryz.underlying71 Tryz.underlying9 (hI.alloc _) (by kernel_rfl) ?_
  intro w1 hI1
  clear hI
  go_wp2_with fail
  refine (anything_any _ _ _).mono ?_
  rintro e w' ⟨rfl, rfl⟩
  go_wp2_with fail
  refine (opposite_any _ _ _).mono ?_
  rintro e w' ⟨rfl, rfl⟩
  go_wp2_with fail
  refine upon_ins Tryz.underlying71 Tryz.underlying9 ((hI1.alloc _).alloc _) (by kernel_rfl) ?_
  intro w2 hI2
  clear hI1
  go_wp2_with fail
  refine (compares_any _ _ _).mono ?_
  rintro e w' ⟨rfl, rfl⟩
  go_wp2_with fail
  refine (anything_any _ _ _).mono ?_
  rintro e w' ⟨rfl, rfl⟩
  go_wp2_with fail
  obtain ⟨W2, hW2⟩ : ∃ W2, Hid (((w2.alloc (.cells #[.func (.func 56) #[] #[]] 107)).alloc (.cells #[.func (.func 82) #[] #[.pointer (some ⟨w2.heap.size, 0, none⟩)]] 102)) = W2) := ⟨_, rfl⟩
  have hlt2 : Hid (w.heap.size < w2.heap.size) := (Array.getElem?_eq_some_iff.1 hI2.at_).1
  have hIm := ((hI2.alloc (.cells #[.func (.func 56) #[] #[]] 107)).alloc (.cells #[.func (.func 82) #[] #[.pointer (some ⟨w2.heap.size, 0, none⟩)]] 102)).mark
  rw [hW2.out] at hIm
  have hc : Hid (W2.cell? ⟨w2.heap.size + 1, 0, none⟩ = some (.func (.func 82) #[] #[.pointer (some ⟨w2.heap.size, 0, none⟩)]) ∧ W2.cell? ⟨w2.heap.size, 0, none⟩ = some (.func (.func 56) #[] #[]) ∧ W2.heap.size = w2.heap.size + 2) := by
    rw [← hW2.out]
    refine ⟨?_, ?_, by simp⟩
    · have := heap_alloc_new (w2.alloc (.cells #[.func (.func 56) #[] #[]] 107)) (.cells #[.func (.func 82) #[] #[.pointer (some ⟨w2.heap.size, 0, none⟩)]] 102)
      rw [World.size_alloc] at this
      exact cell_of_one this
    · have := look_alloc (heap_alloc_new w2 (.cells #[.func (.func 56) #[] #[]] 107)) (.cells #[.func (.func 82) #[] #[.pointer (some ⟨w2.heap.size, 0, none⟩)]] 102)
      exact cell_of_one this
  rw [hW2.out]
  refine upon_ins Tryz.underlying71 Tryz.underlying9 hIm (by kernel_rfl) ?_
  intro w3 hI3
  clear hI2 hIm hW2
  go_wp2_with fail
  refine (compares_any _ _ _).mono ?_
  rintro e w' ⟨rfl, rfl⟩
  go_wp2_with fail
  refine (anything_any _ _ _).mono ?_
  rintro e w' ⟨rfl, rfl⟩
  go_wp2_with fail
  refine upon_ins Tryz.underlying71 Tryz.underlying9 ((hI3.alloc _).alloc _) (by kernel_rfl) ?_
  intro w4 hI4
  clear hI3
  go_wp2_with fail
  refine (compares_any _ _ _).mono ?_
  rintro e w' ⟨rfl, rfl⟩
  go_wp2_with fail
  refine (anything_any _ _ _).mono ?_
  rintro e w' ⟨rfl, rfl⟩
  go_wp2_with fail
  refine upon_ins Tryz.underlying71 Tryz.underlying9 ((hI4.alloc _).alloc _) (by kernel_rfl) ?_
  intro w5 hI5
  clear hI4
  go_wp2_with fail
  refine (compares_any _ _ _).mono ?_
  rintro e w' ⟨rfl, rfl⟩
  go_wp2_with fail
  refine (anything_any _ _ _).mono ?_
  rintro e w' ⟨rfl, rfl⟩
  go_wp2_with fail
  refine upon_ins Tryz.underlying71 Tryz.underlying9 ((hI5.alloc _).alloc _) (by kernel_rfl) ?_
  intro w6 hI6
  clear hI5
  go_wp2_with fail
  refine (list_any _ _ _).mono ?_
  rintro e w' ⟨rfl, rfl⟩
  go_wp2_with fail
  refine upon_ins Tryz.underlying71 Tryz.underlying9 (hI6.alloc _) (by kernel_rfl) ?_
  intro w7 hI7
  clear hI6
  go_wp2_with fail
  refine (list_any _ _ _).mono ?_
  rintro e w' ⟨rfl, rfl⟩
  go_wp2_with fail
  refine (opposite_any _ _ _).mono ?_
  rintro e w' ⟨rfl, rfl⟩
  go_wp2_with fail
  refine upon_ins Tryz.underlying71 Tryz.underlying9 ((hI7.alloc _).alloc _) (by kernel_rfl) ?_
  intro w8 hI8
  clear hI7
  go_wp2_with fail
  refine (list_any _ _ _).mono ?_
  rintro e w' ⟨rfl, rfl⟩
  go_wp2_with fail
  refine upon_ins Tryz.underlying71 Tryz.underlying9 (hI8.alloc _) (by kernel_rfl) ?_
  intro w9 hI9
  clear hI8
  go_wp2_with fail
  refine upon_ins Tryz.underlying71 Tryz.underlying9 hI9 (by kernel_rfl) ?_
  intro w10 hI10
  clear hI9
  go_wp2_with fail
  refine upon_ins Tryz.underlying71 Tryz.underlying9 hI10 (by kernel_rfl) ?_
  intro w11 hI11
  clear hI10
  go_wp2_with fail
  refine upon_ins Tryz.underlying71 Tryz.underlying9 hI11 (by kernel_rfl) ?_
  intro w12 hI12
  clear hI11
  go_wp2_with fail
  refine upon_ins Tryz.underlying71 Tryz.underlying9 hI12 (by kernel_rfl) ?_
  intro w13 hI13
  clear hI12
  go_wp2_with fail
  refine (opposite_any _ _ _).mono ?_
  rintro e w' ⟨rfl, rfl⟩
  go_wp2_with fail
  refine upon_ins Tryz.underlying71 Tryz.underlying9 (hI13.alloc _) (by kernel_rfl) ?_
  intro w14 hI14
  clear hI13
  go_wp2_with fail
  refine upon_ins Tryz.underlying71 Tryz.underlying9 hI14 (by kernel_rfl) ?_
  intro w15 hI15
  clear hI14
  go_wp2_with fail
  go_ret
  have hl := hlt2.out
  obtain ⟨k1, k2, k3⟩ := hc.out
  refine ⟨hI15.below, _, w2.heap.size + 1, w2.heap.size, rfl, Nat.le_refl _, by omega, by omega, ⟨⟨_, _, hI15.at_, by kernel_rfl⟩, ?_, ?_⟩⟩
  · exact (World.cell?_of_block (w := W2) (hI15.grown.block _ (show w2.heap.size + 1 < W2.heap.size by omega) (fun e => absurd (Option.some.inj e) (show w2.heap.size + 1 ≠ w.heap.size by omega)))).trans k1
  · exact (World.cell?_of_block (w := W2) (hI15.grown.block _ (show w2.heap.size < W2.heap.size by omega) (fun e => absurd (Option.some.inj e) (show w2.heap.size ≠ w.heap.size by omega)))).trans k2
end Go.Proofs.YtdfkfnhppjhghaaGreat
