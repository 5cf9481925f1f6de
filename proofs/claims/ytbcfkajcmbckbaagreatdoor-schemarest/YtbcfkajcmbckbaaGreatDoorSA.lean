import Derived.Test.YtbcfkajcmbckbaaGreatDoorLK
import Derived.Maps.Own
/-! schema: the table of words: a map of makers. -/
namespace Go.Proofs.YtbcfkajcmbckbaaGreatDoor
open Go Go.RowKit

theorem run_put {P : Program} (w : World) {t k e : TypeId} {b : Nat} {es : Array MapEntry} {clock : Nat} {s : ByteArray} {val : Value} (ht : P.underlying t = some (.map k e)) (hk : P.underlying k = some .string) (hb : w.heap[b]? = some (.map es clock)) (hn : Instr.findNow .string (.string s) es.toList 0 = some none) :
    (Instr.mapUpdate t (.map (some b)) (.string s) val).run P w = .ok () { w with heap := w.heap.setIfInBounds b (.map (es.push ⟨.string s, val, clock⟩) (clock + 1)) } := by
  have h1 := MapKept.run_checkKey (P := P) (w := w) (k := .string s) hk (by simp [MapKept.IsKey]) false 9999
  have h2 := MapKept.run_findKey (P := P) (w := w) hk hn
  have h3 := MapKept.run_setObj_map (P := P) (.map (es.push ⟨.string s, val, clock⟩) (clock + 1)) hb
  have h0 := MapKept.run_getObj_map (P := P) hb
  simp [Instr.mapUpdate, run_underlying ht, h0, h1, h2, h3]
theorem run_look {P : Program} (w : World) {t k e : TypeId} {b : Nat} {es : Array MapEntry} {clock i : Nat} {s : ByteArray} {val : Value} (ht : P.underlying t = some (.map k e)) (hk : P.underlying k = some .string) (hb : w.heap[b]? = some (.map es clock)) (hn : Instr.findNow .string (.string s) es.toList 0 = some (some (i, val))) :
    (Instr.lookup t (.map (some b)) (.string s) true).run P w = .ok (.tuple #[val, .bool true]) w := by
  have h1 := fun x => MapKept.run_checkKey (P := P) (w := w) (k := .string s) hk (by simp [MapKept.IsKey]) x 9999
  have h2 := MapKept.run_findKey (P := P) (w := w) hk hn
  have h0 := MapKept.run_getObj_map (P := P) hb
  simp [Instr.lookup, run_underlying ht, h0, h1, h2]
theorem look_alloc {w : World} {k : Nat} {x : Obj} (h : w.heap[k]? = some x) (o : Obj) : (w.alloc o).heap[k]? = some x := (Below.heap_alloc w o k (Array.getElem?_eq_some_iff.1 h).1).trans h
theorem grown_tr {a b c : World} {r : Option Nat} (h : a.grownBy b r) (g : b.grownBy c r) : a.grownBy c r := ⟨g.os.trans h.os, g.tape.trans h.tape, g.output.trans h.output, Nat.le_trans h.size g.size, fun k hk hr => (g.block k (Nat.lt_of_lt_of_le hk h.size) hr).trans (h.block k hk hr)⟩
/-- The map that is being filled: its block is w's next one; since the world w3 that block alone was written. -/
structure Ins (w w3 wk : World) (es : Array MapEntry) (c : Nat) : Prop where
  below : Below w.heap.size w wk
  grown : w3.grownBy wk (some w.heap.size)
  at_ : wk.heap[w.heap.size]? = some (.map es c)
theorem Ins.alloc {w w3 wk : World} {es : Array MapEntry} {c : Nat} (h : Ins w w3 wk es c) (o : Obj) : Ins w w3 (wk.alloc o) es c :=
  ⟨h.below.alloc h.below.size o, grown_tr h.grown (World.grownBy_alloc wk o _), look_alloc h.at_ o⟩
theorem Ins.mark {w w3 wk : World} {es : Array MapEntry} {c : Nat} (h : Ins w w3 wk es c) : Ins w wk wk es c := ⟨h.below, World.grownBy.refl _ _, h.at_⟩
theorem Ins.put {w w3 wk w' : World} {es es' : Array MapEntry} {c c' : Nat} (h : Ins w w3 wk es c) (hb : w'.heap[w.heap.size]? = some (.map es' c')) (hg : wk.grownBy w' (some w.heap.size)) : Ins w w3 w' es' c' :=
  ⟨⟨hg.os.trans h.below.os, hg.tape.trans h.below.tape, hg.output.trans h.below.output, Nat.le_trans h.below.size hg.size, fun k hk => (hg.block k (Nat.lt_of_lt_of_le hk h.below.size) (fun e => by cases e; omega)).trans (h.below.block k hk)⟩, grown_tr h.grown hg, hb⟩
theorem upon_ins {P : Program} {w w0 w3 : World} {o : Oper} {a : Act} {next : Act → World → Prop} {Q : Exit → Act → World → Prop} {t k e : TypeId} {es : Array MapEntry} {c : Nat} {s : ByteArray} {val : Value} (ht : P.underlying t = some (.map k e)) (hk : P.underlying k = some .string)
    (hI : Ins w0 w3 w es c) (hn : Instr.findNow .string (.string s) es.toList 0 = some none) (hK : ∀ w', Ins w0 w3 w' (es.push ⟨.string s, val, c⟩) (c + 1) → next (a.put o.dst undef) w') :
    Oper.upon P o a next Q (((Instr.mapUpdate t (.map (some w0.heap.size)) (.string s) val).run P w).andThen fun _ w' => Result.ok Next.skip w') := by
  rw [run_put w ht hk hI.at_ hn]
  exact hK _ (hI.put (MapKept.heap_set hI.at_).1 ⟨rfl, rfl, rfl, by simp, fun i _ hi => (MapKept.heap_set hI.at_).2 i (fun e => hi (by rw [e]))⟩)
def wType : ByteArray := ⟨#[116, 121, 112, 101]⟩
def wEnum : ByteArray := ⟨#[101, 110, 117, 109]⟩
def wRequired : ByteArray := ⟨#[114, 101, 113, 117, 105, 114, 101, 100]⟩
def wProperties : ByteArray := ⟨#[112, 114, 111, 112, 101, 114, 116, 105, 101, 115]⟩
def wAdditional : ByteArray := ⟨#[97, 100, 100, 105, 116, 105, 111, 110, 97, 108]⟩
def wItems : ByteArray := ⟨#[105, 116, 101, 109, 115]⟩
def wMinItems : ByteArray := ⟨#[109, 105, 110, 73, 116, 101, 109, 115]⟩
def wMaxItems : ByteArray := ⟨#[109, 97, 120, 73, 116, 101, 109, 115]⟩
def wMinLength : ByteArray := ⟨#[109, 105, 110, 76, 101, 110, 103, 116, 104]⟩
def wMaxLength : ByteArray := ⟨#[109, 97, 120, 76, 101, 110, 103, 116, 104]⟩
def wMinimum : ByteArray := ⟨#[109, 105, 110, 105, 109, 117, 109]⟩
def wMaximum : ByteArray := ⟨#[109, 97, 120, 105, 109, 117, 109]⟩
def wDivisible : ByteArray := ⟨#[100, 105, 118, 105, 115, 105, 98, 108, 101]⟩
def wAnyOf : ByteArray := ⟨#[97, 110, 121, 79, 102]⟩
def wAllOf : ByteArray := ⟨#[97, 108, 108, 79, 102]⟩
def wNot : ByteArray := ⟨#[110, 111, 116]⟩
def fnV (n : Nat) : Value := .func (.func n) #[] #[]
def boundV (n b : Nat) : Value := .func (.func n) #[] #[.pointer (some ⟨b, 0, none⟩), .pointer (some ⟨b + 1, 0, none⟩)]
theorem bound_itemsOf (x : Int) (n : Nat) (w : World) : Calls Tryz.prog 37 #[.int .i64 x, .func (.func n) #[] #[]] w fun e w' => e = .returned (boundV 61 w.heap.size) ∧ w' = (w.alloc (.cells #[.int .i64 x] 2)).alloc (.cells #[.func (.func n) #[] #[]] 79) := by
  unfold boundV
  go_enter Tryz.func37, Tryz.ntmps37
  go_wp2
  go_ret
  exact ⟨by simp, rfl⟩
theorem bound_charactersOf (x : Int) (n : Nat) (w : World) : Calls Tryz.prog 40 #[.int .i64 x, .func (.func n) #[] #[]] w fun e w' => e = .returned (boundV 62 w.heap.size) ∧ w' = (w.alloc (.cells #[.int .i64 x] 2)).alloc (.cells #[.func (.func n) #[] #[]] 79) := by
  unfold boundV
  go_enter Tryz.func40, Tryz.ntmps40
  go_wp2
  go_ret
  exact ⟨by simp, rfl⟩
theorem bound_intOf (x : Int) (n : Nat) (w : World) : Calls Tryz.prog 41 #[.int .i64 x, .func (.func n) #[] #[]] w fun e w' => e = .returned (boundV 63 w.heap.size) ∧ w' = (w.alloc (.cells #[.int .i64 x] 2)).alloc (.cells #[.func (.func n) #[] #[]] 79) := by
  unfold boundV
  go_enter Tryz.func41, Tryz.ntmps41
  go_wp2
  go_ret
  exact ⟨by simp, rfl⟩
def entriesS (b0 b1 b2 b3 b4 b5 b6 : Nat) : Array MapEntry := #[⟨.string wType, fnV 31, 0⟩, ⟨.string wEnum, fnV 32, 1⟩, ⟨.string wRequired, fnV 33, 2⟩, ⟨.string wProperties, fnV 34, 3⟩, ⟨.string wAdditional, fnV 35, 4⟩, ⟨.string wItems, fnV 36, 5⟩, ⟨.string wMinItems, boundV 61 b0, 6⟩, ⟨.string wMaxItems, boundV 61 b1, 7⟩, ⟨.string wMinLength, boundV 62 b2, 8⟩, ⟨.string wMaxLength, boundV 62 b3, 9⟩, ⟨.string wMinimum, boundV 63 b4, 10⟩, ⟨.string wMaximum, boundV 63 b5, 11⟩, ⟨.string wDivisible, boundV 63 b6, 12⟩, ⟨.string wAnyOf, fnV 43, 13⟩, ⟨.string wAllOf, fnV 44, 14⟩, ⟨.string wNot, fnV 45, 15⟩]
/-- A maker's two boxes: the least that may be given, and what it asks. -/
structure BoxesAt (w : World) (b : Nat) (x : Int) (n : Nat) : Prop where
  one : w.cell? ⟨b, 0, none⟩ = some (.int .i64 x)
  two : w.cell? ⟨b + 1, 0, none⟩ = some (fnV n)
theorem BoxesAt.keep {w w' : World} {b n : Nat} {x : Int} (h : BoxesAt w b x n) (hk : ∀ k, k < w.heap.size → k = b ∨ k = b + 1 → w'.heap[k]? = w.heap[k]?) : BoxesAt w' b x n :=
  ⟨(World.cell?_of_block (w := w) (hk b (lt_of_cell h.one) (.inl rfl))).trans h.one, (World.cell?_of_block (w := w) (hk (b + 1) (lt_of_cell h.two) (.inr rfl))).trans h.two⟩
theorem boxes_new (w : World) (x : Int) (n : Nat) : BoxesAt ((w.alloc (.cells #[.int .i64 x] 2)).alloc (.cells #[.func (.func n) #[] #[]] 79)) w.heap.size x n :=
  ⟨by simp only [World.cell?, new1]; rfl, by simp only [World.cell?, new2]; rfl⟩
/-- The table of words. -/
structure Table (w : World) (m b0 b1 b2 b3 b4 b5 b6 : Nat) : Prop where
  map : w.heap[m]? = some (.map (entriesS b0 b1 b2 b3 b4 b5 b6) 16)
  x0 : BoxesAt w b0 0 38
  x1 : BoxesAt w b1 0 39
  x2 : BoxesAt w b2 0 38
  x3 : BoxesAt w b3 0 39
  x4 : BoxesAt w b4 (-9223372036854775808) 38
  x5 : BoxesAt w b5 (-9223372036854775808) 39
  x6 : BoxesAt w b6 1 42
theorem Table.keep {w w' : World} {m b0 b1 b2 b3 b4 b5 b6 : Nat} (h : Table w m b0 b1 b2 b3 b4 b5 b6) (hb : ∀ k, k < w.heap.size → w'.heap[k]? = w.heap[k]?) : Table w' m b0 b1 b2 b3 b4 b5 b6 :=
  ⟨(hb m (Array.getElem?_eq_some_iff.1 h.map).1).trans h.map, h.x0.keep fun k hk _ => hb k hk, h.x1.keep fun k hk _ => hb k hk, h.x2.keep fun k hk _ => hb k hk, h.x3.keep fun k hk _ => hb k hk, h.x4.keep fun k hk _ => hb k hk, h.x5.keep fun k hk _ => hb k hk, h.x6.keep fun k hk _ => hb k hk⟩
theorem Table.kept {w w' : World} {m b0 b1 b2 b3 b4 b5 b6 br : Nat} (h : Table w m b0 b1 b2 b3 b4 b5 b6) (hb : ∀ k, k < w.heap.size → k ≠ br → w'.heap[k]? = w.heap[k]?) (hm : m ≠ br) (n0 : b0 ≠ br ∧ b0 + 1 ≠ br) (n1 : b1 ≠ br ∧ b1 + 1 ≠ br) (n2 : b2 ≠ br ∧ b2 + 1 ≠ br) (n3 : b3 ≠ br ∧ b3 + 1 ≠ br) (n4 : b4 ≠ br ∧ b4 + 1 ≠ br) (n5 : b5 ≠ br ∧ b5 + 1 ≠ br) (n6 : b6 ≠ br ∧ b6 + 1 ≠ br) : Table w' m b0 b1 b2 b3 b4 b5 b6 :=
  ⟨(hb m (Array.getElem?_eq_some_iff.1 h.map).1 hm).trans h.map, h.x0.keep fun k hk e => hb k hk (by omega), h.x1.keep fun k hk e => hb k hk (by omega), h.x2.keep fun k hk e => hb k hk (by omega), h.x3.keep fun k hk e => hb k hk (by omega), h.x4.keep fun k hk e => hb k hk (by omega), h.x5.keep fun k hk e => hb k hk (by omega), h.x6.keep fun k hk e => hb k hk (by omega)⟩
/-- What is carried along while the map is filled. -/
theorem Ins.cells {w w3 wk : World} {es : Array MapEntry} {c : Nat} (_ : Ins w w3 wk es c) {b n : Nat} {x : Int} (hx : BoxesAt w3 b x n) (hl : w.heap.size < b) (hg : w3.grownBy wk (some w.heap.size)) : BoxesAt wk b x n :=
  hx.keep fun k hk e => hg.block k hk (fun e' => absurd (Option.some.inj e') (by omega))
set_option maxHeartbeats 8000000 in
set_option maxRecDepth 100000 in
theorem makers_any (w : World) : Calls Tryz.prog 20 #[] w fun e w' => Below w.heap.size w w' ∧ ∃ m b0 b1 b2 b3 b4 b5 b6, e = .returned (.map (some m)) ∧ w.heap.size ≤ m ∧ (w.heap.size < b0) ∧ (w.heap.size < b1) ∧ (w.heap.size < b2) ∧ (w.heap.size < b3) ∧ (w.heap.size < b4) ∧ (w.heap.size < b5) ∧ (w.heap.size < b6) ∧ Table w' m b0 b1 b2 b3 b4 b5 b6 := by
  have hmm := @run_makeMap Tryz.prog
  have hI : Ins w (w.alloc (.map #[] 0)) (w.alloc (.map #[] 0)) #[] 0 := ⟨(Below.refl _ w).alloc (Nat.le_refl _) _, World.grownBy.refl _ _, heap_alloc_new w _⟩
  replace hI := hid_of hI
  go_enter Tryz.func20, Tryz.ntmps20
  go_wp2_with fail
  generalize w.alloc (.map #[] 0) = wm at hI
  refine upon_ins Tryz.underlying53 Tryz.underlying9 hI.out (by kernel_rfl) ?_
  intro w1 hI1
  clear hI
  replace hI1 := hid_of hI1.mark
  go_wp2_with fail
  refine upon_ins Tryz.underlying53 Tryz.underlying9 hI1.out (by kernel_rfl) ?_
  intro w2 hI2
  clear hI1
  replace hI2 := hid_of hI2.mark
  go_wp2_with fail
  refine upon_ins Tryz.underlying53 Tryz.underlying9 hI2.out (by kernel_rfl) ?_
  intro w3 hI3
  clear hI2
  replace hI3 := hid_of hI3.mark
  go_wp2_with fail
  refine upon_ins Tryz.underlying53 Tryz.underlying9 hI3.out (by kernel_rfl) ?_
  intro w4 hI4
  clear hI3
  replace hI4 := hid_of hI4.mark
  go_wp2_with fail
  refine upon_ins Tryz.underlying53 Tryz.underlying9 hI4.out (by kernel_rfl) ?_
  intro w5 hI5
  clear hI4
  replace hI5 := hid_of hI5.mark
  go_wp2_with fail
  refine upon_ins Tryz.underlying53 Tryz.underlying9 hI5.out (by kernel_rfl) ?_
  intro w6 hI6
  clear hI5
  replace hI6 := hid_of hI6.mark
  go_wp2_with fail
  refine (bound_itemsOf _ _ _).mono ?_
  rintro e w' ⟨rfl, rfl⟩
  have hA := hid_of ((hI6.out.alloc (.cells #[.int .i64 0] 2)).alloc (.cells #[.func (.func 38) #[] #[]] 79)).mark
  have n0 := hid_of (boxes_new w6 0 38)
  have l0 : Hid (w.heap.size < w6.heap.size) := hid_of (Array.getElem?_eq_some_iff.1 hI6.out.at_).1
  obtain ⟨b0, hb0⟩ : ∃ b, Hid (w6.heap.size = b) := ⟨_, rfl⟩
  rw [hb0.out] at n0 l0 ⊢
  obtain ⟨X0, hX0⟩ : ∃ X, Hid (((w6.alloc (.cells #[.int .i64 0] 2)).alloc (.cells #[.func (.func 38) #[] #[]] 79)) = X) := ⟨_, rfl⟩
  rw [hX0.out] at hA n0 ⊢
  clear hX0 hb0 hI6
  unfold boundV
  go_wp2_with fail
  refine upon_ins Tryz.underlying53 Tryz.underlying9 hA.out (by kernel_rfl) ?_
  intro w7 hI7
  clear hA
  replace n0 := hid_of (hI7.cells n0.out l0.out hI7.grown)
  replace hI7 := hid_of hI7.mark
  go_wp2_with fail
  refine (bound_itemsOf _ _ _).mono ?_
  rintro e w' ⟨rfl, rfl⟩
  have hA := hid_of ((hI7.out.alloc (.cells #[.int .i64 0] 2)).alloc (.cells #[.func (.func 39) #[] #[]] 79)).mark
  have n1 := hid_of (boxes_new w7 0 39)
  have l1 : Hid (w.heap.size < w7.heap.size) := hid_of (Array.getElem?_eq_some_iff.1 hI7.out.at_).1
  replace n0 := hid_of (n0.out.keep (w' := ((w7.alloc (.cells #[.int .i64 0] 2)).alloc (.cells #[.func (.func 39) #[] #[]] 79))) fun k hk _ => (Below.heap_alloc _ _ _ (by rw [World.size_alloc]; omega)).trans (Below.heap_alloc _ _ _ hk))
  obtain ⟨b1, hb1⟩ : ∃ b, Hid (w7.heap.size = b) := ⟨_, rfl⟩
  rw [hb1.out] at n1 l1 ⊢
  obtain ⟨X1, hX1⟩ : ∃ X, Hid (((w7.alloc (.cells #[.int .i64 0] 2)).alloc (.cells #[.func (.func 39) #[] #[]] 79)) = X) := ⟨_, rfl⟩
  rw [hX1.out] at hA n0 n1 ⊢
  clear hX1 hb1 hI7
  unfold boundV
  go_wp2_with fail
  refine upon_ins Tryz.underlying53 Tryz.underlying9 hA.out (by kernel_rfl) ?_
  intro w8 hI8
  clear hA
  replace n0 := hid_of (hI8.cells n0.out l0.out hI8.grown)
  replace n1 := hid_of (hI8.cells n1.out l1.out hI8.grown)
  replace hI8 := hid_of hI8.mark
  go_wp2_with fail
  refine (bound_charactersOf _ _ _).mono ?_
  rintro e w' ⟨rfl, rfl⟩
  have hA := hid_of ((hI8.out.alloc (.cells #[.int .i64 0] 2)).alloc (.cells #[.func (.func 38) #[] #[]] 79)).mark
  have n2 := hid_of (boxes_new w8 0 38)
  have l2 : Hid (w.heap.size < w8.heap.size) := hid_of (Array.getElem?_eq_some_iff.1 hI8.out.at_).1
  replace n0 := hid_of (n0.out.keep (w' := ((w8.alloc (.cells #[.int .i64 0] 2)).alloc (.cells #[.func (.func 38) #[] #[]] 79))) fun k hk _ => (Below.heap_alloc _ _ _ (by rw [World.size_alloc]; omega)).trans (Below.heap_alloc _ _ _ hk))
  replace n1 := hid_of (n1.out.keep (w' := ((w8.alloc (.cells #[.int .i64 0] 2)).alloc (.cells #[.func (.func 38) #[] #[]] 79))) fun k hk _ => (Below.heap_alloc _ _ _ (by rw [World.size_alloc]; omega)).trans (Below.heap_alloc _ _ _ hk))
  obtain ⟨b2, hb2⟩ : ∃ b, Hid (w8.heap.size = b) := ⟨_, rfl⟩
  rw [hb2.out] at n2 l2 ⊢
  obtain ⟨X2, hX2⟩ : ∃ X, Hid (((w8.alloc (.cells #[.int .i64 0] 2)).alloc (.cells #[.func (.func 38) #[] #[]] 79)) = X) := ⟨_, rfl⟩
  rw [hX2.out] at hA n0 n1 n2 ⊢
  clear hX2 hb2 hI8
  unfold boundV
  go_wp2_with fail
  refine upon_ins Tryz.underlying53 Tryz.underlying9 hA.out (by kernel_rfl) ?_
  intro w9 hI9
  clear hA
  replace n0 := hid_of (hI9.cells n0.out l0.out hI9.grown)
  replace n1 := hid_of (hI9.cells n1.out l1.out hI9.grown)
  replace n2 := hid_of (hI9.cells n2.out l2.out hI9.grown)
  replace hI9 := hid_of hI9.mark
  go_wp2_with fail
  refine (bound_charactersOf _ _ _).mono ?_
  rintro e w' ⟨rfl, rfl⟩
  have hA := hid_of ((hI9.out.alloc (.cells #[.int .i64 0] 2)).alloc (.cells #[.func (.func 39) #[] #[]] 79)).mark
  have n3 := hid_of (boxes_new w9 0 39)
  have l3 : Hid (w.heap.size < w9.heap.size) := hid_of (Array.getElem?_eq_some_iff.1 hI9.out.at_).1
  replace n0 := hid_of (n0.out.keep (w' := ((w9.alloc (.cells #[.int .i64 0] 2)).alloc (.cells #[.func (.func 39) #[] #[]] 79))) fun k hk _ => (Below.heap_alloc _ _ _ (by rw [World.size_alloc]; omega)).trans (Below.heap_alloc _ _ _ hk))
  replace n1 := hid_of (n1.out.keep (w' := ((w9.alloc (.cells #[.int .i64 0] 2)).alloc (.cells #[.func (.func 39) #[] #[]] 79))) fun k hk _ => (Below.heap_alloc _ _ _ (by rw [World.size_alloc]; omega)).trans (Below.heap_alloc _ _ _ hk))
  replace n2 := hid_of (n2.out.keep (w' := ((w9.alloc (.cells #[.int .i64 0] 2)).alloc (.cells #[.func (.func 39) #[] #[]] 79))) fun k hk _ => (Below.heap_alloc _ _ _ (by rw [World.size_alloc]; omega)).trans (Below.heap_alloc _ _ _ hk))
  obtain ⟨b3, hb3⟩ : ∃ b, Hid (w9.heap.size = b) := ⟨_, rfl⟩
  rw [hb3.out] at n3 l3 ⊢
  obtain ⟨X3, hX3⟩ : ∃ X, Hid (((w9.alloc (.cells #[.int .i64 0] 2)).alloc (.cells #[.func (.func 39) #[] #[]] 79)) = X) := ⟨_, rfl⟩
  rw [hX3.out] at hA n0 n1 n2 n3 ⊢
  clear hX3 hb3 hI9
  unfold boundV
  go_wp2_with fail
  refine upon_ins Tryz.underlying53 Tryz.underlying9 hA.out (by kernel_rfl) ?_
  intro w10 hI10
  clear hA
  replace n0 := hid_of (hI10.cells n0.out l0.out hI10.grown)
  replace n1 := hid_of (hI10.cells n1.out l1.out hI10.grown)
  replace n2 := hid_of (hI10.cells n2.out l2.out hI10.grown)
  replace n3 := hid_of (hI10.cells n3.out l3.out hI10.grown)
  replace hI10 := hid_of hI10.mark
  go_wp2_with fail
  refine (bound_intOf _ _ _).mono ?_
  rintro e w' ⟨rfl, rfl⟩
  have hA := hid_of ((hI10.out.alloc (.cells #[.int .i64 (-9223372036854775808)] 2)).alloc (.cells #[.func (.func 38) #[] #[]] 79)).mark
  have n4 := hid_of (boxes_new w10 (-9223372036854775808) 38)
  have l4 : Hid (w.heap.size < w10.heap.size) := hid_of (Array.getElem?_eq_some_iff.1 hI10.out.at_).1
  replace n0 := hid_of (n0.out.keep (w' := ((w10.alloc (.cells #[.int .i64 (-9223372036854775808)] 2)).alloc (.cells #[.func (.func 38) #[] #[]] 79))) fun k hk _ => (Below.heap_alloc _ _ _ (by rw [World.size_alloc]; omega)).trans (Below.heap_alloc _ _ _ hk))
  replace n1 := hid_of (n1.out.keep (w' := ((w10.alloc (.cells #[.int .i64 (-9223372036854775808)] 2)).alloc (.cells #[.func (.func 38) #[] #[]] 79))) fun k hk _ => (Below.heap_alloc _ _ _ (by rw [World.size_alloc]; omega)).trans (Below.heap_alloc _ _ _ hk))
  replace n2 := hid_of (n2.out.keep (w' := ((w10.alloc (.cells #[.int .i64 (-9223372036854775808)] 2)).alloc (.cells #[.func (.func 38) #[] #[]] 79))) fun k hk _ => (Below.heap_alloc _ _ _ (by rw [World.size_alloc]; omega)).trans (Below.heap_alloc _ _ _ hk))
  replace n3 := hid_of (n3.out.keep (w' := ((w10.alloc (.cells #[.int .i64 (-9223372036854775808)] 2)).alloc (.cells #[.func (.func 38) #[] #[]] 79))) fun k hk _ => (Below.heap_alloc _ _ _ (by rw [World.size_alloc]; omega)).trans (Below.heap_alloc _ _ _ hk))
  obtain ⟨b4, hb4⟩ : ∃ b, Hid (w10.heap.size = b) := ⟨_, rfl⟩
  rw [hb4.out] at n4 l4 ⊢
  obtain ⟨X4, hX4⟩ : ∃ X, Hid (((w10.alloc (.cells #[.int .i64 (-9223372036854775808)] 2)).alloc (.cells #[.func (.func 38) #[] #[]] 79)) = X) := ⟨_, rfl⟩
  rw [hX4.out] at hA n0 n1 n2 n3 n4 ⊢
  clear hX4 hb4 hI10
  unfold boundV
  go_wp2_with fail
  refine upon_ins Tryz.underlying53 Tryz.underlying9 hA.out (by kernel_rfl) ?_
  intro w11 hI11
  clear hA
  replace n0 := hid_of (hI11.cells n0.out l0.out hI11.grown)
  replace n1 := hid_of (hI11.cells n1.out l1.out hI11.grown)
  replace n2 := hid_of (hI11.cells n2.out l2.out hI11.grown)
  replace n3 := hid_of (hI11.cells n3.out l3.out hI11.grown)
  replace n4 := hid_of (hI11.cells n4.out l4.out hI11.grown)
  replace hI11 := hid_of hI11.mark
  go_wp2_with fail
  refine (bound_intOf _ _ _).mono ?_
  rintro e w' ⟨rfl, rfl⟩
  have hA := hid_of ((hI11.out.alloc (.cells #[.int .i64 (-9223372036854775808)] 2)).alloc (.cells #[.func (.func 39) #[] #[]] 79)).mark
  have n5 := hid_of (boxes_new w11 (-9223372036854775808) 39)
  have l5 : Hid (w.heap.size < w11.heap.size) := hid_of (Array.getElem?_eq_some_iff.1 hI11.out.at_).1
  replace n0 := hid_of (n0.out.keep (w' := ((w11.alloc (.cells #[.int .i64 (-9223372036854775808)] 2)).alloc (.cells #[.func (.func 39) #[] #[]] 79))) fun k hk _ => (Below.heap_alloc _ _ _ (by rw [World.size_alloc]; omega)).trans (Below.heap_alloc _ _ _ hk))
  replace n1 := hid_of (n1.out.keep (w' := ((w11.alloc (.cells #[.int .i64 (-9223372036854775808)] 2)).alloc (.cells #[.func (.func 39) #[] #[]] 79))) fun k hk _ => (Below.heap_alloc _ _ _ (by rw [World.size_alloc]; omega)).trans (Below.heap_alloc _ _ _ hk))
  replace n2 := hid_of (n2.out.keep (w' := ((w11.alloc (.cells #[.int .i64 (-9223372036854775808)] 2)).alloc (.cells #[.func (.func 39) #[] #[]] 79))) fun k hk _ => (Below.heap_alloc _ _ _ (by rw [World.size_alloc]; omega)).trans (Below.heap_alloc _ _ _ hk))
  replace n3 := hid_of (n3.out.keep (w' := ((w11.alloc (.cells #[.int .i64 (-9223372036854775808)] 2)).alloc (.cells #[.func (.func 39) #[] #[]] 79))) fun k hk _ => (Below.heap_alloc _ _ _ (by rw [World.size_alloc]; omega)).trans (Below.heap_alloc _ _ _ hk))
  replace n4 := hid_of (n4.out.keep (w' := ((w11.alloc (.cells #[.int .i64 (-9223372036854775808)] 2)).alloc (.cells #[.func (.func 39) #[] #[]] 79))) fun k hk _ => (Below.heap_alloc _ _ _ (by rw [World.size_alloc]; omega)).trans (Below.heap_alloc _ _ _ hk))
  obtain ⟨b5, hb5⟩ : ∃ b, Hid (w11.heap.size = b) := ⟨_, rfl⟩
  rw [hb5.out] at n5 l5 ⊢
  obtain ⟨X5, hX5⟩ : ∃ X, Hid (((w11.alloc (.cells #[.int .i64 (-9223372036854775808)] 2)).alloc (.cells #[.func (.func 39) #[] #[]] 79)) = X) := ⟨_, rfl⟩
  rw [hX5.out] at hA n0 n1 n2 n3 n4 n5 ⊢
  clear hX5 hb5 hI11
  unfold boundV
  go_wp2_with fail
  refine upon_ins Tryz.underlying53 Tryz.underlying9 hA.out (by kernel_rfl) ?_
  intro w12 hI12
  clear hA
  replace n0 := hid_of (hI12.cells n0.out l0.out hI12.grown)
  replace n1 := hid_of (hI12.cells n1.out l1.out hI12.grown)
  replace n2 := hid_of (hI12.cells n2.out l2.out hI12.grown)
  replace n3 := hid_of (hI12.cells n3.out l3.out hI12.grown)
  replace n4 := hid_of (hI12.cells n4.out l4.out hI12.grown)
  replace n5 := hid_of (hI12.cells n5.out l5.out hI12.grown)
  replace hI12 := hid_of hI12.mark
  go_wp2_with fail
  refine (bound_intOf _ _ _).mono ?_
  rintro e w' ⟨rfl, rfl⟩
  have hA := hid_of ((hI12.out.alloc (.cells #[.int .i64 1] 2)).alloc (.cells #[.func (.func 42) #[] #[]] 79)).mark
  have n6 := hid_of (boxes_new w12 1 42)
  have l6 : Hid (w.heap.size < w12.heap.size) := hid_of (Array.getElem?_eq_some_iff.1 hI12.out.at_).1
  replace n0 := hid_of (n0.out.keep (w' := ((w12.alloc (.cells #[.int .i64 1] 2)).alloc (.cells #[.func (.func 42) #[] #[]] 79))) fun k hk _ => (Below.heap_alloc _ _ _ (by rw [World.size_alloc]; omega)).trans (Below.heap_alloc _ _ _ hk))
  replace n1 := hid_of (n1.out.keep (w' := ((w12.alloc (.cells #[.int .i64 1] 2)).alloc (.cells #[.func (.func 42) #[] #[]] 79))) fun k hk _ => (Below.heap_alloc _ _ _ (by rw [World.size_alloc]; omega)).trans (Below.heap_alloc _ _ _ hk))
  replace n2 := hid_of (n2.out.keep (w' := ((w12.alloc (.cells #[.int .i64 1] 2)).alloc (.cells #[.func (.func 42) #[] #[]] 79))) fun k hk _ => (Below.heap_alloc _ _ _ (by rw [World.size_alloc]; omega)).trans (Below.heap_alloc _ _ _ hk))
  replace n3 := hid_of (n3.out.keep (w' := ((w12.alloc (.cells #[.int .i64 1] 2)).alloc (.cells #[.func (.func 42) #[] #[]] 79))) fun k hk _ => (Below.heap_alloc _ _ _ (by rw [World.size_alloc]; omega)).trans (Below.heap_alloc _ _ _ hk))
  replace n4 := hid_of (n4.out.keep (w' := ((w12.alloc (.cells #[.int .i64 1] 2)).alloc (.cells #[.func (.func 42) #[] #[]] 79))) fun k hk _ => (Below.heap_alloc _ _ _ (by rw [World.size_alloc]; omega)).trans (Below.heap_alloc _ _ _ hk))
  replace n5 := hid_of (n5.out.keep (w' := ((w12.alloc (.cells #[.int .i64 1] 2)).alloc (.cells #[.func (.func 42) #[] #[]] 79))) fun k hk _ => (Below.heap_alloc _ _ _ (by rw [World.size_alloc]; omega)).trans (Below.heap_alloc _ _ _ hk))
  obtain ⟨b6, hb6⟩ : ∃ b, Hid (w12.heap.size = b) := ⟨_, rfl⟩
  rw [hb6.out] at n6 l6 ⊢
  obtain ⟨X6, hX6⟩ : ∃ X, Hid (((w12.alloc (.cells #[.int .i64 1] 2)).alloc (.cells #[.func (.func 42) #[] #[]] 79)) = X) := ⟨_, rfl⟩
  rw [hX6.out] at hA n0 n1 n2 n3 n4 n5 n6 ⊢
  clear hX6 hb6 hI12
  unfold boundV
  go_wp2_with fail
  refine upon_ins Tryz.underlying53 Tryz.underlying9 hA.out (by kernel_rfl) ?_
  intro w13 hI13
  clear hA
  replace n0 := hid_of (hI13.cells n0.out l0.out hI13.grown)
  replace n1 := hid_of (hI13.cells n1.out l1.out hI13.grown)
  replace n2 := hid_of (hI13.cells n2.out l2.out hI13.grown)
  replace n3 := hid_of (hI13.cells n3.out l3.out hI13.grown)
  replace n4 := hid_of (hI13.cells n4.out l4.out hI13.grown)
  replace n5 := hid_of (hI13.cells n5.out l5.out hI13.grown)
  replace n6 := hid_of (hI13.cells n6.out l6.out hI13.grown)
  replace hI13 := hid_of hI13.mark
  go_wp2_with fail
  refine upon_ins Tryz.underlying53 Tryz.underlying9 hI13.out (by kernel_rfl) ?_
  intro w14 hI14
  clear hI13
  replace n0 := hid_of (hI14.cells n0.out l0.out hI14.grown)
  replace n1 := hid_of (hI14.cells n1.out l1.out hI14.grown)
  replace n2 := hid_of (hI14.cells n2.out l2.out hI14.grown)
  replace n3 := hid_of (hI14.cells n3.out l3.out hI14.grown)
  replace n4 := hid_of (hI14.cells n4.out l4.out hI14.grown)
  replace n5 := hid_of (hI14.cells n5.out l5.out hI14.grown)
  replace n6 := hid_of (hI14.cells n6.out l6.out hI14.grown)
  replace hI14 := hid_of hI14.mark
  go_wp2_with fail
  refine upon_ins Tryz.underlying53 Tryz.underlying9 hI14.out (by kernel_rfl) ?_
  intro w15 hI15
  clear hI14
  replace n0 := hid_of (hI15.cells n0.out l0.out hI15.grown)
  replace n1 := hid_of (hI15.cells n1.out l1.out hI15.grown)
  replace n2 := hid_of (hI15.cells n2.out l2.out hI15.grown)
  replace n3 := hid_of (hI15.cells n3.out l3.out hI15.grown)
  replace n4 := hid_of (hI15.cells n4.out l4.out hI15.grown)
  replace n5 := hid_of (hI15.cells n5.out l5.out hI15.grown)
  replace n6 := hid_of (hI15.cells n6.out l6.out hI15.grown)
  replace hI15 := hid_of hI15.mark
  go_wp2_with fail
  refine upon_ins Tryz.underlying53 Tryz.underlying9 hI15.out (by kernel_rfl) ?_
  intro w16 hI16
  clear hI15
  replace n0 := hid_of (hI16.cells n0.out l0.out hI16.grown)
  replace n1 := hid_of (hI16.cells n1.out l1.out hI16.grown)
  replace n2 := hid_of (hI16.cells n2.out l2.out hI16.grown)
  replace n3 := hid_of (hI16.cells n3.out l3.out hI16.grown)
  replace n4 := hid_of (hI16.cells n4.out l4.out hI16.grown)
  replace n5 := hid_of (hI16.cells n5.out l5.out hI16.grown)
  replace n6 := hid_of (hI16.cells n6.out l6.out hI16.grown)
  replace hI16 := hid_of hI16.mark
  go_wp2_with fail
  go_ret
  exact ⟨hI16.out.below, w.heap.size, b0, b1, b2, b3, b4, b5, b6, rfl, Nat.le_refl _, l0.out, l1.out, l2.out, l3.out, l4.out, l5.out, l6.out, ⟨hI16.out.at_, n0.out, n1.out, n2.out, n3.out, n4.out, n5.out, n6.out⟩⟩
end Go.Proofs.YtbcfkajcmbckbaaGreatDoor
