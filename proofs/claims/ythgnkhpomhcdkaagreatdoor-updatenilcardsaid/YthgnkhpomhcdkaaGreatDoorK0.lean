import Derived.Test.YthgnkhpomhcdkaaGreatDoorV2
import Derived.Test.YthgnkhpomhcdkaaGreatDoorShelf3
import Derived.Maps.OwnSet
import Derived.Maps.AppendAt
/-! What Check leans on: names in a map, utf8's tables. -/
namespace Go.Proofs.YthgnkhpomhcdkaaGreatDoor
open Go Go.RowKit Go.Maps

/-- All that was there is as it was, but for block b. -/
structure Kp (b : Nat) (w w' : World) : Prop where
  os : w'.os = w.os
  tape : w'.tape = w.tape
  output : w'.output = w.output
  size : w.heap.size ≤ w'.heap.size
  block : ∀ k, k < w.heap.size → k ≠ b → w'.heap[k]? = w.heap[k]?

theorem Kp.refl (b : Nat) (w : World) : Kp b w w := ⟨rfl, rfl, rfl, Nat.le_refl _, fun _ _ _ => rfl⟩
theorem Kp.trans {b : Nat} {x y z : World} (h : Kp b x y) (k : Kp b y z) : Kp b x z :=
  ⟨k.os.trans h.os, k.tape.trans h.tape, k.output.trans h.output, Nat.le_trans h.size k.size,
    fun i hi hb => (k.block i (Nat.lt_of_lt_of_le hi h.size) hb).trans (h.block i hi hb)⟩
theorem Kp.drew {b : Nat} {x w : World} (h : Kp b x w) : Kp b x w.drew := ⟨h.os, h.tape, h.output, h.size, h.block⟩
theorem Kp.drewN {b : Nat} {x w : World} (h : Kp b x w) (n : Nat) : Kp b x (w.drewN n) := ⟨h.os, h.tape, h.output, h.size, h.block⟩
theorem Kp.alloc {b : Nat} {x w : World} (h : Kp b x w) (o : Obj) : Kp b x (w.alloc o) :=
  h.trans ⟨rfl, rfl, rfl, by simp, fun k hk _ => Below.heap_alloc _ _ _ hk⟩
theorem Kp.setCell {b : Nat} {x w : World} (h : Kp b x w) (o : Nat) (u : Value) : Kp b x (w.setCell ⟨b, o, none⟩ u) :=
  h.trans ⟨rfl, rfl, rfl, by simp [World.setCell], fun k _ hb => Below.heap_setCell _ _ _ _ hb⟩
theorem Kp.setNew {b : Nat} {x w : World} (h : Kp b x w) {p : Addr} (hp : x.heap.size ≤ p.block) (u : Value) : Kp b x (w.setCell p u) :=
  ⟨h.os, h.tape, h.output, by simpa [World.setCell] using h.size, fun k hk hb => (Below.heap_setCell _ _ _ _ (by omega)).trans (h.block k hk hb)⟩
theorem Kp.sz_set (w : World) (p : Addr) (u : Value) : (w.setCell p u).heap.size = w.heap.size := by simp [World.setCell]
theorem Kp.below {b : Nat} {w w' : World} (h : Below w.heap.size w w') : Kp b w w' := ⟨h.os, h.tape, h.output, h.size, fun k hk _ => h.block k hk⟩
/-- Seen from a world in which block b was not yet there. -/
theorem Kp.above {b B : Nat} {x w w' : World} (h : Kp b w w') (hx : Below B x w) (hB : B ≤ w.heap.size) (hb : B ≤ b) : Below B x w' :=
  hx.trans ⟨h.os, h.tape, h.output, h.size, fun k hk => h.block k (by omega) (by omega)⟩

def hasName (had : List ByteArray) (s : ByteArray) : Bool := had.any fun t => decide (t.data = s.data)
theorem cell_of {w : World} {g : Nat} {cs : Array Value} {t : TypeId} {f : Nat × Nat} (h : w.heap[g]? = some (.cells cs t f)) (o : Nat) : w.cell? ⟨g, o, none⟩ = cs[o]? := by
  simp [World.cell?, h]
theorem alloc_old {w : World} {o : Obj} {k : Nat} (h : k < w.heap.size) : (w.alloc o).heap[k]? = w.heap[k]? := Below.heap_alloc w o k h
theorem utf_keep {w w' : World} (h : Lib.Utf8Tabs 2 3 w) (hk : ∀ k, k < 4 → w'.heap[k]? = w.heap[k]?) : Lib.Utf8Tabs 2 3 w' :=
  ⟨fun c hc => (World.cell?_of_block (w := w) (hk 2 (by omega))).trans (h.1 c hc), fun i hi => ⟨(World.cell?_of_block (w := w) (hk 3 (by omega))).trans (h.2 i hi).1, (World.cell?_of_block (w := w) (hk 3 (by omega))).trans (h.2 i hi).2⟩⟩
theorem utf_alloc {w : World} (h : Lib.Utf8Tabs 2 3 w) (h8 : 4 ≤ w.heap.size) (o : Obj) : Lib.Utf8Tabs 2 3 (w.alloc o) := utf_keep h (fun k hk => Below.heap_alloc w o k (by omega))
theorem utf_below {w w1 : World} {B : Nat} (h : Lib.Utf8Tabs 2 3 w) (hb : Below B w w1) (h8 : 4 ≤ B) : Lib.Utf8Tabs 2 3 w1 := utf_keep h (fun k hk => hb.block k (by omega))
def keyL (s : ByteArray) : Lit := .string s.data.toList
/-- The map at block m holds these names. -/
def SetAt (m : Nat) (ns : List ByteArray) (w : World) : Prop := w.ownsMap Tryz.prog 9 (unitElem (H := Unit)) m ns.length (setOf (.agg []) (ns.map keyL))
theorem law9 : Keyed Tryz.prog 9 := string_keyed Tryz.underlying9
theorem zero103 (w : World) : (zeroValue 186).run Tryz.prog w = .ok (.agg #[]) w := by simp
theorem toList_eq (a b : Array UInt8) : (a.toList == b.toList) = decide (a = b) := by
  rw [Bool.eq_iff_iff]; simp
theorem has_set (ns : List ByteArray) (s : ByteArray) : Maps.has (setOf (H := Unit) (.agg []) (ns.map keyL)) (keyL s) = hasName ns s := by
  rw [has_setOf _ _ _ (by intro x hx; obtain ⟨t, _, rfl⟩ := List.mem_map.1 hx; trivial)]
  unfold hasName
  rw [List.any_map]
  congr 1
  funext t
  exact toList_eq t.data s.data
theorem SetAt.keep {m : Nat} {ns : List ByteArray} {w w' : World} (h : SetAt m ns w) (hk : w'.heap[m]? = w.heap[m]?) : SetAt m ns w' := by
  obtain ⟨es, c, h1, h2⟩ := h
  exact ⟨es, c, by rw [hk]; exact h1, h2⟩
theorem SetAt.lt {m : Nat} {ns : List ByteArray} {w : World} (h : SetAt m ns w) : m < w.heap.size := by
  obtain ⟨es, c, h1, h2⟩ := h
  exact (Array.getElem?_eq_some_iff.1 h1).1

theorem nest_any (k : Int) (w : World) : Calls Tryz.prog 239 #[.int .i64 k] w fun e w' => e = .returned (.bool (k == 5 || k == 6)) ∧ w' = w := by
  go_enter Tryz.func239, Tryz.ntmps239
  go_wp2
  all_goals (go_ret; exact ⟨ret_bool (by try simp [*]), rfl⟩)
theorem make_hint (n : Int) (w : World) : (Instr.makeMap 227 (some (.int .i64 n))).run Tryz.prog w = .ok (.map (some w.heap.size)) (w.alloc (.map #[] 0)) := by
  simp [Instr.makeMap, asInt, go_sem]
def noS : ByteArray := ⟨#[]⟩
def nth (ns : List ByteArray) (i : Nat) : ByteArray := ns.getD i noS
end Go.Proofs.YthgnkhpomhcdkaaGreatDoor
