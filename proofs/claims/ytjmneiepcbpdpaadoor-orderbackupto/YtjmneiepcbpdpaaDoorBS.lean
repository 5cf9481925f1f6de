import Derived.Test.YtjmneiepcbpdpaaDoorBP
import Derived.Test.YtjmneiepcbpdpaaDoorBR
import Derived.Test.YtjmneiepcbpdpaaDoorH1
/-! FromBytes of every bytes; bytes that were handed in. -/
namespace Go.Proofs.YtjmneiepcbpdpaaDoor
open Go Go.RowKit

theorem obj_ok (r g cap : Nat) (l : List UInt8) : ObjOk r g cap l := fun d val hd hv hno hle q w hB hA hq => obj_code r g cap q d l val w (hid_e hB) (hid_e hA) hq hd (hid_e hv) (hid_e hno) (hid_e hle)
theorem from_all (g cap : Nat) (l : List UInt8) (w : World) (hrow : RowB w g l) (hcap : l.length ≤ cap) (hcm : cap ≤ 9223372036854775807) (hlen : l.length ≤ 1000000000) (hU : Lib.Utf8Tabs 1 2 w) (h3 : 3 ≤ w.heap.size) :
    Calls Tryd.prog 9 #[.slice (some ⟨g, 0, none⟩) l.length cap] w (FromPost w (fromR l)) := from_code g cap l w hrow hcap hcm hlen hU h3 (hid_e (fun r => obj_ok r g cap l))
theorem own_row {w : World} {lo g cap : Nat} {l : List UInt8} (h : w.ownsRow lo 5 1 (.slice (some ⟨g, 0, none⟩) l.length cap) l.length (Lib.byteCells l)) : RowB w g l := by
  refine ⟨(ownsRow_ge h (g := g) rfl).2, fun j hj => ?_⟩
  have hl := own_lie h j _ (List.getElem?_eq_getElem hj)
  rw [Nat.zero_add] at hl
  rw [hl]
  unfold Lib.byteCells
  rw [List.getElem?_map, List.getElem?_eq_getElem hj]
  rfl
theorem own_from {lo : Nat} {v : Value} {l : List UInt8} {w : World} (h : w.ownsRow lo 5 1 v l.length (Lib.byteCells l)) {g : Nat} (hg : v.ownBlock = some g) (hlen : l.length ≤ 1000000000) (hU : Lib.Utf8Tabs 1 2 w) (h3 : 3 ≤ w.heap.size) :
    Calls Tryd.prog 9 #[v] w (FromPost w (fromR l)) := by
  rcases h.2 with ⟨hv, h0⟩ | ⟨g', cap, cur, hv, _⟩
  · subst hv; cases hg
  · subst hv
    have hc := row_cap h
    exact from_all g' cap l w (own_row h) hc.1 hc.2 hlen hU h3
/-- Bytes that were handed in. -/
structure BArg (w : World) (a : Option Addr) (c : Nat) (l : List UInt8) : Prop where
  cap : l.length ≤ c ∧ c ≤ 9223372036854775807
  nil : a = none → c = 0
  lie : l = [] ∨ ∃ g o, a = some ⟨g, o, none⟩ ∧ g < w.heap.size ∧ Lie w g o l
theorem BArg.keep {w w' : World} {a : Option Addr} {c : Nat} {l : List UInt8} (h : BArg w a c l) (hb : Below w.heap.size w w') : BArg w' a c l :=
  ⟨h.cap, h.nil, h.lie.imp id (fun ⟨g, o, e, hg, hl⟩ => ⟨g, o, e, Nat.lt_of_lt_of_le hg hb.size, fun j b hj => (hb.cell (p := ⟨g, o + j, none⟩) hg).trans (hl j b hj)⟩)⟩
theorem BArg.conv {w : World} {a : Option Addr} {c : Nat} {l : List UInt8} (h : BArg w a c l) : (convert 26 9 (.slice a l.length c)).run Tryd.prog w = .ok (.string ⟨l.toArray⟩) w := by
  rcases h.lie with rfl | ⟨g, o, rfl, hg, hl⟩
  · cases a with
    | none =>
      obtain rfl := h.nil rfl
      rw [List.length_nil, run_convert_bytes_string w 26 9 5 none 0 0 Tryd.underlying26 Tryd.underlying5 Tryd.underlying9]
      rfl
    | some ad => exact run_convert_bytes_back w 26 9 5 ad c [] Tryd.underlying26 Tryd.underlying5 Tryd.underlying9 (fun j hj => absurd hj (by simp))
  · refine run_convert_bytes_back w 26 9 5 ⟨g, o, none⟩ c l Tryd.underlying26 Tryd.underlying5 Tryd.underlying9 (fun j hj => ?_)
    rw [add_off]
    exact hl j _ (List.getElem?_eq_getElem hj)
theorem BArg.src {w : World} {a : Option Addr} {c : Nat} {l : List UInt8} (h : BArg w a c l) : l = [] ∨ ∃ g o, a = some ⟨g, o, none⟩ ∧ Lie w g o l := h.lie.imp id (fun ⟨g, o, e, _, hl⟩ => ⟨g, o, e, hl⟩)
theorem owns_none (w : World) : (w.alloc (.cells #[] 5)).ownsRow w.heap.size 5 1 (.slice (some ⟨w.heap.size, 0, none⟩) 0 0) ([] : List UInt8).length (Lib.byteCells []) :=
  ⟨rfl, .inr ⟨w.heap.size, 0, #[], rfl, Nat.le_refl _, heap_alloc_new w _, Nat.le_refl _, Nat.zero_le _, rfl, rfl⟩⟩
/-- Bytes behind bytes, none of them too, in a region of one order. -/
theorem list_append_bytes {ops : Array Oper} {rest : List Oper} {o : Oper} {a : Act} {Q : Exit → Act → World → Prop} (w : World) (hgd : o.guard = none) (s x : Operand)
    (ho : o.op = .call { callee := .builtin .append, args := #[s, x], argTypes := #[26, 26] }) (base : Nat) (v : Value) (acc : List UInt8) (hs : a.eval s = v) (hown : w.ownsRow base 5 1 v acc.length (Lib.byteCells acc))
    (ax : Option Addr) (m c : Nat) (add : List UInt8) (hm : add.length = m) (hx : a.eval x = .slice ax m c) (hsrc : add = [] ∨ ∃ g o, ax = some ⟨g, o, none⟩ ∧ Lie w g o add) (hb : acc.length + m ≤ 100000000000) (hbase : base ≤ w.heap.size)
    (h : ∀ kv w', w'.ownsRow base 5 1 kv (acc ++ add).length (Lib.byteCells (acc ++ add)) → w.grownBy w' v.ownBlock → (kv.ownBlock = v.ownBlock ∨ ∃ g, kv.ownBlock = some g ∧ w.heap.size ≤ g) → wpList Tryd.prog ops Q rest (a.put o.dst kv) w') : wpList Tryd.prog ops Q (o :: rest) a w :=
  wpList_plain hgd fun K hK => by
    have hw : Region.wanted o (yielded ops a.tmps) = true := by simp [Region.wanted, hgd]
    have := step_append_bytes (ops := ops) (E := True) (K := K) (Q := Q) w hgd s x ho base v acc hs hown ax m c add hm hx hsrc hb hbase (fun kv w' h1 h2 h3 => hK _ _ (h kv w' h1 h2 h3))
    rw [if_pos hw] at this
    exact this
end Go.Proofs.YtjmneiepcbpdpaaDoor
