import Derived.Test.YtdfkfnhppjhghaaGreatQ5
import Derived.Deep.RegionWith
/-! A document held against {"a": {"$gt": 4}}. -/
namespace Go.Proofs.YtdfkfnhppjhghaaGreat
open Go Go.RowKit

theorem drew_below {B : Nat} {x w : World} (h : Below B x.drew w) : Below B x w := ⟨h.os, h.tape, h.output, h.size, h.block⟩
def placeV (bp cp bt ct : Nat) : Value := .iface 92 (.agg #[.string nameA, .slice (some ⟨bp, 0, none⟩) 1 cp, .slice (some ⟨bt, 0, none⟩) 1 ct])
/-- The place with its test, in memory. -/
structure PlaceAt (w : World) (bp bt : Nat) : Prop where
  path : w.cell? ⟨bp, 0, none⟩ = some (.string nameA)
  test : ∃ b4, TermAt w bt b4 ∧ Gt w b4
theorem PlaceAt.keep {w w' : World} {bp bt : Nat} (h : PlaceAt w bp bt) (hb : Below w.heap.size w w') : PlaceAt w' bp bt := by
  obtain ⟨b4, h1, h2⟩ := h.test
  exact ⟨stay hb h.path, b4, h1.keep hb, h2.keep hb⟩
/-- A document {"a": x}. -/
structure DocAt (w : World) (bn bi : Nat) (x : Int) : Prop where
  name : w.cell? ⟨bn, 0, none⟩ = some (.string nameA)
  item : NumAt w bi 0 x
theorem DocAt.keep {w w' : World} {bn bi : Nat} {x : Int} (h : DocAt w bn bi x) (hb : Below w.heap.size w w') : DocAt w' bn bi x := ⟨stay hb h.name, h.item.keep hb⟩
set_option maxHeartbeats 2000000 in
set_option maxRecDepth 100000 in
theorem matches_place (x : Int) (hx : x = 4 ∨ x = 5) (bp cp bt ct bn cn bi ci : Nat) (w : World) (hP : PlaceAt w bp bt) (hD : DocAt w bn bi x) :
    Calls Tryz.prog 29 #[placeV bp cp bt ct, objV bn cn bi ci] w fun e w' => e = .returned (.bool (decide (0 < cmpZ x))) ∧ Below w.heap.size w w' := by
  have h1 : ∀ w, (Instr.typeAssert (placeV bp cp bt ct) 60 76 true).run Tryz.prog w = .ok (.tuple #[.slice none 0 0, .bool false]) w := fun w => by kernel_rfl
  have h2 : ∀ w, (Instr.typeAssert (placeV bp cp bt ct) 60 85 true).run Tryz.prog w = .ok (.tuple #[.slice none 0 0, .bool false]) w := fun w => by kernel_rfl
  have h3 : ∀ w, (Instr.typeAssert (placeV bp cp bt ct) 60 87 true).run Tryz.prog w = .ok (.tuple #[.slice none 0 0, .bool false]) w := fun w => by kernel_rfl
  have h4 : ∀ w, (Instr.typeAssert (placeV bp cp bt ct) 60 92 true).run Tryz.prog w = .ok (.tuple #[.agg #[.string nameA, .slice (some ⟨bp, 0, none⟩) 1 cp, .slice (some ⟨bt, 0, none⟩) 1 ct], .bool true]) w := fun w => by kernel_rfl
  have HB : ∀ o1 o2, Below w.heap.size w ((w.alloc o1).alloc o2) := fun o1 o2 => ((Below.refl _ w).alloc (Nat.le_refl _) o1).alloc (by simp) o2
  have n1 := fun o1 o2 => new1 w o1 o2
  have n2 := fun o1 o2 => new2 w o1 o2
  have hP' := fun o1 o2 => hid_of (hP.keep (HB o1 o2))
  have hD' := fun o1 o2 => hid_of (hD.keep (HB o1 o2))
  clear hP hD
  unfold objV placeV at *
  go_enter Tryz.func29, Tryz.ntmps29
  go_wp2_with fail
  have HB1 := HB (.cells #[.int .i64 6, .int .i64 0, .string ⟨#[]⟩, .slice (some ⟨bn, 0, none⟩) 1 cn, .slice (some ⟨bi, 0, none⟩) 1 ci] 28) (.cells #[.string nameA, .slice (some ⟨bp, 0, none⟩) 1 cp, .slice (some ⟨bt, 0, none⟩) 1 ct] 92)
  have m1 := n1 (.cells #[.int .i64 6, .int .i64 0, .string ⟨#[]⟩, .slice (some ⟨bn, 0, none⟩) 1 cn, .slice (some ⟨bi, 0, none⟩) 1 ci] 28) (.cells #[.string nameA, .slice (some ⟨bp, 0, none⟩) 1 cp, .slice (some ⟨bt, 0, none⟩) 1 ct] 92)
  have m2 := n2 (.cells #[.int .i64 6, .int .i64 0, .string ⟨#[]⟩, .slice (some ⟨bn, 0, none⟩) 1 cn, .slice (some ⟨bi, 0, none⟩) 1 ci] 28) (.cells #[.string nameA, .slice (some ⟨bp, 0, none⟩) 1 cp, .slice (some ⟨bt, 0, none⟩) 1 ct] 92)
  have hP1 := hP' (.cells #[.int .i64 6, .int .i64 0, .string ⟨#[]⟩, .slice (some ⟨bn, 0, none⟩) 1 cn, .slice (some ⟨bi, 0, none⟩) 1 ci] 28) (.cells #[.string nameA, .slice (some ⟨bp, 0, none⟩) 1 cp, .slice (some ⟨bt, 0, none⟩) 1 ct] 92)
  have hD1 := hD' (.cells #[.int .i64 6, .int .i64 0, .string ⟨#[]⟩, .slice (some ⟨bn, 0, none⟩) 1 cn, .slice (some ⟨bi, 0, none⟩) 1 ci] 28) (.cells #[.string nameA, .slice (some ⟨bp, 0, none⟩) 1 cp, .slice (some ⟨bt, 0, none⟩) 1 ct] 92)
  generalize (w.alloc (.cells #[.int .i64 6, .int .i64 0, .string ⟨#[]⟩, .slice (some ⟨bn, 0, none⟩) 1 cn, .slice (some ⟨bi, 0, none⟩) 1 ci] 28)).alloc (.cells #[.string nameA, .slice (some ⟨bp, 0, none⟩) 1 cp, .slice (some ⟨bt, 0, none⟩) 1 ct] 92) = X at HB1 m1 m2 hP1 hD1
  clear HB n1 n2 hP' hD'
  obtain ⟨y0, y1, y2, y3, y4, -⟩ := row_cells m1
  have z0 : X.cell? ⟨w.heap.size + 1, 1, none⟩ = some (.slice (some ⟨bp, 0, none⟩) 1 cp) := by simp [World.cell?, m2]
  have z1 : X.cell? ⟨w.heap.size + 1, 2, none⟩ = some (.slice (some ⟨bt, 0, none⟩) 1 ct) := by simp [World.cell?, m2]
  have hall := hid_of (all_a x bn cn bi ci bp cp X.drew (stay (below_drew (Below.refl _ _)) hD1.out.name) (hD1.out.item.keep (below_drew (Below.refl _ _))) (stay (below_drew (Below.refl _ _)) hP1.out.path))
  have hho : Hid (∀ W g cap, Below X.heap.size X W → NumAt W g 0 x → Calls Tryz.prog 48 #[.slice (some ⟨bt, 0, none⟩) 1 ct, .slice (some ⟨g, 0, none⟩) 1 cap] W fun e w' => e = .returned (.bool (decide (0 < cmpZ x))) ∧ Below W.heap.size W w') := hid_of (fun W g cap hW hN => by
    obtain ⟨b4, t1, t2⟩ := hP1.out.test
    exact holds_one x hx g cap bt ct b4 W hN (t1.keep hW) (t2.keep hW))
  clear hP1 hD1 m1 m2
  unfold objV at hall
  go_region_with (first
    | (go_at_call 49; go_fit hall.out; clear hall; rintro e w5 ⟨hb5, g, cap, rfl, hN⟩; have hb5' : Below X.heap.size X w5 := drew_below hb5; have hho5 := hid_of (hho.out w5 g cap hb5' hN); have z15 := stay hb5' z1; clear hN)
    | (go_at_call 48; go_fit hho5.out; clear hho5; rintro e w6 ⟨rfl, hb6⟩))
  all_goals
    go_wp2_with fail
    go_ret
    exact ⟨rfl, (HB1.trans (hb5'.mono HB1.size)).trans (hb6.mono (Nat.le_trans HB1.size hb5'.size))⟩
end Go.Proofs.YtdfkfnhppjhghaaGreat
