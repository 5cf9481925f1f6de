import Derived.Test.YtnlljodmkacmlaaGreatDoorJU
/-! Ids of two needs over two entries. -/
namespace Go.Proofs.YtnlljodmkacmlaaGreatDoor
open Go Go.RowKit

def T1 (W : World) (g : Nat) : Prop := W.cell? ⟨g, 0, none⟩ = some (.string ⟨#[97]⟩)
def T2 (W : World) (g : Nat) : Prop := W.cell? ⟨g, 0, none⟩ = some (.string ⟨#[97]⟩) ∧ W.cell? ⟨g, 1, none⟩ = some (.string ⟨#[98]⟩)
theorem ids_gte (lo yb e1 e2 : Nat) (nm pt : ByteArray) (pv : Value) (w : World) (hX : Ix2 w lo yb nm pt pv e1 e2 5 7 ⟨#[98]⟩ ⟨#[97]⟩) :
    Calls Tryz.prog 13 #[.pointer (some ⟨yb, 0, none⟩), .int .i64 3, .agg #[.int .i64 3, .int .i64 6, .string ⟨#[]⟩, .slice none 0 0, .slice none 0 0]] w fun e w' => ∃ g c, e = .returned (.slice (some ⟨g, 0, none⟩) 1 c) ∧ Below w.heap.size w w' ∧ T1 w' g := by
  refine ids_any 3 1 1 rfl T1 lo yb e1 e2 5 7 6 _ _ nm pt pv w (by decide) hX (.inr rfl) (fun W hW => reaches_3 lo yb e1 e2 5 7 6 1 _ _ nm pt pv W (hX.keep hW) (by decide)) (fun W g c h => ?_) (fun W g c _ => compactT1 g c W) (fun W W' g h hk => ?_)
  · refine (sortT1 g c W).mono ?_
    rintro e W' ⟨rfl, rfl⟩
    exact ⟨rfl, ⟨rfl, rfl, rfl, Nat.le_refl _, fun _ _ _ => rfl⟩, (h 0).1⟩
  · exact (World.cell?_of_block (w := W) (a := ⟨g, 0, none⟩) (hk (lt_of_cell (p := ⟨g, 0, none⟩) h))).trans h
theorem ids_gt (lo yb e1 e2 : Nat) (nm pt : ByteArray) (pv : Value) (w : World) (hX : Ix2 w lo yb nm pt pv e1 e2 5 7 ⟨#[98]⟩ ⟨#[97]⟩) :
    Calls Tryz.prog 13 #[.pointer (some ⟨yb, 0, none⟩), .int .i64 2, .agg #[.int .i64 3, .int .i64 0, .string ⟨#[]⟩, .slice none 0 0, .slice none 0 0]] w fun e w' => ∃ g c, e = .returned (.slice (some ⟨g, 0, none⟩) 2 c) ∧ Below w.heap.size w w' ∧ T2 w' g := by
  refine ids_any 2 0 2 rfl T2 lo yb e1 e2 5 7 0 _ _ nm pt pv w (by decide) hX (.inl rfl) (fun W hW => reaches_2 lo yb e1 e2 5 7 0 0 _ _ nm pt pv W (hX.keep hW) (by decide)) (fun W g c h => ?_) (fun W g c h => compactT2 g c W h.1 h.2) (fun W W' g h hk => ?_)
  · refine (sortT2 g c W ⟨(h 0).1, (h 1).1, (h 0).2, (h 1).2⟩).mono ?_
    rintro e W' ⟨rfl, h1, h2, h3⟩
    exact ⟨rfl, h1, h2, h3⟩
  · have hb := hk (lt_of_cell (p := ⟨g, 0, none⟩) h.1)
    exact ⟨(World.cell?_of_block (w := W) (a := ⟨g, 0, none⟩) hb).trans h.1, (World.cell?_of_block (w := W) (a := ⟨g, 1, none⟩) hb).trans h.2⟩
end Go.Proofs.YtnlljodmkacmlaaGreatDoor
