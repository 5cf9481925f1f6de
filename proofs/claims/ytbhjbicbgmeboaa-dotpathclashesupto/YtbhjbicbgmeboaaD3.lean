import Derived.Test.YtbhjbicbgmeboaaD2
namespace Go.Proofs.Ytbhjbicbgmeboaa
open Go Go.RowKit

set_option maxHeartbeats 4000000 in
set_option maxRecDepth 100000 in
theorem gather_b (x : Int) (tx : ByteArray) (b o cn b2 o2 ci : Nat) (x2 : Int) (tx2 : ByteArray) (b3 o3 cn3 b4 o4 ci4 : Nat) (k5 x5 : Int) (tx5 : ByteArray) (an5 : Option Addr) (ln5 cn5 : Nat) (ai5 : Option Addr) (li5 ci5 : Nat) (s1 s2 : ByteArray) (bp op cp : Nat) (w : World)
    (hp0 : w.cell? ⟨bp, op, none⟩ = some (.string s1)) (hp1 : w.cell? ⟨bp, op + 1, none⟩ = some (.string s2)) (hs1 : w.cell? ⟨b, o, none⟩ = some (.string s1)) (hs2 : w.cell? ⟨b3, o3, none⟩ = some (.string s2)) (hB : CellsAt w b2 o2 [.int .i64 6, .int .i64 x2, .string tx2, .slice (some ⟨b3, o3, none⟩) 1 cn3, .slice (some ⟨b4, o4, none⟩) 1 ci4]) (hC : CellsAt w b4 o4 [.int .i64 k5, .int .i64 x5, .string tx5, .slice an5 ln5 cn5, .slice ai5 li5 ci5])
    (hcn : 1 ≤ cn ∧ cn ≤ 9223372036854775807) (hcn3 : 1 ≤ cn3 ∧ cn3 ≤ 9223372036854775807) :
    Calls Try.prog 35 #[.slice none 0 0, .agg #[.int .i64 6, .int .i64 x, .string tx, .slice (some ⟨b, o, none⟩) 1 cn, .slice (some ⟨b2, o2, none⟩) 1 ci], .slice (some ⟨bp, op, none⟩) 2 cp] w fun e w' => Below w.heap.size w w' ∧ ∃ g cap, e = .returned (.slice (some ⟨g, 0, none⟩) 1 cap) := by
  have c0 : ∀ p1, (w.alloc p1).cell? ⟨bp, op, none⟩ = some (.string s1) := fun p1 => (cell_alloc' hp0 _)
  have c1 : ∀ p1 p2, ((w.alloc p1).alloc p2).cell? ⟨bp, op + 1, none⟩ = some (.string s2) := fun p1 p2 => (cell_alloc' (cell_alloc' hp1 _) _)
  have d0 : ∀ p1 p2, ((w.alloc p1).alloc p2).cell? ⟨b2, o2, none⟩ = some (.int .i64 6) := fun p1 p2 => (cell_alloc' (cell_alloc' (hB 0 _ rfl) _) _)
  have d1 : ∀ p1 p2, ((w.alloc p1).alloc p2).cell? ⟨b2, o2 + 1, none⟩ = some (.int .i64 x2) := fun p1 p2 => (cell_alloc' (cell_alloc' (hB 1 _ rfl) _) _)
  have d2 : ∀ p1 p2, ((w.alloc p1).alloc p2).cell? ⟨b2, o2 + 2, none⟩ = some (.string tx2) := fun p1 p2 => (cell_alloc' (cell_alloc' (hB 2 _ rfl) _) _)
  have d3 : ∀ p1 p2, ((w.alloc p1).alloc p2).cell? ⟨b2, o2 + 3, none⟩ = some (.slice (some ⟨b3, o3, none⟩) 1 cn3) := fun p1 p2 => (cell_alloc' (cell_alloc' (hB 3 _ rfl) _) _)
  have d4 : ∀ p1 p2, ((w.alloc p1).alloc p2).cell? ⟨b2, o2 + 4, none⟩ = some (.slice (some ⟨b4, o4, none⟩) 1 ci4) := fun p1 p2 => (cell_alloc' (cell_alloc' (hB 4 _ rfl) _) _)
  have f0 : ∀ p1 p2 p3, (((w.alloc p1).alloc p2).alloc p3).cell? ⟨b4, o4, none⟩ = some (.int .i64 k5) := fun p1 p2 p3 => (cell_alloc' (cell_alloc' (cell_alloc' (hC 0 _ rfl) _) _) _)
  have f1 : ∀ p1 p2 p3, (((w.alloc p1).alloc p2).alloc p3).cell? ⟨b4, o4 + 1, none⟩ = some (.int .i64 x5) := fun p1 p2 p3 => (cell_alloc' (cell_alloc' (cell_alloc' (hC 1 _ rfl) _) _) _)
  have f2 : ∀ p1 p2 p3, (((w.alloc p1).alloc p2).alloc p3).cell? ⟨b4, o4 + 2, none⟩ = some (.string tx5) := fun p1 p2 p3 => (cell_alloc' (cell_alloc' (cell_alloc' (hC 2 _ rfl) _) _) _)
  have f3 : ∀ p1 p2 p3, (((w.alloc p1).alloc p2).alloc p3).cell? ⟨b4, o4 + 3, none⟩ = some (.slice an5 ln5 cn5) := fun p1 p2 p3 => (cell_alloc' (cell_alloc' (cell_alloc' (hC 3 _ rfl) _) _) _)
  have f4 : ∀ p1 p2 p3, (((w.alloc p1).alloc p2).alloc p3).cell? ⟨b4, o4 + 4, none⟩ = some (.slice ai5 li5 ci5) := fun p1 p2 p3 => (cell_alloc' (cell_alloc' (cell_alloc' (hC 4 _ rfl) _) _) _)
  have hpl1 : ∀ p1, Calls Try.prog 26 #[.agg #[.int .i64 6, .int .i64 x, .string tx, .slice (some ⟨b, o, none⟩) 1 cn, .slice (some ⟨b2, o2, none⟩) 1 ci], .string s1] (w.alloc p1) fun e w' => e = .returned (.tuple #[.int .i64 0, .bool true]) ∧ w' = ((w.alloc p1).alloc (.cells #[.int .i64 6, .int .i64 x, .string tx, .slice (some ⟨b, o, none⟩) 1 cn, .slice (some ⟨b2, o2, none⟩) 1 ci] 25)).drew := fun p1 => by
    have := place6 x tx (some ⟨b, o, none⟩) cn [s1] (some ⟨b2, o2, none⟩) 1 ci s1 (w.alloc p1) ⟨_, _, rfl, ⟨by simpa using hcn.1, hcn.2⟩, .inr ⟨_, _, rfl, cell_lt (cell_alloc' hs1 _), fun j u hj => by
      rcases j with _ | j
      · cases hj; exact (cell_alloc' hs1 _)
      · simp at hj⟩⟩
    rw [(place_one s1).1, (place_one s1).2] at this
    exact this
  have hpl2 : ∀ p1 p2, Calls Try.prog 26 #[.agg #[.int .i64 6, .int .i64 x2, .string tx2, .slice (some ⟨b3, o3, none⟩) 1 cn3, .slice (some ⟨b4, o4, none⟩) 1 ci4], .string s2] ((w.alloc p1).alloc p2).drew fun e w' => e = .returned (.tuple #[.int .i64 0, .bool true]) ∧ w' = (((w.alloc p1).alloc p2).drew.alloc (.cells #[.int .i64 6, .int .i64 x2, .string tx2, .slice (some ⟨b3, o3, none⟩) 1 cn3, .slice (some ⟨b4, o4, none⟩) 1 ci4] 25)).drew := fun p1 p2 => by
    have := place6 x2 tx2 (some ⟨b3, o3, none⟩) cn3 [s2] (some ⟨b4, o4, none⟩) 1 ci4 s2 ((w.alloc p1).alloc p2).drew ⟨_, _, rfl, ⟨by simpa using hcn3.1, hcn3.2⟩, .inr ⟨_, _, rfl, cell_lt (cell_alloc' (cell_alloc' hs2 _) _), fun j u hj => by
      rcases j with _ | j
      · cases hj; exact (cell_alloc' (cell_alloc' hs2 _) _)
      · simp at hj⟩⟩
    rw [(place_one s2).1, (place_one s2).2] at this
    exact this
  clear hp0 hp1 hs1 hs2 hB hC
  go_enter Try.func35, Try.ntmps35
  go_wp2_with fail
  refine wp_loop_rounds 3 ?_
  rw [rounds_succ]
  go_wp2_with fail
  refine (hpl1 _).mono ?_
  rintro e w1 ⟨rfl, rfl⟩
  clear hpl1
  go_wp2_with fail
  rw [rounds_succ]
  go_wp2_with fail
  refine (hpl2 _ _).mono ?_
  rintro e w1 ⟨rfl, rfl⟩
  clear hpl2
  go_wp2_with fail
  rw [rounds_succ]
  go_wp2
  go_ret
  refine ⟨?_, _, _, rfl⟩
  repeat (first | exact Below.refl _ _ | refine below_drewN ?_ _ | refine below_drew ?_ | (refine Below.alloc ?_ ?_ _; (rotate_left; (simp <;> omega))))

set_option maxHeartbeats 1000000 in
theorem all_b (x : Int) (tx : ByteArray) (b o cn b2 o2 ci : Nat) (x2 : Int) (tx2 : ByteArray) (b3 o3 cn3 b4 o4 ci4 : Nat) (k5 x5 : Int) (tx5 : ByteArray) (an5 : Option Addr) (ln5 cn5 : Nat) (ai5 : Option Addr) (li5 ci5 : Nat) (s1 s2 : ByteArray) (bp op cp : Nat) (w : World)
    (hp0 : w.cell? ⟨bp, op, none⟩ = some (.string s1)) (hp1 : w.cell? ⟨bp, op + 1, none⟩ = some (.string s2)) (hs1 : w.cell? ⟨b, o, none⟩ = some (.string s1)) (hs2 : w.cell? ⟨b3, o3, none⟩ = some (.string s2)) (hB : CellsAt w b2 o2 [.int .i64 6, .int .i64 x2, .string tx2, .slice (some ⟨b3, o3, none⟩) 1 cn3, .slice (some ⟨b4, o4, none⟩) 1 ci4]) (hC : CellsAt w b4 o4 [.int .i64 k5, .int .i64 x5, .string tx5, .slice an5 ln5 cn5, .slice ai5 li5 ci5])
    (hcn : 1 ≤ cn ∧ cn ≤ 9223372036854775807) (hcn3 : 1 ≤ cn3 ∧ cn3 ≤ 9223372036854775807) :
    Calls Try.prog 22 #[.agg #[.int .i64 6, .int .i64 x, .string tx, .slice (some ⟨b, o, none⟩) 1 cn, .slice (some ⟨b2, o2, none⟩) 1 ci], .slice (some ⟨bp, op, none⟩) 2 cp] w fun e w' => Below w.heap.size w w' ∧ ∃ g cap, e = .returned (.slice (some ⟨g, 0, none⟩) 1 cap) := by
  have hg : ∀ p1, Calls Try.prog 35 #[.slice none 0 0, .agg #[.int .i64 6, .int .i64 x, .string tx, .slice (some ⟨b, o, none⟩) 1 cn, .slice (some ⟨b2, o2, none⟩) 1 ci], .slice (some ⟨bp, op, none⟩) 2 cp] (w.alloc p1) fun e w' => Below (w.alloc p1).heap.size (w.alloc p1) w' ∧ ∃ g cap, e = .returned (.slice (some ⟨g, 0, none⟩) 1 cap) := fun p1 =>
    gather_b x tx b o cn b2 o2 ci x2 tx2 b3 o3 cn3 b4 o4 ci4 k5 x5 tx5 an5 ln5 cn5 ai5 li5 ci5 s1 s2 bp op cp (w.alloc p1) (cell_alloc' hp0 _) (cell_alloc' hp1 _) (cell_alloc' hs1 _) (cell_alloc' hs2 _) (fun j u hj => cell_alloc' (hB j u hj) _) (fun j u hj => cell_alloc' (hC j u hj) _) hcn hcn3
  clear hp0 hp1 hs1 hs2 hB hC
  go_enter Try.func22, Try.ntmps22
  go_wp2_with fail
  refine (hg _).mono ?_
  rintro e w1 ⟨hb1, g, cap, rfl⟩
  clear hg
  go_wp2_with fail
  go_ret
  exact ⟨below_box hb1, g, cap, rfl⟩
end Go.Proofs.Ytbhjbicbgmeboaa
