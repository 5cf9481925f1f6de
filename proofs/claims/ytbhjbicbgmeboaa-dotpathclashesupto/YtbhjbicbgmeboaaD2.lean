import Derived.Test.YtbhjbicbgmeboaaD1
namespace Go.Proofs.Ytbhjbicbgmeboaa
open Go Go.RowKit

theorem Row5.drew {W : World} {g : Nat} {c0 c1 c2 c3 c4 : Value} (h : Row5 W g c0 c1 c2 c3 c4) : Row5 W.drew g c0 c1 c2 c3 c4 := h
theorem place_one (s : ByteArray) : placeI 6 [s] s = 0 ∧ placeB 6 [s] 1 s = true := by
  have : Lib.idxOfS [s] s = 0 := by simp [Lib.idxOfS, Lib.idxFromS]
  simp [placeI, placeB, this]
theorem new2' (w : World) (o1 o2 : Obj) : (((w.alloc o1).alloc o2).drew).heap[w.heap.size + 1]? = some o2 := new2 w o1 o2
theorem grown_far {W W' : World} {row : Option Nat} {g : Nat} (h : W.grownBy W' row) (hl : g < W.heap.size) (hn : some g ≠ row) : W'.heap[g]? = W.heap[g]? := h.block g hl hn

set_option maxHeartbeats 4000000 in
set_option maxRecDepth 100000 in
theorem down_b (x : Int) (tx : ByteArray) (b o cn b2 o2 ci : Nat) (x2 : Int) (tx2 : ByteArray) (b3 o3 cn3 b4 o4 ci4 : Nat) (k5 x5 : Int) (tx5 : ByteArray) (an5 : Option Addr) (ln5 cn5 : Nat) (ai5 : Option Addr) (li5 ci5 : Nat) (s1 s2 : ByteArray) (bp op cp : Nat) (w : World)
    (hp0 : w.cell? ⟨bp, op, none⟩ = some (.string s1)) (hp1 : w.cell? ⟨bp, op + 1, none⟩ = some (.string s2)) (hs1 : w.cell? ⟨b, o, none⟩ = some (.string s1)) (hs2 : w.cell? ⟨b3, o3, none⟩ = some (.string s2)) (hB : CellsAt w b2 o2 [.int .i64 6, .int .i64 x2, .string tx2, .slice (some ⟨b3, o3, none⟩) 1 cn3, .slice (some ⟨b4, o4, none⟩) 1 ci4]) (hC : CellsAt w b4 o4 [.int .i64 k5, .int .i64 x5, .string tx5, .slice an5 ln5 cn5, .slice ai5 li5 ci5])
    (hcn : 1 ≤ cn ∧ cn ≤ 9223372036854775807) (hcn3 : 1 ≤ cn3 ∧ cn3 ≤ 9223372036854775807) :
    Calls Try.prog 23 #[.agg #[.int .i64 6, .int .i64 x, .string tx, .slice (some ⟨b, o, none⟩) 1 cn, .slice (some ⟨b2, o2, none⟩) 1 ci], .slice (some ⟨bp, op, none⟩) 2 cp] w fun e w' => Below w.heap.size w w' ∧ ∃ tv, e = .returned (.tuple #[tv, .int .i64 0]) ∧ w'.ownsRow w.heap.size 64 7 tv 2 ([.int .i64 6, .int .i64 x, .string tx, .slice (some ⟨b, o, none⟩) 1 cn, .slice (some ⟨b2, o2, none⟩) 1 ci, .string s1, .int .i64 0] ++ [.int .i64 6, .int .i64 x2, .string tx2, .slice (some ⟨b3, o3, none⟩) 1 cn3, .slice (some ⟨b4, o4, none⟩) 1 ci4, .string s2, .int .i64 0]) := by
  obtain ⟨i64, hi64, hz0, hz1, hz2⟩ := info_parts A64
  have hnew : Row5 (w.alloc (.cells #[.int .i64 6, .int .i64 x, .string tx, .slice (some ⟨b, o, none⟩) 1 cn, .slice (some ⟨b2, o2, none⟩) 1 ci] 25)) w.heap.size (.int .i64 6) (.int .i64 x) (.string tx) (.slice (some ⟨b, o, none⟩) 1 cn) (.slice (some ⟨b2, o2, none⟩) 1 ci) := row5_of (heap_alloc_new w _)
  replace hB : ∀ (j : Nat) (u : Value), ([.int .i64 6, .int .i64 x2, .string tx2, .slice (some ⟨b3, o3, none⟩) 1 cn3, .slice (some ⟨b4, o4, none⟩) 1 ci4] : List Value)[j]? = some u → w.cell? ⟨b2, o2 + j, none⟩ = some u := hB
  replace hC : ∀ (j : Nat) (u : Value), ([.int .i64 k5, .int .i64 x5, .string tx5, .slice an5 ln5 cn5, .slice ai5 li5 ci5] : List Value)[j]? = some u → w.cell? ⟨b4, o4 + j, none⟩ = some u := hC
  go_enter Try.func23, Try.ntmps23
  go_wp2_with fail
  go_step3
  go_wp2_with fail
  go_step3
  go_wp2_with fail
  go_loopw [6, 16] (fun tv i wr => ∃ (q : Nat) (tv0 : Value), tv = tv0 ∧ i = .int .i64 q ∧ Below w.heap.size w wr ∧
      ((q = 0 ∧ Row5 wr w.heap.size (.int .i64 6) (.int .i64 x) (.string tx) (.slice (some ⟨b, o, none⟩) 1 cn) (.slice (some ⟨b2, o2, none⟩) 1 ci) ∧ tv0 = .slice none 0 0) ∨
       (q = 1 ∧ Row5 wr w.heap.size (.int .i64 6) (.int .i64 x2) (.string tx2) (.slice (some ⟨b3, o3, none⟩) 1 cn3) (.slice (some ⟨b4, o4, none⟩) 1 ci4) ∧ wr.ownsRow w.heap.size 64 7 tv0 1 [.int .i64 6, .int .i64 x, .string tx, .slice (some ⟨b, o, none⟩) 1 cn, .slice (some ⟨b2, o2, none⟩) 1 ci, .string s1, .int .i64 0] ∧ (∀ g, tv0.ownBlock = some g → g ≠ w.heap.size)) ∨
       (q = 2 ∧ wr.ownsRow w.heap.size 64 7 tv0 2 ([.int .i64 6, .int .i64 x, .string tx, .slice (some ⟨b, o, none⟩) 1 cn, .slice (some ⟨b2, o2, none⟩) 1 ci, .string s1, .int .i64 0] ++ [.int .i64 6, .int .i64 x2, .string tx2, .slice (some ⟨b3, o3, none⟩) 1 cn3, .slice (some ⟨b4, o4, none⟩) 1 ci4, .string s2, .int .i64 0])))) (fun _ i _ => 2 - (intOf i).toNat)
  case atStart => exact ⟨0, _, rfl, rfl, (Below.refl _ w).alloc (Nat.le_refl _) _, .inl ⟨rfl, hnew, rfl⟩⟩
  case round =>
    clear hnew
    obtain ⟨q, tv, rfl, rfl, hbel, ⟨rfl, h1, rfl⟩ | ⟨rfl, h1, hown, hgne⟩ | ⟨rfl, hown⟩⟩ := hrel
    · have hd : decide ((0 : Int) < (2 : Int)) = true := by decide
      obtain ⟨⟨y0, -⟩, ⟨y1, -⟩, ⟨y2, -⟩, ⟨y3, -⟩, ⟨y4, -⟩⟩ := id h1
      have z0 := fun o => (h1.alloc o).1.1; have z1 := fun o => (h1.alloc o).2.1.1; have z2 := fun o => (h1.alloc o).2.2.1.1; have z3 := fun o => (h1.alloc o).2.2.2.1.1; have z4 := fun o => (h1.alloc o).2.2.2.2.1
      have hcp : wr.cell? ⟨bp, op, none⟩ = some (.string s1) := (hbel.cell (p := ⟨bp, op, none⟩) (cell_lt hp0)).trans hp0
      have hpl := place6 x tx (some ⟨b, o, none⟩) cn [s1] (some ⟨b2, o2, none⟩) 1 ci s1 wr ⟨_, _, rfl, ⟨by simpa using hcn.1, hcn.2⟩, .inr ⟨_, _, rfl, Nat.lt_of_lt_of_le (cell_lt hs1) hbel.size, fun j u hj => by
        rcases j with _ | j
        · cases hj; exact (hbel.cell (cell_lt hs1)).trans hs1
        · simp at hj⟩⟩
      rw [(place_one s1).1, (place_one s1).2] at hpl
      simp only [List.length_cons, List.length_nil, Nat.zero_add] at hpl
      go_wp2_with fail
      refine hpl.mono ?_
      rintro e w1 ⟨rfl, rfl⟩
      clear hpl
      go_wp2_with (at_builtin; refine wpList_append_lies _ rfl _ _ 50 rfl w.heap.size 64 i64 _ 7 104 Try.underlying50 hi64 hz0 hz1 hz2 rfl (by decide) _ 0 ([] : List Value) rfl (World.ownsRow_nil _ _ _ _) _ 1 1 [.int .i64 6, .int .i64 x, .string tx, .slice (some ⟨b, o, none⟩) 1 cn, .slice (some ⟨b2, o2, none⟩) 1 ci, .string s1, .int .i64 0] rfl rfl (World.news_of_block (new2' wr _ _)) (by simp [Value.oneCell']) (by decide) (by unfold maxLen; omega) (by omega) (by have := hbel.size; simp [World.drew]; omega) _ rfl ?_; intro g cap w5 hown5 hgrow5 hat5 hlt5; have hB5 : Below w.heap.size w w5 := (below_drew ((hbel.alloc hbel.size _).alloc (by have := hbel.size; simp; omega) _)).trans (grown_below hgrow5 (by have := hbel.size; simp [World.drew]; omega) (fun g hg => by cases hg)); have h15 : Row5 w5 w.heap.size (.int .i64 6) (.int .i64 x) (.string tx) (.slice (some ⟨b, o, none⟩) 1 cn) (.slice (some ⟨b2, o2, none⟩) 1 ci) := ((h1.alloc _).alloc _).drew.far (grown_far hgrow5 (by have := h1.lt; simp [World.drew]; omega) (fun e => by cases e)); obtain ⟨⟨v0, u0⟩, ⟨v1, u1⟩, ⟨v2, u2⟩, ⟨v3, u3⟩, ⟨v4, u4⟩⟩ := id h15; have n0 : w5.cell? ⟨b2, o2, none⟩ = some (.int .i64 6) := (hB5.cell (cell_lt (hB 0 _ rfl))).trans (hB 0 _ rfl); have n1 : w5.cell? ⟨b2, o2 + 1, none⟩ = some (.int .i64 x2) := (hB5.cell (cell_lt (hB 1 _ rfl))).trans (hB 1 _ rfl); have n2 : w5.cell? ⟨b2, o2 + 2, none⟩ = some (.string tx2) := (hB5.cell (cell_lt (hB 2 _ rfl))).trans (hB 2 _ rfl); have n3 : w5.cell? ⟨b2, o2 + 3, none⟩ = some (.slice (some ⟨b3, o3, none⟩) 1 cn3) := (hB5.cell (cell_lt (hB 3 _ rfl))).trans (hB 3 _ rfl); have n4 : w5.cell? ⟨b2, o2 + 4, none⟩ = some (.slice (some ⟨b4, o4, none⟩) 1 ci4) := (hB5.cell (cell_lt (hB 4 _ rfl))).trans (hB 4 _ rfl))
      have hgb : g ≠ w.heap.size := by
        have hl := h1.lt
        rcases hat5 with h | h
        · cases h
        · rw [h]; simp [World.drew]; omega
      go_roundw
      case rel =>
        refine ⟨1, _, rfl, rfl, hB5.trans (put5_below (Nat.le_refl _) _ _ _ _ _), ?_⟩
        refine .inr (.inl ⟨rfl, h15.put _ _ _ _ _, ownsRow_keep hown5 (fun g0 e => put5_far _ _ _ _ _ (by cases e; exact hgb)), fun g0 e => by cases e; exact hgb⟩)
      case measure => simp [intOf]
    · obtain ⟨at0, ct0, rfl⟩ := ownsRow_slice hown
      have hd : decide ((1 : Int) < (2 : Int)) = true := by decide
      obtain ⟨⟨y0, -⟩, ⟨y1, -⟩, ⟨y2, -⟩, ⟨y3, -⟩, ⟨y4, -⟩⟩ := id h1
      have z0 := fun o => (h1.alloc o).1.1; have z1 := fun o => (h1.alloc o).2.1.1; have z2 := fun o => (h1.alloc o).2.2.1.1; have z3 := fun o => (h1.alloc o).2.2.2.1.1; have z4 := fun o => (h1.alloc o).2.2.2.2.1
      have hcp : wr.cell? ⟨bp, op + 1, none⟩ = some (.string s2) := (hbel.cell (p := ⟨bp, op + 1, none⟩) (cell_lt hp1)).trans hp1
      have hpl := place6 x2 tx2 (some ⟨b3, o3, none⟩) cn3 [s2] (some ⟨b4, o4, none⟩) 1 ci4 s2 wr ⟨_, _, rfl, ⟨by simpa using hcn3.1, hcn3.2⟩, .inr ⟨_, _, rfl, Nat.lt_of_lt_of_le (cell_lt hs2) hbel.size, fun j u hj => by
        rcases j with _ | j
        · cases hj; exact (hbel.cell (cell_lt hs2)).trans hs2
        · simp at hj⟩⟩
      rw [(place_one s2).1, (place_one s2).2] at hpl
      simp only [List.length_cons, List.length_nil, Nat.zero_add] at hpl
      go_wp2_with fail
      refine hpl.mono ?_
      rintro e w1 ⟨rfl, rfl⟩
      clear hpl
      go_wp2_with (at_builtin; refine wpList_append_lies _ rfl _ _ 50 rfl w.heap.size 64 i64 _ 7 104 Try.underlying50 hi64 hz0 hz1 hz2 rfl (by decide) _ 1 [.int .i64 6, .int .i64 x, .string tx, .slice (some ⟨b, o, none⟩) 1 cn, .slice (some ⟨b2, o2, none⟩) 1 ci, .string s1, .int .i64 0] rfl (((hown.alloc _).alloc _)) _ 1 1 [.int .i64 6, .int .i64 x2, .string tx2, .slice (some ⟨b3, o3, none⟩) 1 cn3, .slice (some ⟨b4, o4, none⟩) 1 ci4, .string s2, .int .i64 0] rfl rfl (World.news_of_block (new2' wr _ _)) (by simp [Value.oneCell']) (by decide) (by unfold maxLen; omega) (by omega) (by have := hbel.size; simp [World.drew]; omega) _ rfl ?_; intro g cap w5 hown5 hgrow5 hat5 hlt5; have hB5 : Below w.heap.size w w5 := (below_drew ((hbel.alloc hbel.size _).alloc (by have := hbel.size; simp; omega) _)).trans (grown_below hgrow5 (by have := hbel.size; simp [World.drew]; omega) (fun g hg => (ownsRow_ge hown hg).1)); have h15 : Row5 w5 w.heap.size (.int .i64 6) (.int .i64 x2) (.string tx2) (.slice (some ⟨b3, o3, none⟩) 1 cn3) (.slice (some ⟨b4, o4, none⟩) 1 ci4) := ((h1.alloc _).alloc _).drew.far (grown_far hgrow5 (by have := h1.lt; simp [World.drew]; omega) (fun e => hgne _ e.symm rfl)); obtain ⟨⟨v0, u0⟩, ⟨v1, u1⟩, ⟨v2, u2⟩, ⟨v3, u3⟩, ⟨v4, u4⟩⟩ := id h15; have n0 : w5.cell? ⟨b4, o4, none⟩ = some (.int .i64 k5) := (hB5.cell (cell_lt (hC 0 _ rfl))).trans (hC 0 _ rfl); have n1 : w5.cell? ⟨b4, o4 + 1, none⟩ = some (.int .i64 x5) := (hB5.cell (cell_lt (hC 1 _ rfl))).trans (hC 1 _ rfl); have n2 : w5.cell? ⟨b4, o4 + 2, none⟩ = some (.string tx5) := (hB5.cell (cell_lt (hC 2 _ rfl))).trans (hC 2 _ rfl); have n3 : w5.cell? ⟨b4, o4 + 3, none⟩ = some (.slice an5 ln5 cn5) := (hB5.cell (cell_lt (hC 3 _ rfl))).trans (hC 3 _ rfl); have n4 : w5.cell? ⟨b4, o4 + 4, none⟩ = some (.slice ai5 li5 ci5) := (hB5.cell (cell_lt (hC 4 _ rfl))).trans (hC 4 _ rfl))
      have hgb : g ≠ w.heap.size := by
        have hl := h1.lt
        rcases hat5 with h | h
        · exact hgne g h
        · rw [h]; simp [World.drew]; omega
      go_roundw
      case rel =>
        refine ⟨2, _, rfl, rfl, hB5.trans (put5_below (Nat.le_refl _) _ _ _ _ _), ?_⟩
        refine .inr (.inr ⟨rfl, ownsRow_keep hown5 (fun g0 e => put5_far _ _ _ _ _ (by cases e; exact hgb))⟩)
      case measure => simp [intOf]
    · obtain ⟨at0, ct0, rfl⟩ := ownsRow_slice hown
      go_wp2_with fail
      rw [Exit.noGoto_ret]
      go_ret2
      exact ⟨hbel, _, rfl, hown⟩
end Go.Proofs.Ytbhjbicbgmeboaa
