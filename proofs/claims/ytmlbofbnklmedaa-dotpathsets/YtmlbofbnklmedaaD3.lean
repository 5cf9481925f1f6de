import Derived.Test.YtmlbofbnklmedaaC4
import Derived.WalkMore
/-! The way down. -/
namespace Go.Proofs.Ytmlbofbnklmedaa
open Go Go.RowKit

set_option maxHeartbeats 2000000 in
set_option maxRecDepth 100000 in
theorem place6 (x : Int) (tx : ByteArray) (an : Option Addr) (cn : Nat) (ns : List ByteArray) (a : Option Addr) (m c : Nat) (s : ByteArray) (w : World) (hN : Reads w (.slice an ns.length cn) ns) :
    Calls Try.prog 31 #[.agg #[.int .i64 6, .int .i64 x, .string tx, .slice an ns.length cn, .slice a m c], .string s] w fun e w' => e = .returned (.tuple #[.int .i64 (placeI 6 ns s), .bool (placeB 6 ns m s)]) ∧ w' = (w.alloc (.cells #[.int .i64 6, .int .i64 x, .string tx, .slice an ns.length cn, .slice a m c] 25)).drew := by
  have hB : ∀ o, Below w.heap.size w (w.alloc o) := fun o => (Below.refl _ _).alloc (Nat.le_refl _) _
  have hix : ∀ o, Calls Try.prog 50 #[.slice an ns.length cn, .string s] (w.alloc o) fun e w' => e = .returned (.int .i64 (Lib.idxOfS ns s)) ∧ w' = w.alloc o := fun o => sindex_any _ ns s _ (hN.keep (hB o))
  clear hN
  unfold placeI placeB
  rw [if_pos rfl, if_pos rfl]
  generalize Lib.idxOfS ns s = z at *
  by_cases h0 : 0 ≤ z
  · by_cases h1 : z < m
    all_goals
      go_enter Try.func31, Try.ntmps31
      go_wp2_with fail
      refine (hix _).mono ?_
      rintro e w1 ⟨rfl, rfl⟩
      clear hix
      go_wp2_with fail
      go_region
      go_wp2_with fail
      go_ret2
      exact ⟨by simp [h0, h1], rfl⟩
  · have hd : decide (0 ≤ z) = false := by simpa using h0
    rw [hd, Bool.false_and]
    go_enter Try.func31, Try.ntmps31
    go_wp2_with fail
    refine (hix _).mono ?_
    rintro e w1 ⟨rfl, rfl⟩
    clear hix
    go_wp2_with fail
    go_region
    go_wp2_with fail
    go_ret2
    exact ⟨rfl, rfl⟩
theorem new3 (w : World) (o1 o2 o3 : Obj) : ((((w.alloc o1).alloc o2).alloc o3).drew).heap[w.heap.size + 1 + 1]? = some o3 := by
  have := heap_alloc_new ((w.alloc o1).alloc o2) o3
  rw [World.size_alloc, World.size_alloc] at this
  exact this
theorem field4 (c0 c1 c2 c3 c4 : Value) (w : World) : (Instr.field 25 (.agg #[c0, c1, c2, c3, c4]) 4).run Try.prog w = .ok c4 w := by kernel_rfl
theorem A64 : (Try.prog.info? 63).map (fun i => (i.zero, i.size, i.bytes)) = some (some (.agg #[.int .i64 0, .int .i64 0, .string ⟨#[]⟩, .slice none 0 0, .slice none 0 0, .string ⟨#[]⟩, .int .i64 0]), 7, 104) := by kernel_rfl
theorem place_nil (s : ByteArray) : placeI 6 [] s = -1 ∧ placeB 6 [] 0 s = false := ⟨rfl, rfl⟩
theorem Row5.below {W W' : World} {g : Nat} {c0 c1 c2 c3 c4 : Value} (h : Row5 W g c0 c1 c2 c3 c4) (hb : Below W.heap.size W W') : Row5 W' g c0 c1 c2 c3 c4 := h.far (hb.block _ h.lt)

set_option maxHeartbeats 2000000 in
set_option maxRecDepth 100000 in
theorem down_a (x : Int) (tx : ByteArray) (an : Option Addr) (cn : Nat) (ai : Option Addr) (ci : Nat) (b o n c : Nat) (s : ByteArray) (hs64 : s.size ≤ 64) (hi : idx s = none) (hn : 1 ≤ n) (w : World) (hs : w.cell? ⟨b, o, none⟩ = some (.string s)) (hcn : cn ≤ 100) :
    Calls Try.prog 28 #[.agg #[.int .i64 6, .int .i64 x, .string tx, .slice an 0 cn, .slice ai 0 ci], .slice (some ⟨b, o, none⟩) n c] w fun e w' => Below w.heap.size w w' ∧ ∃ g cap, e = .returned (.tuple #[.slice (some ⟨g, 0, none⟩) 1 cap, .int .i64 0]) ∧ w'.ownsRow w.heap.size 63 7 (.slice (some ⟨g, 0, none⟩) 1 cap) 1 [.int .i64 6, .int .i64 x, .string tx, .slice an 0 cn, .slice ai 0 ci, .string s, .int .i64 0] := by
  obtain ⟨i64, hi64, hz0, hz1, hz2⟩ := info_parts A64
  have hd : decide ((0 : Int) < (n : Int)) = true := by simp; omega
  have hs' : ∀ o1, (w.alloc o1).cell? ⟨b, o, none⟩ = some (.string s) := fun o1 => cell_alloc' hs o1
  have hpl : ∀ o1, Calls Try.prog 31 #[.agg #[.int .i64 6, .int .i64 x, .string tx, .slice an 0 cn, .slice ai 0 ci], .string s] (w.alloc o1) fun e w' => e = .returned (.tuple #[.int .i64 (-1), .bool false]) ∧ w' = ((w.alloc o1).alloc (.cells #[.int .i64 6, .int .i64 x, .string tx, .slice an 0 cn, .slice ai 0 ci] 25)).drew := fun o1 => place6 x tx an cn [] ai 0 ci s (w.alloc o1) ⟨an, cn, rfl, ⟨Nat.zero_le _, by omega⟩, .inl rfl⟩
  have hix := fun w => index_any s (by omega) w
  unfold idxV at hix
  rw [hi] at hix
  have hnew : Row5 (w.alloc (.cells #[.int .i64 6, .int .i64 x, .string tx, .slice an 0 cn, .slice ai 0 ci] 25)) w.heap.size (.int .i64 6) (.int .i64 x) (.string tx) (.slice an 0 cn) (.slice ai 0 ci) := row5_of (heap_alloc_new w _)
  go_enter Try.func28, Try.ntmps28
  go_wp2_with fail
  go_step3
  go_wp2_with fail
  go_step3
  go_wp2_with fail
  refine wp_loop_rounds 1 ?_
  rw [rounds_succ]
  go_wp2_with fail
  refine (hpl _).mono ?_
  rintro e w1 ⟨rfl, rfl⟩
  clear hpl hs'
  go_wp2_with fail
  refine (hix _).mono ?_
  rintro e w3 ⟨rfl, hb3⟩
  clear hix
  have hB3 : Below w.heap.size w w3 := (below_drew (((Below.refl _ w).alloc (Nat.le_refl _) _).alloc (by simp) _)).trans (hb3.mono (by simp [World.drew]; omega))
  have h3 : Row5 w3 w.heap.size (.int .i64 6) (.int .i64 x) (.string tx) (.slice an 0 cn) (.slice ai 0 ci) := ((hnew.alloc (.cells #[.int .i64 6, .int .i64 x, .string tx, .slice an 0 cn, .slice ai 0 ci] 25)).far rfl).below (W := ((w.alloc (.cells #[.int .i64 6, .int .i64 x, .string tx, .slice an 0 cn, .slice ai 0 ci] 25)).alloc (.cells #[.int .i64 6, .int .i64 x, .string tx, .slice an 0 cn, .slice ai 0 ci] 25)).drew) hb3
  clear hb3 hnew
  obtain ⟨⟨y0, -⟩, ⟨y1, -⟩, ⟨y2, -⟩, ⟨y3, -⟩, ⟨y4, -⟩⟩ := id h3
  have z0 := fun o o' => ((h3.alloc o).alloc o').1.1; have z1 := fun o o' => ((h3.alloc o).alloc o').2.1.1; have z2 := fun o o' => ((h3.alloc o).alloc o').2.2.1.1; have z3 := fun o o' => ((h3.alloc o).alloc o').2.2.2.1.1; have z4 := fun o o' => ((h3.alloc o).alloc o').2.2.2.2.1
  go_wp2_with fail
  refine (bare_obj x tx an 0 cn ai ci (Nat.zero_le _) (Nat.zero_le _) _).mono ?_
  rintro e w4 ⟨rfl, rfl⟩
  have hfd := field4
  go_wp2_with (at_builtin; (refine wpList_append_lies _ rfl _ _ 55 rfl w.heap.size 63 i64 _ 7 104 Try.underlying55 hi64 hz0 hz1 hz2 rfl (by decide) _ 0 [] rfl (World.ownsRow_nil _ _ _ _) _ 1 1 [.int .i64 6, .int .i64 x, .string tx, .slice an 0 cn, .slice ai 0 ci, .string s, .int .i64 0] rfl rfl (World.news_of_block (new3 w3 _ _ _)) (by simp [Value.oneCell']) (by decide) (by unfold maxLen; omega) (by omega) (by have := hB3.size; simp [World.drew]; omega) _ rfl ?_; intro g cap w5 hown5 hgrow5 hat5 hlt5))
  rw [Exit.noGoto_ret]
  go_ret2
  refine ⟨?_, g, cap, rfl, hown5⟩
  exact (below_drew (((hB3.alloc hB3.size _).alloc (by have := hB3.size; simp; omega) _).alloc (by have := hB3.size; simp; omega) _)).trans (grown_below hgrow5 (by have := hB3.size; simp [World.drew]; omega) (fun g hg => by cases hg))
end Go.Proofs.Ytmlbofbnklmedaa
namespace Go.Proofs.Ytmlbofbnklmedaa
open Go Go.RowKit

theorem Row5.drew {W : World} {g : Nat} {c0 c1 c2 c3 c4 : Value} (h : Row5 W g c0 c1 c2 c3 c4) : Row5 W.drew g c0 c1 c2 c3 c4 := h
theorem place_one (s : ByteArray) : placeI 6 [s] s = 0 ∧ placeB 6 [s] 1 s = true := by
  have : Lib.idxOfS [s] s = 0 := by simp [Lib.idxOfS, Lib.idxFromS]
  simp [placeI, placeB, this]
theorem new2' (w : World) (o1 o2 : Obj) : (((w.alloc o1).alloc o2).drew).heap[w.heap.size + 1]? = some o2 := new2 w o1 o2
theorem grown_far {W W' : World} {row : Option Nat} {g : Nat} (h : W.grownBy W' row) (hl : g < W.heap.size) (hn : some g ≠ row) : W'.heap[g]? = W.heap[g]? := h.block g hl hn

set_option maxHeartbeats 4000000 in
set_option maxRecDepth 100000 in
theorem down_b (x : Int) (tx : ByteArray) (b o cn b2 o2 ci : Nat) (x2 : Int) (tx2 : ByteArray) (b3 o3 cn3 b4 o4 ci4 : Nat) (k5 x5 : Int) (tx5 : ByteArray) (an5 : Option Addr) (ln5 cn5 : Nat) (ai5 : Option Addr) (li5 ci5 : Nat) (s1 s2 : ByteArray) (bp op cp : Nat) (w : World)
    (hp0 : w.cell? ⟨bp, op, none⟩ = some (.string s1)) (hp1 : w.cell? ⟨bp, op + 1, none⟩ = some (.string s2)) (hs1 : w.cell? ⟨b, o, none⟩ = some (.string s1)) (hs2 : w.cell? ⟨b3, o3, none⟩ = some (.string s2)) (hB : CellsAt w b2 o2 [.int .i64 6, .int .i64 x2, .string tx2, .slice (some ⟨b3, o3, none⟩) 1 cn3, .slice (some ⟨b4, o4, none⟩) 1 ci4]) (hC : CellsAt w b4 o4 [.int .i64 k5, .int .i64 x5, .string tx5, .slice an5 ln5 cn5, .slice ai5 li5 ci5])
    (hcn : 1 ≤ cn ∧ cn ≤ 9223372036854775807) (hcn3 : 1 ≤ cn3 ∧ cn3 ≤ 9223372036854775807) :
    Calls Try.prog 28 #[.agg #[.int .i64 6, .int .i64 x, .string tx, .slice (some ⟨b, o, none⟩) 1 cn, .slice (some ⟨b2, o2, none⟩) 1 ci], .slice (some ⟨bp, op, none⟩) 2 cp] w fun e w' => Below w.heap.size w w' ∧ ∃ tv, e = .returned (.tuple #[tv, .int .i64 0]) ∧ w'.ownsRow w.heap.size 63 7 tv 2 ([.int .i64 6, .int .i64 x, .string tx, .slice (some ⟨b, o, none⟩) 1 cn, .slice (some ⟨b2, o2, none⟩) 1 ci, .string s1, .int .i64 0] ++ [.int .i64 6, .int .i64 x2, .string tx2, .slice (some ⟨b3, o3, none⟩) 1 cn3, .slice (some ⟨b4, o4, none⟩) 1 ci4, .string s2, .int .i64 0]) := by
  obtain ⟨i64, hi64, hz0, hz1, hz2⟩ := info_parts A64
  have hnew : Row5 (w.alloc (.cells #[.int .i64 6, .int .i64 x, .string tx, .slice (some ⟨b, o, none⟩) 1 cn, .slice (some ⟨b2, o2, none⟩) 1 ci] 25)) w.heap.size (.int .i64 6) (.int .i64 x) (.string tx) (.slice (some ⟨b, o, none⟩) 1 cn) (.slice (some ⟨b2, o2, none⟩) 1 ci) := row5_of (heap_alloc_new w _)
  replace hB : ∀ (j : Nat) (u : Value), ([.int .i64 6, .int .i64 x2, .string tx2, .slice (some ⟨b3, o3, none⟩) 1 cn3, .slice (some ⟨b4, o4, none⟩) 1 ci4] : List Value)[j]? = some u → w.cell? ⟨b2, o2 + j, none⟩ = some u := hB
  replace hC : ∀ (j : Nat) (u : Value), ([.int .i64 k5, .int .i64 x5, .string tx5, .slice an5 ln5 cn5, .slice ai5 li5 ci5] : List Value)[j]? = some u → w.cell? ⟨b4, o4 + j, none⟩ = some u := hC
  go_enter Try.func28, Try.ntmps28
  go_wp2_with fail
  go_step3
  go_wp2_with fail
  go_step3
  go_wp2_with fail
  go_loopw [6, 16] (fun tv i wr => ∃ (q : Nat) (tv0 : Value), tv = tv0 ∧ i = .int .i64 q ∧ Below w.heap.size w wr ∧
      ((q = 0 ∧ Row5 wr w.heap.size (.int .i64 6) (.int .i64 x) (.string tx) (.slice (some ⟨b, o, none⟩) 1 cn) (.slice (some ⟨b2, o2, none⟩) 1 ci) ∧ tv0 = .slice none 0 0) ∨
       (q = 1 ∧ Row5 wr w.heap.size (.int .i64 6) (.int .i64 x2) (.string tx2) (.slice (some ⟨b3, o3, none⟩) 1 cn3) (.slice (some ⟨b4, o4, none⟩) 1 ci4) ∧ wr.ownsRow w.heap.size 63 7 tv0 1 [.int .i64 6, .int .i64 x, .string tx, .slice (some ⟨b, o, none⟩) 1 cn, .slice (some ⟨b2, o2, none⟩) 1 ci, .string s1, .int .i64 0] ∧ (∀ g, tv0.ownBlock = some g → g ≠ w.heap.size)) ∨
       (q = 2 ∧ wr.ownsRow w.heap.size 63 7 tv0 2 ([.int .i64 6, .int .i64 x, .string tx, .slice (some ⟨b, o, none⟩) 1 cn, .slice (some ⟨b2, o2, none⟩) 1 ci, .string s1, .int .i64 0] ++ [.int .i64 6, .int .i64 x2, .string tx2, .slice (some ⟨b3, o3, none⟩) 1 cn3, .slice (some ⟨b4, o4, none⟩) 1 ci4, .string s2, .int .i64 0])))) (fun _ i _ => 2 - (intOf i).toNat)
  case atStart => exact ⟨0, _, rfl, rfl, (Below.refl _ w).alloc (Nat.le_refl _) _, .inl ⟨rfl, hnew, rfl⟩⟩
  case round =>
    clear hnew
    obtain ⟨q, tv, rfl, rfl, hbel, ⟨rfl, h1, rfl⟩ | ⟨rfl, h1, hown, hgne⟩ | ⟨rfl, hown⟩⟩ := hrel
    · have hd : decide ((0 : Int) < (2 : Int)) = true := by decide
      obtain ⟨⟨y0, -⟩, ⟨y1, -⟩, ⟨y2, -⟩, ⟨y3, -⟩, ⟨y4, -⟩⟩ := id h1
      have z0 := fun o => (h1.alloc o).1.1; have z1 := fun o => (h1.alloc o).2.1.1; have z2 := fun o => (h1.alloc o).2.2.1.1; have z3 := fun o => (h1.alloc o).2.2.2.1.1; have z4 := fun o => (h1.alloc o).2.2.2.2.1
      have hcp : wr.cell? ⟨bp, op, none⟩ = some (.string s1) := (hbel.cell (p := ⟨bp, op, none⟩) (cell_lt hp0)).trans hp0
      have hpl := place6 x tx (some ⟨b, o, none⟩) cn [s1] (some ⟨b2, o2, none⟩) 1 ci s1 wr ⟨_, _, rfl, ⟨by simpa using hcn.1, hcn.2⟩, .inr ⟨_, _, rfl, Nat.lt_of_lt_of_le (cell_lt hs1) hbel.size, fun j u hj => by
        rcases j with _ | j
        · cases hj; exact (hbel.cell (cell_lt hs1)).trans hs1
        · simp at hj⟩⟩
      rw [(place_one s1).1, (place_one s1).2] at hpl
      simp only [List.length_cons, List.length_nil, Nat.zero_add] at hpl
      go_wp2_with fail
      refine hpl.mono ?_
      rintro e w1 ⟨rfl, rfl⟩
      clear hpl
      go_wp2_with (at_builtin; refine wpList_append_lies _ rfl _ _ 55 rfl w.heap.size 63 i64 _ 7 104 Try.underlying55 hi64 hz0 hz1 hz2 rfl (by decide) _ 0 ([] : List Value) rfl (World.ownsRow_nil _ _ _ _) _ 1 1 [.int .i64 6, .int .i64 x, .string tx, .slice (some ⟨b, o, none⟩) 1 cn, .slice (some ⟨b2, o2, none⟩) 1 ci, .string s1, .int .i64 0] rfl rfl (World.news_of_block (new2' wr _ _)) (by simp [Value.oneCell']) (by decide) (by unfold maxLen; omega) (by omega) (by have := hbel.size; simp [World.drew]; omega) _ rfl ?_; intro g cap w5 hown5 hgrow5 hat5 hlt5; have hB5 : Below w.heap.size w w5 := (below_drew ((hbel.alloc hbel.size _).alloc (by have := hbel.size; simp; omega) _)).trans (grown_below hgrow5 (by have := hbel.size; simp [World.drew]; omega) (fun g hg => by cases hg)); have h15 : Row5 w5 w.heap.size (.int .i64 6) (.int .i64 x) (.string tx) (.slice (some ⟨b, o, none⟩) 1 cn) (.slice (some ⟨b2, o2, none⟩) 1 ci) := ((h1.alloc _).alloc _).drew.far (grown_far hgrow5 (by have := h1.lt; simp [World.drew]; omega) (fun e => by cases e)); obtain ⟨⟨v0, u0⟩, ⟨v1, u1⟩, ⟨v2, u2⟩, ⟨v3, u3⟩, ⟨v4, u4⟩⟩ := id h15; have n0 : w5.cell? ⟨b2, o2, none⟩ = some (.int .i64 6) := (hB5.cell (cell_lt (hB 0 _ rfl))).trans (hB 0 _ rfl); have n1 : w5.cell? ⟨b2, o2 + 1, none⟩ = some (.int .i64 x2) := (hB5.cell (cell_lt (hB 1 _ rfl))).trans (hB 1 _ rfl); have n2 : w5.cell? ⟨b2, o2 + 2, none⟩ = some (.string tx2) := (hB5.cell (cell_lt (hB 2 _ rfl))).trans (hB 2 _ rfl); have n3 : w5.cell? ⟨b2, o2 + 3, none⟩ = some (.slice (some ⟨b3, o3, none⟩) 1 cn3) := (hB5.cell (cell_lt (hB 3 _ rfl))).trans (hB 3 _ rfl); have n4 : w5.cell? ⟨b2, o2 + 4, none⟩ = some (.slice (some ⟨b4, o4, none⟩) 1 ci4) := (hB5.cell (cell_lt (hB 4 _ rfl))).trans (hB 4 _ rfl))
      have hgb : g ≠ w.heap.size := by
        have hl := h1.lt
        rcases hat5 with h | h
        · cases h
        · rw [h]; simp [World.drew]; omega
      go_roundw
      case rel =>
        refine ⟨1, _, rfl, rfl, hB5.trans (put5_below (Nat.le_refl _) _ _ _ _ _), ?_⟩
        refine .inr (.inl ⟨rfl, h15.put _ _ _ _ _, ownsRow_keep hown5 (fun g0 e => put5_far _ _ _ _ _ (by cases e; exact hgb)), fun g0 e => by cases e; exact hgb⟩)
      case measure => simp [intOf]
    · obtain ⟨at0, ct0, rfl⟩ := ownsRow_slice hown
      have hd : decide ((1 : Int) < (2 : Int)) = true := by decide
      obtain ⟨⟨y0, -⟩, ⟨y1, -⟩, ⟨y2, -⟩, ⟨y3, -⟩, ⟨y4, -⟩⟩ := id h1
      have z0 := fun o => (h1.alloc o).1.1; have z1 := fun o => (h1.alloc o).2.1.1; have z2 := fun o => (h1.alloc o).2.2.1.1; have z3 := fun o => (h1.alloc o).2.2.2.1.1; have z4 := fun o => (h1.alloc o).2.2.2.2.1
      have hcp : wr.cell? ⟨bp, op + 1, none⟩ = some (.string s2) := (hbel.cell (p := ⟨bp, op + 1, none⟩) (cell_lt hp1)).trans hp1
      have hpl := place6 x2 tx2 (some ⟨b3, o3, none⟩) cn3 [s2] (some ⟨b4, o4, none⟩) 1 ci4 s2 wr ⟨_, _, rfl, ⟨by simpa using hcn3.1, hcn3.2⟩, .inr ⟨_, _, rfl, Nat.lt_of_lt_of_le (cell_lt hs2) hbel.size, fun j u hj => by
        rcases j with _ | j
        · cases hj; exact (hbel.cell (cell_lt hs2)).trans hs2
        · simp at hj⟩⟩
      rw [(place_one s2).1, (place_one s2).2] at hpl
      simp only [List.length_cons, List.length_nil, Nat.zero_add] at hpl
      go_wp2_with fail
      refine hpl.mono ?_
      rintro e w1 ⟨rfl, rfl⟩
      clear hpl
      go_wp2_with (at_builtin; refine wpList_append_lies _ rfl _ _ 55 rfl w.heap.size 63 i64 _ 7 104 Try.underlying55 hi64 hz0 hz1 hz2 rfl (by decide) _ 1 [.int .i64 6, .int .i64 x, .string tx, .slice (some ⟨b, o, none⟩) 1 cn, .slice (some ⟨b2, o2, none⟩) 1 ci, .string s1, .int .i64 0] rfl (((hown.alloc _).alloc _)) _ 1 1 [.int .i64 6, .int .i64 x2, .string tx2, .slice (some ⟨b3, o3, none⟩) 1 cn3, .slice (some ⟨b4, o4, none⟩) 1 ci4, .string s2, .int .i64 0] rfl rfl (World.news_of_block (new2' wr _ _)) (by simp [Value.oneCell']) (by decide) (by unfold maxLen; omega) (by omega) (by have := hbel.size; simp [World.drew]; omega) _ rfl ?_; intro g cap w5 hown5 hgrow5 hat5 hlt5; have hB5 : Below w.heap.size w w5 := (below_drew ((hbel.alloc hbel.size _).alloc (by have := hbel.size; simp; omega) _)).trans (grown_below hgrow5 (by have := hbel.size; simp [World.drew]; omega) (fun g hg => (ownsRow_ge hown hg).1)); have h15 : Row5 w5 w.heap.size (.int .i64 6) (.int .i64 x2) (.string tx2) (.slice (some ⟨b3, o3, none⟩) 1 cn3) (.slice (some ⟨b4, o4, none⟩) 1 ci4) := ((h1.alloc _).alloc _).drew.far (grown_far hgrow5 (by have := h1.lt; simp [World.drew]; omega) (fun e => hgne _ e.symm rfl)); obtain ⟨⟨v0, u0⟩, ⟨v1, u1⟩, ⟨v2, u2⟩, ⟨v3, u3⟩, ⟨v4, u4⟩⟩ := id h15; have n0 : w5.cell? ⟨b4, o4, none⟩ = some (.int .i64 k5) := (hB5.cell (cell_lt (hC 0 _ rfl))).trans (hC 0 _ rfl); have n1 : w5.cell? ⟨b4, o4 + 1, none⟩ = some (.int .i64 x5) := (hB5.cell (cell_lt (hC 1 _ rfl))).trans (hC 1 _ rfl); have n2 : w5.cell? ⟨b4, o4 + 2, none⟩ = some (.string tx5) := (hB5.cell (cell_lt (hC 2 _ rfl))).trans (hC 2 _ rfl); have n3 : w5.cell? ⟨b4, o4 + 3, none⟩ = some (.slice an5 ln5 cn5) := (hB5.cell (cell_lt (hC 3 _ rfl))).trans (hC 3 _ rfl); have n4 : w5.cell? ⟨b4, o4 + 4, none⟩ = some (.slice ai5 li5 ci5) := (hB5.cell (cell_lt (hC 4 _ rfl))).trans (hC 4 _ rfl))
      have hgb : g ≠ w.heap.size := by
        have hl := h1.lt
        rcases hat5 with h | h
        · exact hgne g h
        · rw [h]; simp [World.drew]; omega
      go_roundw
      case rel =>
        refine ⟨2, _, rfl, rfl, hB5.trans (put5_below (Nat.le_refl _) _ _ _ _ _), ?_⟩
        refine .inr (.inr ⟨rfl, ownsRow_keep hown5 (fun g0 e => put5_far _ _ _ _ _ (by cases e; exact hgb))⟩)
      case measure => simp [intOf]
    · obtain ⟨at0, ct0, rfl⟩ := ownsRow_slice hown
      go_wp2_with fail
      rw [Exit.noGoto_ret]
      go_ret2
      exact ⟨hbel, _, rfl, hown⟩
end Go.Proofs.Ytmlbofbnklmedaa
namespace Go.Proofs.Ytmlbofbnklmedaa
open Go Go.RowKit

set_option maxHeartbeats 4000000 in
set_option maxRecDepth 100000 in
theorem gather_b (x : Int) (tx : ByteArray) (b o cn b2 o2 ci : Nat) (x2 : Int) (tx2 : ByteArray) (b3 o3 cn3 b4 o4 ci4 : Nat) (k5 x5 : Int) (tx5 : ByteArray) (an5 : Option Addr) (ln5 cn5 : Nat) (ai5 : Option Addr) (li5 ci5 : Nat) (s1 s2 : ByteArray) (bp op cp : Nat) (w : World)
    (hp0 : w.cell? ⟨bp, op, none⟩ = some (.string s1)) (hp1 : w.cell? ⟨bp, op + 1, none⟩ = some (.string s2)) (hs1 : w.cell? ⟨b, o, none⟩ = some (.string s1)) (hs2 : w.cell? ⟨b3, o3, none⟩ = some (.string s2)) (hB : CellsAt w b2 o2 [.int .i64 6, .int .i64 x2, .string tx2, .slice (some ⟨b3, o3, none⟩) 1 cn3, .slice (some ⟨b4, o4, none⟩) 1 ci4]) (hC : CellsAt w b4 o4 [.int .i64 k5, .int .i64 x5, .string tx5, .slice an5 ln5 cn5, .slice ai5 li5 ci5])
    (hcn : 1 ≤ cn ∧ cn ≤ 9223372036854775807) (hcn3 : 1 ≤ cn3 ∧ cn3 ≤ 9223372036854775807) :
    Calls Try.prog 43 #[.slice none 0 0, .agg #[.int .i64 6, .int .i64 x, .string tx, .slice (some ⟨b, o, none⟩) 1 cn, .slice (some ⟨b2, o2, none⟩) 1 ci], .slice (some ⟨bp, op, none⟩) 2 cp] w fun e w' => Below w.heap.size w w' ∧ ∃ g cap, e = .returned (.slice (some ⟨g, 0, none⟩) 1 cap) := by
  have c0 : ∀ p1, (w.alloc p1).cell? ⟨bp, op, none⟩ = some (.string s1) := fun p1 => (cell_alloc' hp0 _)
  have c1 : ∀ p1 p2, ((w.alloc p1).alloc p2).cell? ⟨bp, op + 1, none⟩ = some (.string s2) := fun p1 p2 => (cell_alloc' (cell_alloc' hp1 _) _)
  have d0 : ∀ p1 p2, ((w.alloc p1).alloc p2).cell? ⟨b2, o2, none⟩ = some (.int .i64 6) := fun p1 p2 => (cell_alloc' (cell_alloc' (hB 0 _ rfl) _) _)
  have d1 : ∀ p1 p2, ((w.alloc p1).alloc p2).cell? ⟨b2, o2 + 1, none⟩ = some (.int .i64 x2) := fun p1 p2 => (cell_alloc' (cell_alloc' (hB 1 _ rfl) _) _)
  have d2 : ∀ p1 p2, ((w.alloc p1).alloc p2).cell? ⟨b2, o2 + 2, none⟩ = some (.string tx2) := fun p1 p2 => (cell_alloc' (cell_alloc' (hB 2 _ rfl) _) _)
  have d3 : ∀ p1 p2, ((w.alloc p1).alloc p2).cell? ⟨b2, o2 + 3, none⟩ = some (.slice (some ⟨b3, o3, none⟩) 1 cn3) := fun p1 p2 => (cell_alloc' (cell_alloc' (hB 3 _ rfl) _) _)
  have d4 : ∀ p1 p2, ((w.alloc p1).alloc p2).cell? ⟨b2, o2 + 4, none⟩ = some (.slice (some ⟨b4, o4, none⟩) 1 ci4) := fun p1 p2 => (cell_alloc' (cell_alloc' (hB 4 _ rfl) _) _)
  have f0 : ∀ p1 p2 p3, (((w.alloc p1).alloc p2).alloc p3).cell? ⟨b4, o4, none⟩ = some (.int .i64 k5) := fun p1 p2 p3 => (cell_alloc' (cell_alloc' (cell_alloc' (hC 0 _ rfl) _) _) _)
  have f1 : ∀ p1 p2 p3, (((w.alloc p1).alloc p2).alloc p3).cell? ⟨b4, o4 + 1, none⟩ = some (.int .i64 x5) := fun p1 p2 p3 => (cell_alloc' (cell_alloc' (cell_alloc' (hC 1 _ rfl) _) _) _)
  have f2 : ∀ p1 p2 p3, (((w.alloc p1).alloc p2).alloc p3).cell? ⟨b4, o4 + 2, none⟩ = some (.string tx5) := fun p1 p2 p3 => (cell_alloc' (cell_alloc' (cell_alloc' (hC 2 _ rfl) _) _) _)
  have f3 : ∀ p1 p2 p3, (((w.alloc p1).alloc p2).alloc p3).cell? ⟨b4, o4 + 3, none⟩ = some (.slice an5 ln5 cn5) := fun p1 p2 p3 => (cell_alloc' (cell_alloc' (cell_alloc' (hC 3 _ rfl) _) _) _)
  have f4 : ∀ p1 p2 p3, (((w.alloc p1).alloc p2).alloc p3).cell? ⟨b4, o4 + 4, none⟩ = some (.slice ai5 li5 ci5) := fun p1 p2 p3 => (cell_alloc' (cell_alloc' (cell_alloc' (hC 4 _ rfl) _) _) _)
  have hpl1 : ∀ p1, Calls Try.prog 31 #[.agg #[.int .i64 6, .int .i64 x, .string tx, .slice (some ⟨b, o, none⟩) 1 cn, .slice (some ⟨b2, o2, none⟩) 1 ci], .string s1] (w.alloc p1) fun e w' => e = .returned (.tuple #[.int .i64 0, .bool true]) ∧ w' = ((w.alloc p1).alloc (.cells #[.int .i64 6, .int .i64 x, .string tx, .slice (some ⟨b, o, none⟩) 1 cn, .slice (some ⟨b2, o2, none⟩) 1 ci] 25)).drew := fun p1 => by
    have := place6 x tx (some ⟨b, o, none⟩) cn [s1] (some ⟨b2, o2, none⟩) 1 ci s1 (w.alloc p1) ⟨_, _, rfl, ⟨by simpa using hcn.1, hcn.2⟩, .inr ⟨_, _, rfl, cell_lt (cell_alloc' hs1 _), fun j u hj => by
      rcases j with _ | j
      · cases hj; exact (cell_alloc' hs1 _)
      · simp at hj⟩⟩
    rw [(place_one s1).1, (place_one s1).2] at this
    exact this
  have hpl2 : ∀ p1 p2, Calls Try.prog 31 #[.agg #[.int .i64 6, .int .i64 x2, .string tx2, .slice (some ⟨b3, o3, none⟩) 1 cn3, .slice (some ⟨b4, o4, none⟩) 1 ci4], .string s2] ((w.alloc p1).alloc p2).drew fun e w' => e = .returned (.tuple #[.int .i64 0, .bool true]) ∧ w' = (((w.alloc p1).alloc p2).drew.alloc (.cells #[.int .i64 6, .int .i64 x2, .string tx2, .slice (some ⟨b3, o3, none⟩) 1 cn3, .slice (some ⟨b4, o4, none⟩) 1 ci4] 25)).drew := fun p1 p2 => by
    have := place6 x2 tx2 (some ⟨b3, o3, none⟩) cn3 [s2] (some ⟨b4, o4, none⟩) 1 ci4 s2 ((w.alloc p1).alloc p2).drew ⟨_, _, rfl, ⟨by simpa using hcn3.1, hcn3.2⟩, .inr ⟨_, _, rfl, cell_lt (cell_alloc' (cell_alloc' hs2 _) _), fun j u hj => by
      rcases j with _ | j
      · cases hj; exact (cell_alloc' (cell_alloc' hs2 _) _)
      · simp at hj⟩⟩
    rw [(place_one s2).1, (place_one s2).2] at this
    exact this
  clear hp0 hp1 hs1 hs2 hB hC
  go_enter Try.func43, Try.ntmps43
  go_wp2_with fail
  refine wp_loop_rounds 3 ?_
  rw [rounds_succ]
  go_wp2_with fail
  refine (hpl1 _).mono ?_
  rintro e w1 ⟨rfl, rfl⟩
  clear hpl1
  go_wp2_with fail
  rw [rounds_succ]
  go_wp2_with fail
  refine (hpl2 _ _).mono ?_
  rintro e w1 ⟨rfl, rfl⟩
  clear hpl2
  go_wp2_with fail
  rw [rounds_succ]
  go_wp2
  go_ret
  refine ⟨?_, _, _, rfl⟩
  repeat (first | exact Below.refl _ _ | refine below_drewN ?_ _ | refine below_drew ?_ | (refine Below.alloc ?_ ?_ _; (rotate_left; (simp <;> omega))))

set_option maxHeartbeats 1000000 in
theorem all_b (x : Int) (tx : ByteArray) (b o cn b2 o2 ci : Nat) (x2 : Int) (tx2 : ByteArray) (b3 o3 cn3 b4 o4 ci4 : Nat) (k5 x5 : Int) (tx5 : ByteArray) (an5 : Option Addr) (ln5 cn5 : Nat) (ai5 : Option Addr) (li5 ci5 : Nat) (s1 s2 : ByteArray) (bp op cp : Nat) (w : World)
    (hp0 : w.cell? ⟨bp, op, none⟩ = some (.string s1)) (hp1 : w.cell? ⟨bp, op + 1, none⟩ = some (.string s2)) (hs1 : w.cell? ⟨b, o, none⟩ = some (.string s1)) (hs2 : w.cell? ⟨b3, o3, none⟩ = some (.string s2)) (hB : CellsAt w b2 o2 [.int .i64 6, .int .i64 x2, .string tx2, .slice (some ⟨b3, o3, none⟩) 1 cn3, .slice (some ⟨b4, o4, none⟩) 1 ci4]) (hC : CellsAt w b4 o4 [.int .i64 k5, .int .i64 x5, .string tx5, .slice an5 ln5 cn5, .slice ai5 li5 ci5])
    (hcn : 1 ≤ cn ∧ cn ≤ 9223372036854775807) (hcn3 : 1 ≤ cn3 ∧ cn3 ≤ 9223372036854775807) :
    Calls Try.prog 26 #[.agg #[.int .i64 6, .int .i64 x, .string tx, .slice (some ⟨b, o, none⟩) 1 cn, .slice (some ⟨b2, o2, none⟩) 1 ci], .slice (some ⟨bp, op, none⟩) 2 cp] w fun e w' => Below w.heap.size w w' ∧ ∃ g cap, e = .returned (.slice (some ⟨g, 0, none⟩) 1 cap) := by
  have hg : ∀ p1, Calls Try.prog 43 #[.slice none 0 0, .agg #[.int .i64 6, .int .i64 x, .string tx, .slice (some ⟨b, o, none⟩) 1 cn, .slice (some ⟨b2, o2, none⟩) 1 ci], .slice (some ⟨bp, op, none⟩) 2 cp] (w.alloc p1) fun e w' => Below (w.alloc p1).heap.size (w.alloc p1) w' ∧ ∃ g cap, e = .returned (.slice (some ⟨g, 0, none⟩) 1 cap) := fun p1 =>
    gather_b x tx b o cn b2 o2 ci x2 tx2 b3 o3 cn3 b4 o4 ci4 k5 x5 tx5 an5 ln5 cn5 ai5 li5 ci5 s1 s2 bp op cp (w.alloc p1) (cell_alloc' hp0 _) (cell_alloc' hp1 _) (cell_alloc' hs1 _) (cell_alloc' hs2 _) (fun j u hj => cell_alloc' (hB j u hj) _) (fun j u hj => cell_alloc' (hC j u hj) _) hcn hcn3
  clear hp0 hp1 hs1 hs2 hB hC
  go_enter Try.func26, Try.ntmps26
  go_wp2_with fail
  refine (hg _).mono ?_
  rintro e w1 ⟨hb1, g, cap, rfl⟩
  clear hg
  go_wp2_with fail
  go_ret
  exact ⟨below_box hb1, g, cap, rfl⟩
end Go.Proofs.Ytmlbofbnklmedaa
