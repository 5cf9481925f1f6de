import Derived.Test.YtbhjbicbgmeboaaC4
import Derived.WalkMore
/-! The way down. -/
namespace Go.Proofs.Ytbhjbicbgmeboaa
open Go Go.RowKit

set_option maxHeartbeats 2000000 in
set_option maxRecDepth 100000 in
theorem place6 (x : Int) (tx : ByteArray) (an : Option Addr) (cn : Nat) (ns : List ByteArray) (a : Option Addr) (m c : Nat) (s : ByteArray) (w : World) (hN : Reads w (.slice an ns.length cn) ns) :
    Calls Try.prog 26 #[.agg #[.int .i64 6, .int .i64 x, .string tx, .slice an ns.length cn, .slice a m c], .string s] w fun e w' => e = .returned (.tuple #[.int .i64 (placeI 6 ns s), .bool (placeB 6 ns m s)]) ∧ w' = (w.alloc (.cells #[.int .i64 6, .int .i64 x, .string tx, .slice an ns.length cn, .slice a m c] 25)).drew := by
  have hB : ∀ o, Below w.heap.size w (w.alloc o) := fun o => (Below.refl _ _).alloc (Nat.le_refl _) _
  have hix : ∀ o, Calls Try.prog 41 #[.slice an ns.length cn, .string s] (w.alloc o) fun e w' => e = .returned (.int .i64 (Lib.idxOfS ns s)) ∧ w' = w.alloc o := fun o => sindex_any _ ns s _ (hN.keep (hB o))
  clear hN
  unfold placeI placeB
  rw [if_pos rfl, if_pos rfl]
  generalize Lib.idxOfS ns s = z at *
  by_cases h0 : 0 ≤ z
  · by_cases h1 : z < m
    all_goals
      go_enter Try.func26, Try.ntmps26
      go_wp2_with fail
      refine (hix _).mono ?_
      rintro e w1 ⟨rfl, rfl⟩
      clear hix
      go_wp2_with fail
      go_region
      go_wp2_with fail
      go_ret2
      exact ⟨by simp [h0, h1], rfl⟩
  · have hd : decide (0 ≤ z) = false := by simpa using h0
    rw [hd, Bool.false_and]
    go_enter Try.func26, Try.ntmps26
    go_wp2_with fail
    refine (hix _).mono ?_
    rintro e w1 ⟨rfl, rfl⟩
    clear hix
    go_wp2_with fail
    go_region
    go_wp2_with fail
    go_ret2
    exact ⟨rfl, rfl⟩
theorem new3 (w : World) (o1 o2 o3 : Obj) : ((((w.alloc o1).alloc o2).alloc o3).drew).heap[w.heap.size + 1 + 1]? = some o3 := by
  have := heap_alloc_new ((w.alloc o1).alloc o2) o3
  rw [World.size_alloc, World.size_alloc] at this
  exact this
theorem field4 (c0 c1 c2 c3 c4 : Value) (w : World) : (Instr.field 25 (.agg #[c0, c1, c2, c3, c4]) 4).run Try.prog w = .ok c4 w := by kernel_rfl
theorem A64 : (Try.prog.info? 64).map (fun i => (i.zero, i.size, i.bytes)) = some (some (.agg #[.int .i64 0, .int .i64 0, .string ⟨#[]⟩, .slice none 0 0, .slice none 0 0, .string ⟨#[]⟩, .int .i64 0]), 7, 104) := by kernel_rfl
theorem place_nil (s : ByteArray) : placeI 6 [] s = -1 ∧ placeB 6 [] 0 s = false := ⟨rfl, rfl⟩
theorem Row5.below {W W' : World} {g : Nat} {c0 c1 c2 c3 c4 : Value} (h : Row5 W g c0 c1 c2 c3 c4) (hb : Below W.heap.size W W') : Row5 W' g c0 c1 c2 c3 c4 := h.far (hb.block _ h.lt)

set_option maxHeartbeats 2000000 in
set_option maxRecDepth 100000 in
theorem down_a (x : Int) (tx : ByteArray) (an : Option Addr) (cn : Nat) (ai : Option Addr) (ci : Nat) (b o n c : Nat) (s : ByteArray) (hs64 : s.size ≤ 64) (hi : idx s = none) (hn : 1 ≤ n) (w : World) (hs : w.cell? ⟨b, o, none⟩ = some (.string s)) (hcn : cn ≤ 100) :
    Calls Try.prog 23 #[.agg #[.int .i64 6, .int .i64 x, .string tx, .slice an 0 cn, .slice ai 0 ci], .slice (some ⟨b, o, none⟩) n c] w fun e w' => Below w.heap.size w w' ∧ ∃ g cap, e = .returned (.tuple #[.slice (some ⟨g, 0, none⟩) 1 cap, .int .i64 0]) ∧ w'.ownsRow w.heap.size 64 7 (.slice (some ⟨g, 0, none⟩) 1 cap) 1 [.int .i64 6, .int .i64 x, .string tx, .slice an 0 cn, .slice ai 0 ci, .string s, .int .i64 0] := by
  obtain ⟨i64, hi64, hz0, hz1, hz2⟩ := info_parts A64
  have hd : decide ((0 : Int) < (n : Int)) = true := by simp; omega
  have hs' : ∀ o1, (w.alloc o1).cell? ⟨b, o, none⟩ = some (.string s) := fun o1 => cell_alloc' hs o1
  have hpl : ∀ o1, Calls Try.prog 26 #[.agg #[.int .i64 6, .int .i64 x, .string tx, .slice an 0 cn, .slice ai 0 ci], .string s] (w.alloc o1) fun e w' => e = .returned (.tuple #[.int .i64 (-1), .bool false]) ∧ w' = ((w.alloc o1).alloc (.cells #[.int .i64 6, .int .i64 x, .string tx, .slice an 0 cn, .slice ai 0 ci] 25)).drew := fun o1 => place6 x tx an cn [] ai 0 ci s (w.alloc o1) ⟨an, cn, rfl, ⟨Nat.zero_le _, by omega⟩, .inl rfl⟩
  have hix := fun w => index_any s (by omega) w
  unfold idxV at hix
  rw [hi] at hix
  have hnew : Row5 (w.alloc (.cells #[.int .i64 6, .int .i64 x, .string tx, .slice an 0 cn, .slice ai 0 ci] 25)) w.heap.size (.int .i64 6) (.int .i64 x) (.string tx) (.slice an 0 cn) (.slice ai 0 ci) := row5_of (heap_alloc_new w _)
  go_enter Try.func23, Try.ntmps23
  go_wp2_with fail
  go_step3
  go_wp2_with fail
  go_step3
  go_wp2_with fail
  refine wp_loop_rounds 1 ?_
  rw [rounds_succ]
  go_wp2_with fail
  refine (hpl _).mono ?_
  rintro e w1 ⟨rfl, rfl⟩
  clear hpl hs'
  go_wp2_with fail
  refine (hix _).mono ?_
  rintro e w3 ⟨rfl, hb3⟩
  clear hix
  have hB3 : Below w.heap.size w w3 := (below_drew (((Below.refl _ w).alloc (Nat.le_refl _) _).alloc (by simp) _)).trans (hb3.mono (by simp [World.drew]; omega))
  have h3 : Row5 w3 w.heap.size (.int .i64 6) (.int .i64 x) (.string tx) (.slice an 0 cn) (.slice ai 0 ci) := ((hnew.alloc (.cells #[.int .i64 6, .int .i64 x, .string tx, .slice an 0 cn, .slice ai 0 ci] 25)).far rfl).below (W := ((w.alloc (.cells #[.int .i64 6, .int .i64 x, .string tx, .slice an 0 cn, .slice ai 0 ci] 25)).alloc (.cells #[.int .i64 6, .int .i64 x, .string tx, .slice an 0 cn, .slice ai 0 ci] 25)).drew) hb3
  clear hb3 hnew
  obtain ⟨⟨y0, -⟩, ⟨y1, -⟩, ⟨y2, -⟩, ⟨y3, -⟩, ⟨y4, -⟩⟩ := id h3
  have z0 := fun o o' => ((h3.alloc o).alloc o').1.1; have z1 := fun o o' => ((h3.alloc o).alloc o').2.1.1; have z2 := fun o o' => ((h3.alloc o).alloc o').2.2.1.1; have z3 := fun o o' => ((h3.alloc o).alloc o').2.2.2.1.1; have z4 := fun o o' => ((h3.alloc o).alloc o').2.2.2.2.1
  go_wp2_with fail
  refine (bare_obj x tx an 0 cn ai ci (Nat.zero_le _) (Nat.zero_le _) _).mono ?_
  rintro e w4 ⟨rfl, rfl⟩
  have hfd := field4
  go_wp2_with (at_builtin; (refine wpList_append_lies _ rfl _ _ 50 rfl w.heap.size 64 i64 _ 7 104 Try.underlying50 hi64 hz0 hz1 hz2 rfl (by decide) _ 0 [] rfl (World.ownsRow_nil _ _ _ _) _ 1 1 [.int .i64 6, .int .i64 x, .string tx, .slice an 0 cn, .slice ai 0 ci, .string s, .int .i64 0] rfl rfl (World.news_of_block (new3 w3 _ _ _)) (by simp [Value.oneCell']) (by decide) (by unfold maxLen; omega) (by omega) (by have := hB3.size; simp [World.drew]; omega) _ rfl ?_; intro g cap w5 hown5 hgrow5 hat5 hlt5))
  rw [Exit.noGoto_ret]
  go_ret2
  refine ⟨?_, g, cap, rfl, hown5⟩
  exact (below_drew (((hB3.alloc hB3.size _).alloc (by have := hB3.size; simp; omega) _).alloc (by have := hB3.size; simp; omega) _)).trans (grown_below hgrow5 (by have := hB3.size; simp [World.drew]; omega) (fun g hg => by cases hg))
end Go.Proofs.Ytbhjbicbgmeboaa
