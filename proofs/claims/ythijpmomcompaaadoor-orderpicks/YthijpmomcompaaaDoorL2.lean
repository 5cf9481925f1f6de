import Derived.Test.YthijpmomcompaaaDoorL1
import Derived.Test.YthijpmomcompaaaDoorV4
/-! live: the number one's bytes. -/
namespace Go.Proofs.YthijpmomcompaaaDoor
open Go Go.RowKit

def num1 : List Value := [.int .u8 128, .int .u8 0, .int .u8 0, .int .u8 0, .int .u8 0, .int .u8 0, .int .u8 0, .int .u8 1]
theorem one_u8 (z : Int) : ∀ u ∈ [Value.int .u8 z], u.oneCell' = true := by intro u hu; rw [List.mem_singleton.1 hu]; rfl
theorem num1_step (q : Nat) (z : Int) (h : num1[q]? = some (.int .u8 z)) : num1.take q ++ [.int .u8 z] = num1.take (q + 1) := by
  rw [List.take_add_one, h]; rfl
set_option maxHeartbeats 4000000 in
set_option maxRecDepth 100000 in
theorem laidNumber1 (base : Nat) (v : Value) (n : Nat) (xs : List Value) (w : World) (hown : w.ownsRow base 5 1 v n xs) (hn : n ≤ 100) (hb : base ≤ w.heap.size) :
    Calls Tryd.prog 50 #[v, .int .i64 1] w fun e w' => ∃ v', e = .returned v' ∧ w'.ownsRow base 5 1 v' (n + 8) (xs ++ num1) ∧ Below base w w' := by
  obtain ⟨i5, hi5, hz0, hz1, hz2⟩ := info_parts A5
  go_enter Tryd.func50, Tryd.ntmps50
  go_wp2_with fail
  go_loopw [0, 10] (fun key i wr => ∃ q : Nat, q ≤ 8 ∧ i = .int .i64 q ∧ wr.ownsRow base 5 1 key (n + q) (xs ++ num1.take q) ∧ Below base w wr) (fun _ i _ => 8 - (intOf i).toNat)
  case atStart => exact ⟨0, by omega, rfl, by simpa using hown, Below.refl _ _⟩
  case round =>
    clear hown
    obtain ⟨q, hq, rfl, hown, hbel⟩ := hrel
    have hsz : base ≤ wr.heap.size := Nat.le_trans hb hbel.size
    by_cases h8 : q = 8
    · subst h8
      obtain ⟨a, c, rfl⟩ := ownsRow_slice hown
      go_wp2_with fail
      go_ret
      exact ⟨_, rfl, by simpa [num1] using hown, hbel⟩
    · obtain ⟨a, c, rfl⟩ := ownsRow_slice hown
      rcases (show q = 0 ∨ q = 1 ∨ q = 2 ∨ q = 3 ∨ q = 4 ∨ q = 5 ∨ q = 6 ∨ q = 7 by omega) with rfl | rfl | rfl | rfl | rfl | rfl | rfl | rfl
      · go_wp2_with (at_builtin; refine wpList_append_lies _ rfl _ _ 42 rfl base 5 i5 _ 1 1 Tryd.underlying42 hi5 hz0 hz1 hz2 rfl (by decide) _ (n + 0) (xs ++ num1.take 0) rfl (hown.alloc _) _ 1 1 [.int .u8 128] rfl rfl (World.news_of_block (heap_alloc_new wr _)) (one_u8 _) (by decide) (by unfold maxLen; omega) (by omega) (by simp only [World.size_alloc]; omega) _ rfl ?_; intro g cap w4 hown4 hgrow4 hat4 hlt4; clear hat4)
        replace hgrow4 : (wr.alloc (.cells #[.int .u8 128] 5)).grownBy w4 (Value.slice a (n + 0) c).ownBlock := hgrow4
        refine ⟨⟨1, by omega, rfl, by simpa [num1, List.append_assoc] using hown4, (hbel.alloc hsz _).trans (grown_below hgrow4 (by simp only [World.size_alloc]; omega) (fun g hg => (ownsRow_ge hown hg).1))⟩, by decide⟩
      · go_wp2_with (at_builtin; refine wpList_append_lies _ rfl _ _ 42 rfl base 5 i5 _ 1 1 Tryd.underlying42 hi5 hz0 hz1 hz2 rfl (by decide) _ (n + 1) (xs ++ num1.take 1) rfl (hown.alloc _) _ 1 1 [.int .u8 0] rfl rfl (World.news_of_block (heap_alloc_new wr _)) (one_u8 _) (by decide) (by unfold maxLen; omega) (by omega) (by simp only [World.size_alloc]; omega) _ rfl ?_; intro g cap w4 hown4 hgrow4 hat4 hlt4; clear hat4)
        replace hgrow4 : (wr.alloc (.cells #[.int .u8 0] 5)).grownBy w4 (Value.slice a (n + 1) c).ownBlock := hgrow4
        refine ⟨⟨2, by omega, rfl, by simpa [num1, List.append_assoc] using hown4, (hbel.alloc hsz _).trans (grown_below hgrow4 (by simp only [World.size_alloc]; omega) (fun g hg => (ownsRow_ge hown hg).1))⟩, by decide⟩
      · go_wp2_with (at_builtin; refine wpList_append_lies _ rfl _ _ 42 rfl base 5 i5 _ 1 1 Tryd.underlying42 hi5 hz0 hz1 hz2 rfl (by decide) _ (n + 2) (xs ++ num1.take 2) rfl (hown.alloc _) _ 1 1 [.int .u8 0] rfl rfl (World.news_of_block (heap_alloc_new wr _)) (one_u8 _) (by decide) (by unfold maxLen; omega) (by omega) (by simp only [World.size_alloc]; omega) _ rfl ?_; intro g cap w4 hown4 hgrow4 hat4 hlt4; clear hat4)
        replace hgrow4 : (wr.alloc (.cells #[.int .u8 0] 5)).grownBy w4 (Value.slice a (n + 2) c).ownBlock := hgrow4
        refine ⟨⟨3, by omega, rfl, by simpa [num1, List.append_assoc] using hown4, (hbel.alloc hsz _).trans (grown_below hgrow4 (by simp only [World.size_alloc]; omega) (fun g hg => (ownsRow_ge hown hg).1))⟩, by decide⟩
      · go_wp2_with (at_builtin; refine wpList_append_lies _ rfl _ _ 42 rfl base 5 i5 _ 1 1 Tryd.underlying42 hi5 hz0 hz1 hz2 rfl (by decide) _ (n + 3) (xs ++ num1.take 3) rfl (hown.alloc _) _ 1 1 [.int .u8 0] rfl rfl (World.news_of_block (heap_alloc_new wr _)) (one_u8 _) (by decide) (by unfold maxLen; omega) (by omega) (by simp only [World.size_alloc]; omega) _ rfl ?_; intro g cap w4 hown4 hgrow4 hat4 hlt4; clear hat4)
        replace hgrow4 : (wr.alloc (.cells #[.int .u8 0] 5)).grownBy w4 (Value.slice a (n + 3) c).ownBlock := hgrow4
        refine ⟨⟨4, by omega, rfl, by simpa [num1, List.append_assoc] using hown4, (hbel.alloc hsz _).trans (grown_below hgrow4 (by simp only [World.size_alloc]; omega) (fun g hg => (ownsRow_ge hown hg).1))⟩, by decide⟩
      · go_wp2_with (at_builtin; refine wpList_append_lies _ rfl _ _ 42 rfl base 5 i5 _ 1 1 Tryd.underlying42 hi5 hz0 hz1 hz2 rfl (by decide) _ (n + 4) (xs ++ num1.take 4) rfl (hown.alloc _) _ 1 1 [.int .u8 0] rfl rfl (World.news_of_block (heap_alloc_new wr _)) (one_u8 _) (by decide) (by unfold maxLen; omega) (by omega) (by simp only [World.size_alloc]; omega) _ rfl ?_; intro g cap w4 hown4 hgrow4 hat4 hlt4; clear hat4)
        replace hgrow4 : (wr.alloc (.cells #[.int .u8 0] 5)).grownBy w4 (Value.slice a (n + 4) c).ownBlock := hgrow4
        refine ⟨⟨5, by omega, rfl, by simpa [num1, List.append_assoc] using hown4, (hbel.alloc hsz _).trans (grown_below hgrow4 (by simp only [World.size_alloc]; omega) (fun g hg => (ownsRow_ge hown hg).1))⟩, by decide⟩
      · go_wp2_with (at_builtin; refine wpList_append_lies _ rfl _ _ 42 rfl base 5 i5 _ 1 1 Tryd.underlying42 hi5 hz0 hz1 hz2 rfl (by decide) _ (n + 5) (xs ++ num1.take 5) rfl (hown.alloc _) _ 1 1 [.int .u8 0] rfl rfl (World.news_of_block (heap_alloc_new wr _)) (one_u8 _) (by decide) (by unfold maxLen; omega) (by omega) (by simp only [World.size_alloc]; omega) _ rfl ?_; intro g cap w4 hown4 hgrow4 hat4 hlt4; clear hat4)
        replace hgrow4 : (wr.alloc (.cells #[.int .u8 0] 5)).grownBy w4 (Value.slice a (n + 5) c).ownBlock := hgrow4
        refine ⟨⟨6, by omega, rfl, by simpa [num1, List.append_assoc] using hown4, (hbel.alloc hsz _).trans (grown_below hgrow4 (by simp only [World.size_alloc]; omega) (fun g hg => (ownsRow_ge hown hg).1))⟩, by decide⟩
      · go_wp2_with (at_builtin; refine wpList_append_lies _ rfl _ _ 42 rfl base 5 i5 _ 1 1 Tryd.underlying42 hi5 hz0 hz1 hz2 rfl (by decide) _ (n + 6) (xs ++ num1.take 6) rfl (hown.alloc _) _ 1 1 [.int .u8 0] rfl rfl (World.news_of_block (heap_alloc_new wr _)) (one_u8 _) (by decide) (by unfold maxLen; omega) (by omega) (by simp only [World.size_alloc]; omega) _ rfl ?_; intro g cap w4 hown4 hgrow4 hat4 hlt4; clear hat4)
        replace hgrow4 : (wr.alloc (.cells #[.int .u8 0] 5)).grownBy w4 (Value.slice a (n + 6) c).ownBlock := hgrow4
        refine ⟨⟨7, by omega, rfl, by simpa [num1, List.append_assoc] using hown4, (hbel.alloc hsz _).trans (grown_below hgrow4 (by simp only [World.size_alloc]; omega) (fun g hg => (ownsRow_ge hown hg).1))⟩, by decide⟩
      · go_wp2_with (at_builtin; refine wpList_append_lies _ rfl _ _ 42 rfl base 5 i5 _ 1 1 Tryd.underlying42 hi5 hz0 hz1 hz2 rfl (by decide) _ (n + 7) (xs ++ num1.take 7) rfl (hown.alloc _) _ 1 1 [.int .u8 1] rfl rfl (World.news_of_block (heap_alloc_new wr _)) (one_u8 _) (by decide) (by unfold maxLen; omega) (by omega) (by simp only [World.size_alloc]; omega) _ rfl ?_; intro g cap w4 hown4 hgrow4 hat4 hlt4; clear hat4)
        replace hgrow4 : (wr.alloc (.cells #[.int .u8 1] 5)).grownBy w4 (Value.slice a (n + 7) c).ownBlock := hgrow4
        refine ⟨⟨8, by omega, rfl, by simpa [num1, List.append_assoc] using hown4, (hbel.alloc hsz _).trans (grown_below hgrow4 (by simp only [World.size_alloc]; omega) (fun g hg => (ownsRow_ge hown hg).1))⟩, by decide⟩
end Go.Proofs.YthijpmomcompaaaDoor
