import Derived.Test.YtgjemghfejaifaaGreatDoorK0
import Derived.Test.YtgjemghfejaifaaGreatDoorC2
/-! Check of every value: what a value's own cells tell. -/
namespace Go.Proofs.YtgjemghfejaifaaGreatDoor
open Go Go.RowKit Go.Maps

def keepsB (k x : Int) (s : ByteArray) (n m : Nat) : Bool :=
  (x == 0 || k == 3) && (decide (s = ⟨#[]⟩) || k == 4) && ((n : Int) == 0 || k == 6) && ((m : Int) == 0 || (k == 5 || k == 6))
def deepB (k : Int) : Int := if (k == 5 || k == 6) = true then 63 else 64
/-- What Check tells of a value but for what stands in it. -/
def aloneT (d k x : Int) (s : ByteArray) (n m : Nat) : Int :=
  if deepB k < d then 17 else if k < 0 ∨ 6 < k then 18 else if keepsB k x s n m = false then 18 else if Lib.validD s.data.toList = false then 18 else if k = 6 ∧ n ≠ m then 18 else 0

theorem deep_code (k : Int) (w : World) : Calls Tryz.prog 64 #[.int .i64 k] w fun e w' => e = .returned (.int .i64 (deepB k)) ∧ w' = w := by
  unfold deepB
  go_enter Tryz.func64, Tryz.ntmps64
  cases h : (k == 5 || k == 6)
  all_goals
    go_wp2_with (go_at_call 71; refine (nest_any _ _).mono ?_; rintro e w' ⟨rfl, rfl⟩; rw [h])
    go_ret
    exact ⟨rfl, rfl⟩
set_option maxHeartbeats 2000000 in
theorem keeps_code (k x : Int) (s : ByteArray) (a1 : Option Addr) (l1 c1 : Nat) (a2 : Option Addr) (l2 c2 : Nat) (w : World) :
    Calls Tryz.prog 65 #[.agg #[.int .i64 k, .int .i64 x, .string s, .slice a1 l1 c1, .slice a2 l2 c2]] w fun e w' => e = .returned (.bool (keepsB k x s l1 l2)) ∧ Below w.heap.size w w' := by
  have hB : ∀ o, Below w.heap.size w (w.alloc o) := fun o => (Below.refl _ _).alloc (Nat.le_refl _) _
  unfold keepsB
  by_cases hs : s = ⟨#[]⟩
  · subst hs
    go_enter Tryz.func65, Tryz.ntmps65
    go_wp2_with (go_at_call 71; refine (nest_any _ _).mono ?_; rintro e w' ⟨rfl, rfl⟩)
    all_goals (go_ret; exact ⟨ret_bool (by try simp [*]), hB _⟩)
  · have hs' : ¬ s.toList = [] := fun e => hs (by
      rw [ByteArray.toList_eq] at e
      exact ByteArray.ext (Array.toList_inj.1 (by simpa using e)))
    have hsd : decide (s = ⟨#[]⟩) = false := by simpa using hs
    rw [hsd]
    go_enter Tryz.func65, Tryz.ntmps65
    go_wp2_with (go_at_call 71; refine (nest_any _ _).mono ?_; rintro e w' ⟨rfl, rfl⟩)
    all_goals (go_ret; exact ⟨ret_bool (by try simp [*]), hB _⟩)

set_option maxHeartbeats 2000000 in
theorem alone_code (k x : Int) (s : ByteArray) (a1 : Option Addr) (l1 c1 : Nat) (a2 : Option Addr) (l2 c2 : Nat) (d : Int) (w : World) (hs : s.size ≤ 140737488351232) (hU : Hid (Lib.Utf8Tabs 1 2 w)) (h8 : 3 ≤ w.heap.size) :
    Calls Tryz.prog 49 #[.agg #[.int .i64 k, .int .i64 x, .string s, .slice a1 l1 c1, .slice a2 l2 c2], .int .i64 d] w fun e w' => e = .returned (.int .i64 (aloneT d k x s l1 l2)) ∧ Below w.heap.size w w' := by
  have hB : ∀ o, Below w.heap.size w (w.alloc o) := fun o => (Below.refl _ _).alloc (Nat.le_refl _) _
  obtain ⟨c, hc⟩ : ∃ c, Hid (aloneT d k x s l1 l2 = c) := ⟨_, hid_e rfl⟩
  rw [hc.out]
  obtain ⟨dp, hdp⟩ : ∃ z, Hid (deepB k = z) := ⟨_, hid_e rfl⟩
  obtain ⟨kb, hkb⟩ : ∃ z, Hid (keepsB k x s l1 l2 = z) := ⟨_, hid_e rfl⟩
  obtain ⟨vb, hvb⟩ : ∃ z, Hid (Lib.validD s.data.toList = z) := ⟨_, hid_e rfl⟩
  go_enter Tryz.func49, Tryz.ntmps49
  by_cases hd : dp < d
  · have hc' : Hid (c = 17) := by
      have h1 := hc.out; unfold aloneT at h1; rw [hdp.out, if_pos hd] at h1; exact h1.symm
    go_wp2_with (go_at_call 64; refine (deep_code _ _).mono ?_; rintro e w' ⟨rfl, rfl⟩; rw [hdp.out])
    go_ret
    exact ⟨ret_int hc'.out.symm, hB _⟩
  by_cases hk0 : k < 0
  · have hc' : Hid (c = 18) := by
      have h1 := hc.out; unfold aloneT at h1; rw [hdp.out, if_neg hd, if_pos (.inl hk0)] at h1; exact h1.symm
    go_wp2_with (go_at_call 64; refine (deep_code _ _).mono ?_; rintro e w' ⟨rfl, rfl⟩; rw [hdp.out])
    go_ret
    exact ⟨ret_int hc'.out.symm, hB _⟩
  by_cases hk6 : 6 < k
  · have hc' : Hid (c = 18) := by
      have h1 := hc.out; unfold aloneT at h1; rw [hdp.out, if_neg hd, if_pos (.inr hk6)] at h1; exact h1.symm
    go_wp2_with (go_at_call 64; refine (deep_code _ _).mono ?_; rintro e w' ⟨rfl, rfl⟩; rw [hdp.out])
    go_ret
    exact ⟨ret_int hc'.out.symm, hB _⟩
  have HC : Hid ((if keepsB k x s l1 l2 = false then 18 else if Lib.validD s.data.toList = false then 18 else if k = 6 ∧ l1 ≠ l2 then 18 else 0) = c) := by
    have h1 := hc.out; unfold aloneT at h1; rw [hdp.out, if_neg hd, if_neg (by omega)] at h1; exact h1
  go_wp2_with (go_at_call 64; refine (deep_code _ _).mono ?_; rintro e w' ⟨rfl, rfl⟩; rw [hdp.out])
  refine (keeps_code k x s a1 l1 c1 a2 l2 c2 _).mono ?_
  rintro e w1 ⟨rfl, hb1⟩
  rw [hkb.out]
  have z2 : w1.cell? ⟨w.heap.size, 2, none⟩ = some (.string s) := box_cells hb1 2
  have hU1 := hid_e (utf_below (utf_alloc hU.out h8 (.cells #[.int .i64 k, .int .i64 x, .string s, .slice a1 l1 c1, .slice a2 l2 c2] 25)) hb1 (by rw [World.size_alloc]; omega))
  cases kb
  · have hc' : Hid (c = 18) := by have h1 := HC.out; rw [if_pos hkb.out] at h1; exact h1.symm
    go_wp2_with fail
    go_ret
    exact ⟨ret_int hc'.out.symm, below_box hb1⟩
  go_wp2_with fail
  refine (Tryz.valid s w1 (by omega) hU1.out).mono ?_
  rintro e w2 ⟨rfl, hb2⟩
  rw [hvb.out]
  have hb12 := hb1.trans (hb2.mono hb1.size)
  have y0 : w2.cell? ⟨w.heap.size, 0, none⟩ = some (.int .i64 k) := box_cells hb12 0
  have y3 : w2.cell? ⟨w.heap.size, 3, none⟩ = some (.slice a1 l1 c1) := box_cells hb12 3
  have y4 : w2.cell? ⟨w.heap.size, 4, none⟩ = some (.slice a2 l2 c2) := box_cells hb12 4
  cases vb
  · have hc' : Hid (c = 18) := by have h1 := HC.out; rw [if_neg (by rw [hkb.out]; decide), if_pos hvb.out] at h1; exact h1.symm
    go_wp2_with fail
    go_ret
    exact ⟨ret_int hc'.out.symm, below_box hb12⟩
  have HC' : Hid ((if k = 6 ∧ l1 ≠ l2 then 18 else 0) = c) := by
    have h1 := HC.out; rw [if_neg (by rw [hkb.out]; decide), if_neg (by rw [hvb.out]; decide)] at h1; exact h1
  by_cases h6 : k = 6
  · by_cases hl : l1 = l2
    · have hc' : Hid (c = 0) := by have h1 := HC'.out; rw [if_neg (fun h => h.2 hl)] at h1; exact h1.symm
      have hl' : ((l1 : Int) == (l2 : Int)) = true := by simp [hl]
      go_wp2_with fail
      go_ret
      exact ⟨ret_int hc'.out.symm, below_box hb12⟩
    · have hc' : Hid (c = 18) := by have h1 := HC'.out; rw [if_pos ⟨h6, hl⟩] at h1; exact h1.symm
      have hl' : ((l1 : Int) == (l2 : Int)) = false := by simp; omega
      go_wp2_with fail
      go_ret
      exact ⟨ret_int hc'.out.symm, below_box hb12⟩
  · have hc' : Hid (c = 0) := by have h1 := HC'.out; rw [if_neg (fun h => h6 h.1)] at h1; exact h1.symm
    go_wp2_with fail
    go_ret
    exact ⟨ret_int hc'.out.symm, below_box hb12⟩
end Go.Proofs.YtgjemghfejaifaaGreatDoor
