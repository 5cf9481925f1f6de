import Derived.Test.YtnhijkmddfhcbaaGreatDoorW25
namespace Go.Proofs.YtnhijkmddfhcbaaGreatDoor
open Go Go.RowKit Go.Maps

def T1 : ByteArray := ⟨#[32, 123, 34, 97, 34, 32, 58, 32, 91, 49, 44, 32, 45, 50, 44, 32, 116, 114, 117, 101, 44, 32, 34, 120, 34, 93, 125, 32]⟩
def T2 : ByteArray := ⟨#[91, 49, 46, 53, 93]⟩
def J1 : J := .obj [⟨#[97]⟩] [.list [.int 1, .int (-2), .tru, .text ⟨#[120]⟩]]
theorem ev2 : wholeR T2 (textA T2) = .bad 14 2 := by kernel_rfl
theorem ev1 : wholeR T1 (textA T1) = .ok J1 0 := by kernel_rfl
theorem ev3 : textJ J1 = [123, 34, 97, 34, 58, 91, 49, 44, 45, 50, 44, 116, 114, 117, 101, 44, 34, 120, 34, 93, 125] := by kernel_rfl
theorem ev4 : lenJ J1 = 21 := by kernel_rfl
theorem asc1 : Asc T1 := by unfold Asc; decide
theorem asc2 : Asc T2 := by unfold Asc; decide
theorem okT_a : okT ⟨#[97]⟩ := by unfold okT; decide
theorem okT_x : okT ⟨#[120]⟩ := by unfold okT; decide
theorem sm1 : smJ J1 := by
  refine ⟨by decide, fun i hi => ?_, ⟨by decide, ⟨by decide, by decide⟩, ⟨by decide, by decide⟩, True.intro, okT_x, True.intro⟩, True.intro⟩
  have : i = 0 := by simp at hi; omega
  subst this
  exact okT_a
theorem Env.below {w w1 : World} {B : Nat} (h : Env w) (hb : Below B w w1) (h8 : 8 ≤ B) : Env w1 := h.keep (fun k hk => hb.block k (by omega))
theorem d2 : (2 : Nat) ≤ 64 := by decide
theorem ok1 : okJ 0 J1 := by
  refine ⟨by decide, by decide, ?_, ⟨by decide, by decide, d2, d2, d2, ⟨d2, by decide, by kernel_rfl⟩, True.intro⟩, True.intro⟩
  intro i hi
  have : i = 0 := by simp at hi; omega
  subst this
  exact ⟨by decide, by kernel_rfl, by kernel_rfl⟩
theorem num_any (n : Nat) (w : World) : Calls Tryz.prog 19 #[.int .i64 (n : Int)] w fun e w' => e = .returned (.int .i64 (n : Int)) ∧ w' = w := by
  go_enter Tryz.func19, Tryz.ntmps19
  go_wp2_with fail
  go_ret
  exact ⟨rfl, rfl⟩
set_option maxHeartbeats 2000000 in
theorem live_true (w : World) (hE : Env w) (hP : EnvP w) : Calls Tryz.prog 13 #[] w fun e w' => e = .returned (.bool true) ∧ Below w.heap.size w w' := by
  have h8 := hP.big
  have HP1 : Hid (∀ w', Below w.heap.size w w' → Calls Tryz.prog 17 #[.string T1] w' fun e w'' => ParsePost w' e w'' (.ok J1 0) ∧ Below w'.heap.size w' w'') := fun w' hb => by
    have := parse_any T1 (textA T1) (quoted_asc T1 asc1 (by decide)) w' (hE.below hb h8) (by have := hb.size; omega) (by decide)
    rwa [ev1] at this
  have HP2 : Hid (∀ w', Below w.heap.size w w' → Calls Tryz.prog 17 #[.string T2] w' fun e w'' => ParsePost w' e w'' (.bad 14 2) ∧ Below w'.heap.size w' w'') := fun w' hb => by
    have := parse_any T2 (textA T2) (quoted_asc T2 asc2 (by decide)) w' (hE.below hb h8) (by have := hb.size; omega) (by decide)
    rwa [ev2] at this
  have HPR : Hid (∀ (w' : World) (kd x : Int) (s : ByteArray) (a1 : Option Addr) (l1 c1 : Nat) (a2 : Option Addr) (l2 c2 hi : Nat), Below w.heap.size w w' → hi ≤ w'.heap.size → Rep w' w.heap.size hi J1 (five kd x s (.slice a1 l1 c1) (.slice a2 l2 c2)) → Calls Tryz.prog 18 #[.agg #[.int .i64 kd, .int .i64 x, .string s, .slice a1 l1 c1, .slice a2 l2 c2]] w' fun e w'' => e = .returned (.tuple #[.string ⟨#[123, 34, 97, 34, 58, 91, 49, 44, 45, 50, 44, 116, 114, 117, 101, 44, 34, 120, 34, 93, 125]⟩, .int .i64 0]) ∧ Below w'.heap.size w' w'') := fun w' kd x s a1 l1 c1 a2 l2 c2 hi hb hh hr => by
    have := print_any J1 w.heap.size hi w' kd x s a1 l1 c1 a2 l2 c2 hr hh ok1 sm1 (by rw [ev4]; decide) (by rw [ev3]; decide) (hP.below hb h8)
    rwa [ev3] at this
  go_enter Tryz.func13, Tryz.ntmps13
  go_wp2_with fail
  refine (HP1.out w (Below.refl _ _)).mono ?_
  rintro e w1 ⟨⟨kd, x, s, a1, l1, c1, a2, l2, c2, rfl, hrep⟩, hb1⟩
  have HR : Hid (Rep w1 w.heap.size w1.heap.size J1 (five kd x s (.slice a1 l1 c1) (.slice a2 l2 c2))) := hrep
  clear hrep
  go_wp2_with fail
  have hbx := hb1.alloc hb1.size (.cells #[.int .i64 kd, .int .i64 x, .string s, .slice a1 l1 c1, .slice a2 l2 c2] 26)
  refine (HPR.out _ kd x s a1 l1 c1 a2 l2 c2 w1.heap.size hbx (by simp) (Rep.keep J1 _ HR.out (fun k _ kb => heap_alloc_old w1 _ kb))).mono ?_
  rintro e w2 ⟨rfl, hb2⟩
  have hbw2 := hbx.trans (hb2.mono hbx.size)
  clear hb2 hbx HR HPR hb1
  go_wp2_with fail
  refine (HP2.out w2 hbw2).mono ?_
  rintro e w3 ⟨h, hb3⟩
  have h' : e = .returned (.tuple #[.agg #[.int .i64 0, .int .i64 0, .string noS, .slice none 0 0, .slice none 0 0], .int .i64 14, .int .i64 2]) := h
  subst h'
  have hbw3 := hbw2.trans (hb3.mono hbw2.size)
  clear h hb3
  go_wp2_with fail
  refine (num_any 0 _).mono ?_
  rintro e w4 ⟨rfl, rfl⟩
  go_wp2_with fail
  refine (num_any 0 _).mono ?_
  rintro e w4 ⟨rfl, rfl⟩
  go_wp2_with fail
  refine (num_any 14 _).mono ?_
  rintro e w4 ⟨rfl, rfl⟩
  go_wp2_with fail
  go_ret
  exact ⟨rfl, hbw3.alloc hbw3.size _⟩
end Go.Proofs.YtnhijkmddfhcbaaGreatDoor
