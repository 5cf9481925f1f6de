import Derived.Test.YtgohjkblfojmaaaDoorY1
import Derived.Test.YtgohjkblfojmaaaDoorX6
import Derived.Test.YtgohjkblfojmaaaDoorW26
/-! JsonvalFirst (function 4), walked. -/
namespace Go.Proofs.YtgohjkblfojmaaaDoor
open Go Go.RowKit Go.Maps

theorem parse_long (T : ByteArray) (w : World) (hT : 65536 < T.size) :
    Calls Tryd.prog 8 #[.string T] w fun e w' => e = .returned (.tuple #[.agg #[.int .i64 0, .int .i64 0, .string noS, .slice none 0 0, .slice none 0 0], .int .i64 1, .int .i64 0]) ∧ Below w.heap.size w w' := by
  have hlong : (65536 : Int) < (T.size : Int) := by omega
  go_enter Tryd.func8, Tryd.ntmps8
  go_wp2_with fail
  have p0 : (w.alloc (.cells #[.int .i64 0, .int .i64 0, .string noS, .slice none 0 0, .slice none 0 0] 28)).heap[w.heap.size]? = some (.cells #[.int .i64 0, .int .i64 0, .string noS, .slice none 0 0, .slice none 0 0] 28 (0, 0)) := heap_alloc_new w _
  have r0 := cell_of p0 0
  have r1 := cell_of p0 1
  have r2 := cell_of p0 2
  have r3 := cell_of p0 3
  have r4 := cell_of p0 4
  unfold noS at *
  refine bodyPost_ret (v := .tuple #[.agg #[.int .i64 0, .int .i64 0, .string { data := #[] }, .slice none 0 0, .slice none 0 0], .int .i64 1, .int .i64 0]) (by simp [results, Tryd.results8, go_sem, r0, r1, r2, r3, r4]) rfl ?_
  exact ⟨rfl, (Below.refl _ _).alloc (Nat.le_refl _) _⟩
/-- What Parse answers, but for the value's meaning. -/
def PP {α : Type} (e : Ending) : Res α → Prop
  | .ok _ _ => ∃ (kd x : Int) (s : ByteArray) (a1 : Option Addr) (l1 c1 : Nat) (a2 : Option Addr) (l2 c2 : Nat), e = .returned (.tuple #[.agg #[.int .i64 kd, .int .i64 x, .string s, .slice a1 l1 c1, .slice a2 l2 c2], .int .i64 0, .int .i64 0])
  | .bad er p => ∃ (kd x : Int) (s : ByteArray) (a1 : Option Addr) (l1 c1 : Nat) (a2 : Option Addr) (l2 c2 : Nat), e = .returned (.tuple #[.agg #[.int .i64 kd, .int .i64 x, .string s, .slice a1 l1 c1, .slice a2 l2 c2], .int .i64 (er : Int), .int .i64 (p : Int)])
set_option maxHeartbeats 2000000 in
theorem first_bad {α : Type} (R : ByteArray → Res α) (T : ByteArray) (w : World)
   (HP : Hid (∀ S w', Below w.heap.size w w' → Calls Tryd.prog 8 #[.string S] w' fun e w'' => PP e (R S) ∧ Below w'.heap.size w' w''))
   (HL : Hid (∀ w', Below w.heap.size w w' → Calls Tryd.prog 7 #[] w' fun e w'' => e = .returned (.bool true) ∧ Below w'.heap.size w' w''))
   (er q : Nat) (h : R T = .bad er q) (h0 : er ≠ 0) (hq : q ≤ T.size) (h3 : er = 3 → q = T.size)
   (hc : (∃ j, R (T.extract 0 q) = .ok j 0) ∨ R (T.extract 0 q) = .bad 3 q) :
    Calls Tryd.prog 4 #[.string T] w fun e w' => e = .returned (.bool true) ∧ Below w.heap.size w w' := by
  have HC := hid' hc
  have H3 : Hid (((er : Int) == 3) = false ∨ (((er : Int) == 3) = true ∧ ((q : Int) == (T.size : Int)) = true)) := by
    unfold Hid
    by_cases g : er = 3
    · exact Or.inr ⟨by simp [g], by have := h3 g; simp [this]⟩
    · exact Or.inl (by simp; omega)
  have e0 : ((er : Int) == 0) = false := by simp; omega
  have d0 : decide ((q : Int) < 0) = false := by simp
  have d1 : decide ((T.size : Int) < (q : Int)) = false := by simp; omega
  have d2 : ¬ T.size < q := by omega
  have i1 : (0 : Int) ≤ (q : Int) := by omega
  have i2 : (q : Int) ≤ (T.size : Int) := by omega
  clear hc h3
  go_enter Tryd.func4, Tryd.ntmps4
  go_wp2_with fail
  refine (HP.out T w (Below.refl _ _)).mono ?_
  rintro e w1 ⟨hp, hb1⟩
  rw [h] at hp
  obtain ⟨kd, x, s, a1, l1, c1, a2, l2, c2, rfl⟩ := hp
  clear h
  go_wp2_with fail
  refine (num_any er _).mono ?_
  rintro e w2 ⟨rfl, rfl⟩
  go_wp2_with fail
  refine (num_any er _).mono ?_
  rintro e w2 ⟨rfl, rfl⟩
  have hbx := hb1.alloc hb1.size (.cells #[.int .i64 kd, .int .i64 x, .string s, .slice a1 l1 c1, .slice a2 l2 c2] 28)
  rcases H3.out with e3 | ⟨e3, e4⟩
  all_goals
    clear H3 hb1
    go_wp2_with fail
    refine (HP.out _ _ hbx).mono ?_
    rintro e w2 ⟨hp, hb2⟩
    have hbw2 := hbx.trans (hb2.mono hbx.size)
    clear hb2
    rcases HC.out with ⟨j, g⟩ | g
    · rw [g] at hp
      obtain ⟨kd', x', s', a1', l1', c1', a2', l2', c2', rfl⟩ := hp
      clear g HC
      have hby := hbw2.alloc hbw2.size (.cells #[.int .i64 kd', .int .i64 x', .string s', .slice a1' l1' c1', .slice a2' l2' c2'] 28)
      go_wp2_with fail
      refine (num_any 0 _).mono ?_
      rintro e w3 ⟨rfl, rfl⟩
      go_wp2_with fail
      refine (HL.out _ hby).mono ?_
      rintro e w3 ⟨rfl, hb3⟩
      have hbw3 := hby.trans (hb3.mono hby.size)
      go_wp2_with fail
      go_ret
      exact ⟨rfl, hbw3⟩
    · rw [g] at hp
      obtain ⟨kd', x', s', a1', l1', c1', a2', l2', c2', rfl⟩ := hp
      clear g HC
      have hby := hbw2.alloc hbw2.size (.cells #[.int .i64 kd', .int .i64 x', .string s', .slice a1' l1' c1', .slice a2' l2' c2'] 28)
      go_wp2_with fail
      refine (num_any 3 _).mono ?_
      rintro e w3 ⟨rfl, rfl⟩
      go_wp2_with fail
      refine (num_any 3 _).mono ?_
      rintro e w3 ⟨rfl, rfl⟩
      go_wp2_with fail
      refine (HL.out _ hby).mono ?_
      rintro e w3 ⟨rfl, hb3⟩
      have hbw3 := hby.trans (hb3.mono hby.size)
      go_wp2_with fail
      go_ret
      exact ⟨rfl, hbw3⟩
set_option maxHeartbeats 2000000 in
theorem first_ok {α : Type} (R : ByteArray → Res α) (T : ByteArray) (w : World)
   (HP : Hid (∀ S w', Below w.heap.size w w' → Calls Tryd.prog 8 #[.string S] w' fun e w'' => PP e (R S) ∧ Below w'.heap.size w' w''))
   (HL : Hid (∀ w', Below w.heap.size w w' → Calls Tryd.prog 7 #[] w' fun e w'' => e = .returned (.bool true) ∧ Below w'.heap.size w' w''))
   (j : α) (h : R T = .ok j 0) (hT : T.size ≤ 65536) (hn : T.size ≠ 65536) (hc : R (T ++ ⟨#[0]⟩) = .bad 4 T.size) :
    Calls Tryd.prog 4 #[.string T] w fun e w' => e = .returned (.bool true) ∧ Below w.heap.size w w' := by
  have HC := hid' hc
  have e1 : ((T.size : Int) == 65536) = false := by simp; omega
  have g1 : ¬ 9223372036854775807 < T.size + ({ data := #[0] } : ByteArray).size := by show ¬ 9223372036854775807 < T.size + 1; omega
  clear hc
  go_enter Tryd.func4, Tryd.ntmps4
  go_wp2_with fail
  refine (HP.out T w (Below.refl _ _)).mono ?_
  rintro e w1 ⟨hp, hb1⟩
  rw [h] at hp
  obtain ⟨kd, x, s, a1, l1, c1, a2, l2, c2, rfl⟩ := hp
  clear h
  go_wp2_with fail
  refine (num_any 0 _).mono ?_
  rintro e w2 ⟨rfl, rfl⟩
  have hbx := hb1.alloc hb1.size (.cells #[.int .i64 kd, .int .i64 x, .string s, .slice a1 l1 c1, .slice a2 l2 c2] 28)
  clear hb1
  go_wp2_with fail
  refine (HP.out _ _ hbx).mono ?_
  rintro e w2 ⟨hp, hb2⟩
  rw [HC.out] at hp
  obtain ⟨kd', x', s', a1', l1', c1', a2', l2', c2', rfl⟩ := hp
  have hbw2 := hbx.trans (hb2.mono hbx.size)
  clear hb2 HC
  have hby := hbw2.alloc hbw2.size (.cells #[.int .i64 kd', .int .i64 x', .string s', .slice a1' l1' c1', .slice a2' l2' c2'] 28)
  go_wp2_with fail
  refine (num_any 4 _).mono ?_
  rintro e w3 ⟨rfl, rfl⟩
  go_wp2_with fail
  refine (HL.out _ hby).mono ?_
  rintro e w3 ⟨rfl, hb3⟩
  have hbw3 := hby.trans (hb3.mono hby.size)
  go_wp2_with fail
  go_ret
  exact ⟨rfl, hbw3⟩
set_option maxHeartbeats 2000000 in
theorem first_most {α : Type} (R : ByteArray → Res α) (T : ByteArray) (w : World)
   (HP : Hid (∀ S w', Below w.heap.size w w' → Calls Tryd.prog 8 #[.string S] w' fun e w'' => PP e (R S) ∧ Below w'.heap.size w' w''))
   (HL : Hid (∀ w', Below w.heap.size w w' → Calls Tryd.prog 7 #[] w' fun e w'' => e = .returned (.bool true) ∧ Below w'.heap.size w' w''))
   (j : α) (h : R T = .ok j 0) (hn : T.size = 65536) (hc : R (T ++ ⟨#[0]⟩) = .bad 1 0) :
    Calls Tryd.prog 4 #[.string T] w fun e w' => e = .returned (.bool true) ∧ Below w.heap.size w w' := by
  have HC := hid' hc
  have e1 : ((T.size : Int) == 65536) = true := by rw [hn]; rfl
  have g1 : ¬ 9223372036854775807 < T.size + ({ data := #[0] } : ByteArray).size := by show ¬ 9223372036854775807 < T.size + 1; omega
  clear hc hn
  go_enter Tryd.func4, Tryd.ntmps4
  go_wp2_with fail
  refine (HP.out T w (Below.refl _ _)).mono ?_
  rintro e w1 ⟨hp, hb1⟩
  rw [h] at hp
  obtain ⟨kd, x, s, a1, l1, c1, a2, l2, c2, rfl⟩ := hp
  clear h
  go_wp2_with fail
  refine (num_any 0 _).mono ?_
  rintro e w2 ⟨rfl, rfl⟩
  have hbx := hb1.alloc hb1.size (.cells #[.int .i64 kd, .int .i64 x, .string s, .slice a1 l1 c1, .slice a2 l2 c2] 28)
  clear hb1
  go_wp2_with fail
  refine (HP.out _ _ hbx).mono ?_
  rintro e w2 ⟨hp, hb2⟩
  rw [HC.out] at hp
  obtain ⟨kd', x', s', a1', l1', c1', a2', l2', c2', rfl⟩ := hp
  have hbw2 := hbx.trans (hb2.mono hbx.size)
  clear hb2 HC
  have hby := hbw2.alloc hbw2.size (.cells #[.int .i64 kd', .int .i64 x', .string s', .slice a1' l1' c1', .slice a2' l2' c2'] 28)
  go_wp2_with fail
  refine (HL.out _ hby).mono ?_
  rintro e w3 ⟨rfl, hb3⟩
  have hbw3 := hby.trans (hb3.mono hby.size)
  go_wp2_with fail
  go_ret
  exact ⟨rfl, hbw3⟩

theorem parse_all (T : ByteArray) (w : World) (hE : Env w) (h8 : 8 ≤ w.heap.size) :
    Calls Tryd.prog 8 #[.string T] w fun e w' => PP e (parsed T) ∧ Below w.heap.size w w' := by
  unfold parsed
  by_cases hT : T.size ≤ 65536
  · rw [if_pos hT]
    refine (parse_any T (textR T) (quoted_g T hT) w hE h8 hT).mono ?_
    rintro e w' ⟨hp, hb⟩
    refine ⟨?_, hb⟩
    cases hr : wholeR T (textR T) with
    | ok j n =>
      rw [hr] at hp
      obtain ⟨kd, x, s, a1, l1, c1, a2, l2, c2, rfl, _⟩ := hp
      exact ⟨kd, x, s, a1, l1, c1, a2, l2, c2, rfl⟩
    | bad er p =>
      rw [hr] at hp
      have hp' : e = _ := hp
      exact ⟨0, 0, noS, none, 0, 0, none, 0, 0, hp'⟩
  · rw [if_neg hT]
    refine (parse_long T w (by omega)).mono ?_
    rintro e w' ⟨he, hb⟩
    exact ⟨⟨0, 0, noS, none, 0, 0, none, 0, 0, he⟩, hb⟩
theorem EnvP.below' {w w1 : World} (h : EnvP w) (hb : Below w.heap.size w w1) : EnvP w1 := h.below hb h.big
theorem first_true (T : ByteArray) (w : World) (hE : Env w) (hP : EnvP w) : Calls Tryd.prog 4 #[.string T] w fun e w' => e = .returned (.bool true) ∧ Below w.heap.size w w' := by
  have h8 := hP.big
  have HP : Hid (∀ S w', Below w.heap.size w w' → Calls Tryd.prog 8 #[.string S] w' fun e w'' => PP e (parsed S) ∧ Below w'.heap.size w' w'') := fun S w' hb => parse_all S w' (hE.below hb h8) (by have := hb.size; omega)
  have HL : Hid (∀ w', Below w.heap.size w w' → Calls Tryd.prog 7 #[] w' fun e w'' => e = .returned (.bool true) ∧ Below w'.heap.size w' w'') := fun w' hb => live_true w' (hE.below hb h8) (hP.below' hb)
  rcases parsed_cases T with ⟨j, h⟩ | ⟨e, q, h, h0, hq, h3⟩
  · have hT : T.size ≤ 65536 := by
      unfold parsed at h
      split at h
      · assumption
      · cases h
    by_cases hn : T.size = 65536
    · exact first_most parsed T w HP HL j h hn (by unfold parsed; rw [if_neg (by rw [ByteArray.size_append]; show ¬ T.size + 1 ≤ 65536; omega)])
    · exact first_ok parsed T w HP HL j h hT hn (parsed_more T j h hn)
  · exact first_bad parsed T w HP HL e q h h0 hq h3 (parsed_cut T e q h)
end Go.Proofs.YtgohjkblfojmaaaDoor
